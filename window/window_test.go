package window_test

import (
	"fmt"
	"math"
	"math/rand"
	"slices"
	"testing"

	"variorum/api"
	"variorum/window"
)

// sends holds what Send tells.
func sends[T any](t *testing.T, o *window.Out[T], x T, n int, e api.Errno) {
	t.Helper()
	if gotN, gotE := o.Send(x); gotN != n || gotE != e {
		t.Fatalf("Send(%v): %d, %d; want %d, %d", x, gotN, gotE, n, e)
	}
}

// acks holds what Acked tells.
func acks[T any](t *testing.T, o *window.Out[T], n, many int, e api.Errno) {
	t.Helper()
	if gotMany, gotE := o.Acked(n); gotMany != many || gotE != e {
		t.Fatalf("Acked(%d): %d, %d; want %d, %d", n, gotMany, gotE, many, e)
	}
}

// holdsOut asks all that a window tells of numbers as they were sent, each ten times its own: those from base on are there.
func holdsOut(t *testing.T, o *window.Out[int], base, next int) {
	t.Helper()
	if o.Base() != base || o.Next() != next {
		t.Fatalf("Base %d, Next %d; want %d, %d", o.Base(), o.Next(), base, next)
	}
	for n := max(0, base-3); n < next+3; n++ {
		want := 0
		if n >= base && n < next {
			want = 10 * n
		}
		if x, ok := o.Get(n); x != want || ok != (want > 0) {
			t.Fatalf("Get(%d) of %d to %d: %d, %t", n, base, next, x, ok)
		}
	}
	for _, n := range []int{math.MinInt, math.MinInt + 1, math.MinInt + base, -1, math.MaxInt - 1, math.MaxInt} {
		if x, ok := o.Get(n); x != 0 || ok {
			t.Fatalf("Get(%d): %d, %t", n, x, ok)
		}
	}
}

// sent tells a window of so many things at most, with so many sent.
func sent(t *testing.T, most, many int) *window.Out[int] {
	t.Helper()
	o := window.NewOut[int](most)
	for n := 1; n <= many; n++ {
		sends(t, o, 10*n, n, api.OK)
	}
	return o
}

// comes holds what Come tells, and what is kept then.
func comes[T comparable](t *testing.T, i *window.In[T], n int, x T, told []T, e api.Errno, upto, early int) {
	t.Helper()
	got, gotE := i.Come(n, x)
	if !slices.Equal(got, told) || gotE != e {
		t.Fatalf("Come(%d): %v, %d; want %v, %d", n, got, gotE, told, e)
	}
	holdsIn(t, i, upto, early)
}

func holdsIn[T any](t *testing.T, i *window.In[T], upto, early int) {
	t.Helper()
	if i.Upto() != upto || i.Early() != early {
		t.Fatalf("Upto %d, Early %d; want %d, %d", i.Upto(), i.Early(), upto, early)
	}
}

// P14.1

func TestNew(t *testing.T) {
	for _, most := range []int{math.MinInt, -1, 0, api.MaxWindow + 1, 1 << 16, math.MaxInt} {
		if window.NewOut[int](most) != nil || window.NewIn[int](most) != nil || window.NewOut[string](most) != nil || window.NewIn[string](most) != nil {
			t.Errorf("of %d: not nil", most)
		}
	}
	for _, most := range []int{1, 2, api.MaxWindow - 1, api.MaxWindow} {
		o, i := window.NewOut[int](most), window.NewIn[int](most)
		if o == nil || i == nil {
			t.Fatalf("of %d: nil", most)
		}
		holdsOut(t, o, 1, 1)
		holdsIn(t, i, 0, 0)
	}
}

func TestSendUntilTheWindowIsFull(t *testing.T) {
	for most := 1; most <= api.MaxWindow; most++ {
		o := sent(t, most, most)
		for range 3 {
			sends(t, o, -1, 0, api.ErrWindow)
			holdsOut(t, o, 1, most+1)
		}
		acks(t, o, 1, 1, api.OK)
		holdsOut(t, o, 2, most+1)
		sends(t, o, 10*(most+1), most+1, api.OK)
		sends(t, o, -1, 0, api.ErrWindow)
		holdsOut(t, o, 2, most+2)
		acks(t, o, most+1, most, api.OK)
		holdsOut(t, o, most+2, most+2)
		for n := most + 2; n < 2*most+2; n++ {
			sends(t, o, 10*n, n, api.OK)
		}
		sends(t, o, -1, 0, api.ErrWindow)
		holdsOut(t, o, most+2, 2*most+2)
	}
}

func TestAcked(t *testing.T) {
	// Of 4 to 8: 3 are acknowledged, 9 is next.
	for _, x := range []struct {
		n, many int
		e       api.Errno
		base    int
	}{
		{math.MinInt, 0, api.ErrSeq, 4}, {-1, 0, api.ErrSeq, 4},
		{0, 0, api.OK, 4}, {1, 0, api.OK, 4}, {2, 0, api.OK, 4}, {3, 0, api.OK, 4},
		{4, 1, api.OK, 5}, {5, 2, api.OK, 6}, {7, 4, api.OK, 8}, {8, 5, api.OK, 9},
		{9, 0, api.ErrSeq, 4}, {10, 0, api.ErrSeq, 4}, {math.MaxInt, 0, api.ErrSeq, 4},
	} {
		o := sent(t, 8, 8)
		acks(t, o, 3, 3, api.OK)
		acks(t, o, x.n, x.many, x.e)
		holdsOut(t, o, x.base, 9)
		if x.e == api.OK {
			acks(t, o, x.n, 0, api.OK)
			holdsOut(t, o, x.base, 9)
		}
	}
}

func TestAckedOfNothingSent(t *testing.T) {
	o := window.NewOut[int](1)
	acks(t, o, 0, 0, api.OK)
	for _, n := range []int{-1, 1, 2, math.MinInt, math.MaxInt} {
		acks(t, o, n, 0, api.ErrSeq)
	}
	holdsOut(t, o, 1, 1)
}

func TestGet(t *testing.T) {
	o := window.NewOut[string](3)
	for n, s := range []string{"a", "b", "", "d"} {
		acks(t, o, n/3, n/3, api.OK)
		sends(t, o, s, n+1, api.OK)
	}
	for n, want := range map[int]string{1: "none", 2: "b", 3: "", 4: "d", 5: "none", 0: "none", -1: "none"} {
		if x, ok := o.Get(n); ok != (want != "none") || ok && x != want || !ok && x != "" {
			t.Errorf("Get(%d): %q, %t", n, x, ok)
		}
	}
}

// TestOutAsAList holds a window against a list, whatever is done.
func TestOutAsAList(t *testing.T) {
	for _, most := range []int{1, 2, 5, api.MaxWindow} {
		chance := rand.New(rand.NewSource(int64(most)))
		o := window.NewOut[int](most)
		base, next := 1, 1
		for range 4000 {
			if chance.Intn(3) > 0 {
				if next-base == most {
					sends(t, o, -1, 0, api.ErrWindow)
				} else {
					sends(t, o, 10*next, next, api.OK)
					next++
				}
			} else {
				n := base - 3 + chance.Intn(most+6)
				switch {
				case n < 0 || n >= next:
					acks(t, o, n, 0, api.ErrSeq)
				case n < base:
					acks(t, o, n, 0, api.OK)
				default:
					acks(t, o, n, n-base+1, api.OK)
					base = n + 1
				}
			}
			holdsOut(t, o, base, next)
		}
	}
}

// P14.2

func TestExample(t *testing.T) {
	i := window.NewIn[string](3)
	comes(t, i, 2, "b", nil, api.OK, 0, 1)
	comes(t, i, 3, "c", nil, api.OK, 0, 2)
	comes(t, i, 1, "a", []string{"a", "b", "c"}, api.OK, 3, 0)
}

func TestComeOfNoNumber(t *testing.T) {
	i := window.NewIn[int](2)
	for range 2 {
		for _, n := range []int{0, -1, -2, math.MinInt + 1, math.MinInt} {
			comes(t, i, n, 7, nil, api.ErrSeq, i.Upto(), i.Early())
		}
		i = gone(t, 2, 3)
		comes(t, i, 5, 50, nil, api.OK, 3, 1)
	}
}

func TestComeAtTheWindowsEnd(t *testing.T) {
	for most := 1; most <= api.MaxWindow; most++ {
		i := window.NewIn[int](most)
		for upto := range 3 {
			early := i.Early()
			for _, n := range []int{upto + most + 1, upto + most + 2, math.MaxInt - 1, math.MaxInt} {
				comes(t, i, n, 7, nil, api.ErrWindow, upto, early)
			}
			if most > 1 {
				comes(t, i, upto+most, upto+most, nil, api.OK, upto, early+1)
				comes(t, i, upto+most, -1, nil, api.OK, upto, early+1)
			}
			i = gone(t, most, upto+1)
		}
	}
}

// gone tells a window to which all up to a number came.
func gone(t *testing.T, most, upto int) *window.In[int] {
	t.Helper()
	i := window.NewIn[int](most)
	for n := 1; n <= upto; n++ {
		comes(t, i, n, 10*n, []int{10 * n}, api.OK, n, 0)
	}
	return i
}

func TestComeAgain(t *testing.T) {
	i := gone(t, 4, 5)
	for n := 1; n <= 5; n++ {
		comes(t, i, n, -1, nil, api.OK, 5, 0)
	}
	comes(t, i, 7, 70, nil, api.OK, 5, 1)
	comes(t, i, 7, -1, nil, api.OK, 5, 1)
	comes(t, i, 9, 90, nil, api.OK, 5, 2)
	comes(t, i, 7, -1, nil, api.OK, 5, 2)
	comes(t, i, 6, 60, []int{60, 70}, api.OK, 7, 1)
	comes(t, i, 7, -1, nil, api.OK, 7, 1)
	comes(t, i, 9, -1, nil, api.OK, 7, 1)
	comes(t, i, 8, 80, []int{80, 90}, api.OK, 9, 0)
	comes(t, i, 9, -1, nil, api.OK, 9, 0)
}

func TestEarlyOnesWithAGap(t *testing.T) {
	i := window.NewIn[int](8)
	for many, n := range []int{8, 2, 5, 4, 7} {
		comes(t, i, n, 10*n, nil, api.OK, 0, many+1)
	}
	comes(t, i, 1, 10, []int{10, 20}, api.OK, 2, 4)
	comes(t, i, 3, 30, []int{30, 40, 50}, api.OK, 5, 2)
	comes(t, i, 6, 60, []int{60, 70, 80}, api.OK, 8, 0)
}

func TestAllEarlyInAnyOrder(t *testing.T) {
	chance := rand.New(rand.NewSource(14))
	for most := 1; most <= api.MaxWindow; most++ {
		i := window.NewIn[int](most)
		var want []int
		for early, k := range chance.Perm(most - 1) {
			comes(t, i, k+2, k+2, nil, api.OK, 0, early+1)
		}
		for n := 1; n <= most; n++ {
			want = append(want, n)
		}
		comes(t, i, 1, 1, want, api.OK, most, 0)
	}
}

// TestInAsAList holds a window against a list, whatever comes.
func TestInAsAList(t *testing.T) {
	for _, most := range []int{1, 2, 5, api.MaxWindow} {
		chance := rand.New(rand.NewSource(int64(most)))
		i := window.NewIn[int](most)
		came := make([]int, 4200) // by number: what came first; 0 of none
		upto, early := 0, 0
		for x := 1; x <= 4000; x++ {
			n := upto - 2 + chance.Intn(most+5)
			switch {
			case n < 1:
				comes(t, i, n, x, nil, api.ErrSeq, upto, early)
			case n > upto+most:
				comes(t, i, n, x, nil, api.ErrWindow, upto, early)
			case came[n] > 0:
				comes(t, i, n, x, nil, api.OK, upto, early)
			default:
				came[n] = x
				early++
				from := upto + 1
				for came[upto+1] > 0 {
					upto++
					early--
				}
				comes(t, i, n, x, came[from:upto+1], api.OK, upto, early)
			}
		}
	}
}

// Of one that no call made

func TestMadeByNoCall(t *testing.T) {
	var noOut *window.Out[int]
	for name, o := range map[string]*window.Out[int]{"nil": noOut, "plain": {}} {
		for _, n := range []int{math.MinInt, -1, 0, 1, 2, math.MaxInt} {
			if many, e := o.Acked(n); many != 0 || e != api.ErrNil {
				t.Errorf("%s: Acked(%d): %d, %d", name, n, many, e)
			}
			if x, ok := o.Get(n); x != 0 || ok {
				t.Errorf("%s: Get(%d): %d, %t", name, n, x, ok)
			}
			if n, e := o.Send(n); n != 0 || e != api.ErrNil {
				t.Errorf("%s: Send: %d, %d", name, n, e)
			}
			if o.Base() != 0 || o.Next() != 0 {
				t.Errorf("%s: Base %d, Next %d", name, o.Base(), o.Next())
			}
		}
	}
	var noIn *window.In[int]
	for name, i := range map[string]*window.In[int]{"nil": noIn, "plain": {}} {
		for _, n := range []int{math.MinInt, -1, 0, 1, 2, math.MaxInt} {
			if l, e := i.Come(n, 1); len(l) != 0 || e != api.ErrNil {
				t.Errorf("%s: Come(%d): %v, %d", name, n, l, e)
			}
			holdsIn(t, i, 0, 0)
		}
	}
}

// Things of several types

// goThrough sends things, and lets them come with the first one last.
func goThrough[T any](t *testing.T, things ...T) {
	t.Helper()
	o, i := window.NewOut[T](len(things)), window.NewIn[T](len(things))
	for n, x := range things {
		sends(t, o, x, n+1, api.OK)
	}
	var told []T
	for n := len(things); n >= 1; n-- {
		x, ok := o.Get(n)
		if !ok {
			t.Fatalf("%T: Get(%d)", x, n)
		}
		l, e := i.Come(n, x)
		if e != api.OK {
			t.Fatalf("%T: Come(%d): %d", x, n, e)
		}
		told = append(told, l...)
	}
	if got, want := fmt.Sprintf("%#v", told), fmt.Sprintf("%#v", things); got != want {
		t.Errorf("%s; want %s", got, want)
	}
}

func TestOfAnything(t *testing.T) {
	goThrough(t, 0, 1, -1, math.MinInt)
	goThrough(t, "", "a", "", "\x00\xff")
	goThrough(t, false, true, false)
	goThrough(t, []byte(nil), []byte{}, []byte("ab"))
	goThrough(t, api.Packet{}, api.Packet{Seq: 1, Data: "x"}, api.Packet{Epoch: 1})
	goThrough(t, struct{}{}, struct{}{}, struct{}{})
	goThrough[error](t, nil, api.ErrSeq, nil)
	goThrough[any](t, nil, 1, "a", 2.5)
	goThrough(t, [2]int{1, 2}, [2]int{})
	goThrough[*int](t, nil, new(int), nil)
	goThrough(t, math.NaN(), 0.0)
}

// What is handed in and out

func TestWhatIsToldIsApart(t *testing.T) {
	i := window.NewIn[int](4)
	comes(t, i, 2, 20, nil, api.OK, 0, 1)
	first, _ := i.Come(1, 10)
	comes(t, i, 4, 40, nil, api.OK, 2, 1)
	second, _ := i.Come(3, 30)
	clear(first)
	_ = append(first[:0], 7, 7, 7, 7)
	if !slices.Equal(second, []int{30, 40}) {
		t.Errorf("%v", second)
	}
	comes(t, i, 5, 50, []int{50}, api.OK, 5, 0)
}

func TestThingsStayAsTheyWere(t *testing.T) {
	room := []int{1, 2, 3, 9, 9}
	o, i := window.NewOut[[]int](2), window.NewIn[[]int](2)
	sends(t, o, room[:3], 1, api.OK)
	i.Come(2, room[:3])
	i.Come(1, room[:3])
	acks(t, o, 1, 1, api.OK)
	if !slices.Equal(room, []int{1, 2, 3, 9, 9}) {
		t.Errorf("%v", room)
	}
}

func TestWindowsAreApart(t *testing.T) {
	one, two := sent(t, 4, 2), sent(t, 4, 3)
	acks(t, one, 2, 2, api.OK)
	holdsOut(t, one, 3, 3)
	holdsOut(t, two, 1, 4)
	i, k := gone(t, 4, 2), gone(t, 4, 0)
	comes(t, i, 4, 40, nil, api.OK, 2, 1)
	holdsIn(t, k, 0, 0)
}

// P14.3, P14.4

// link is an Out and an In, with what is on its way between them, and what was sent and told in all.
type link struct {
	out        *window.Out[int]
	in         *window.In[int]
	way        []int // numbers of things
	sent, told []int
}

// let lets the thing of a number come.
func (l *link) let(t *testing.T, n int) {
	t.Helper()
	told, e := l.in.Come(n, l.sent[n-1])
	if e != api.OK && e != api.ErrWindow {
		t.Fatalf("Come(%d): %d", n, e)
	}
	l.told = append(l.told, told...)
	if len(l.told) != l.in.Upto() || !slices.Equal(l.told, l.sent[:len(l.told)]) {
		t.Fatalf("told %v, of %v; Upto %d", l.told, l.sent, l.in.Upto())
	}
}

// step sends, loses, doubles, delays, lets come or acknowledges, as chance will have it.
func (l *link) step(t *testing.T, chance *rand.Rand) {
	t.Helper()
	at := chance.Intn(len(l.way) + 1)
	switch what := chance.Intn(8); {
	case what < 2:
		if n, e := l.out.Send(chance.Int()); e == api.OK {
			x, _ := l.out.Get(n)
			l.sent = append(l.sent, x)
			l.way = append(l.way, n)
		}
	case what == 2:
		for n := l.out.Base(); n < l.out.Next(); n++ {
			l.way = append(l.way, n)
		}
	case what == 3:
		l.out.Acked(max(0, l.in.Upto()-chance.Intn(4)))
	case at == len(l.way):
	case what == 4:
		l.way = append(l.way, l.way[at])
	case what == 5:
		l.way = slices.Delete(l.way, at, at+1)
	default:
		n := l.way[at]
		l.way = slices.Delete(l.way, at, at+1)
		l.let(t, n)
	}
}

func TestOnceAndAll(t *testing.T) {
	for _, most := range [][2]int{{1, 1}, {2, 2}, {4, 4}, {api.MaxWindow, api.MaxWindow}, {8, 2}, {2, 8}, {api.MaxWindow, 1}, {1, api.MaxWindow}} {
		for seed := range 20 {
			chance := rand.New(rand.NewSource(int64(seed)))
			l := &link{out: window.NewOut[int](most[0]), in: window.NewIn[int](most[1])}
			for range 4000 {
				l.step(t, chance)
				l.way = l.way[max(0, len(l.way)-2*most[0]):]
			}
			for n := l.out.Base(); n < l.out.Next(); n++ {
				l.let(t, n)
			}
			if !slices.Equal(l.told, l.sent) || l.in.Early() != 0 {
				t.Fatalf("windows of %v: told %d of %d, %d early", most, len(l.told), len(l.sent), l.in.Early())
			}
			if seed == 0 && len(l.sent) < 50 {
				t.Errorf("windows of %v: only %d were sent", most, len(l.sent))
			}
		}
	}
}

// TestAllInAnyOrder: windows of one size: whatever the order in which those that are not acknowledged come, all is told.
func TestAllInAnyOrder(t *testing.T) {
	chance := rand.New(rand.NewSource(4))
	for most := 1; most <= api.MaxWindow; most++ {
		l := &link{out: window.NewOut[int](most), in: window.NewIn[int](most)}
		for range 400 {
			l.step(t, chance)
		}
		for _, k := range chance.Perm(l.out.Next() - l.out.Base()) {
			l.let(t, l.out.Base()+k)
		}
		if !slices.Equal(l.told, l.sent) || l.in.Early() != 0 {
			t.Fatalf("windows of %d: told %d of %d", most, len(l.told), len(l.sent))
		}
	}
}
