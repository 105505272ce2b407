package journal_test

import (
	"fmt"
	"math"
	"math/rand"
	"slices"
	"testing"

	"variorum/api"
	"variorum/journal"
)

// made tells a journal of at most so many entries, to which so many were appended, each ten times its number, and which was trimmed up to a revision as often as it was full, and at the end.
func made(t *testing.T, most, head, base int) *journal.Journal[int] {
	t.Helper()
	j := journal.New[int](most)
	if j == nil {
		t.Fatalf("New(%d): nil", most)
	}
	for n := 1; n <= head; n++ {
		if n-j.Base() > most {
			trims(t, j, n-most, 1)
		}
		appends(t, j, 10*n, n, api.OK)
	}
	trims(t, j, base, max(0, base-j.Base()))
	holds(t, j, base, head)
	return j
}

func appends[T any](t *testing.T, j *journal.Journal[T], x T, n int, e api.Errno) {
	t.Helper()
	if gotN, gotE := j.Append(x); gotN != n || gotE != e {
		t.Fatalf("Append(%v): %d, %d; want %d, %d", x, gotN, gotE, n, e)
	}
}

func trims[T any](t *testing.T, j *journal.Journal[T], rev, many int) {
	t.Helper()
	if got := j.Trim(rev); got != many {
		t.Fatalf("Trim(%d): %d; want %d", rev, got, many)
	}
}

func tells[T comparable](t *testing.T, j *journal.Journal[T], rev int, e api.Errno, want ...T) {
	t.Helper()
	if got, gotE := j.Since(rev); !slices.Equal(got, want) || gotE != e {
		t.Fatalf("Since(%d): %v, %d; want %v, %d", rev, got, gotE, want, e)
	}
}

// holds holds all that a journal tells whose entries are ten times their numbers.
func holds(t *testing.T, j *journal.Journal[int], base, head int) {
	t.Helper()
	if j.Base() != base || j.Head() != head {
		t.Fatalf("Base %d, Head %d; want %d, %d", j.Base(), j.Head(), base, head)
	}
	for rev := base - 3; rev <= head+3; rev++ {
		var want []int
		e := api.OK
		switch {
		case rev < base:
			e = api.ErrOld
		case rev > head:
			e = api.ErrAhead
		default:
			for n := rev + 1; n <= head; n++ {
				want = append(want, 10*n)
			}
		}
		tells(t, j, rev, e, want...)
	}
}

// P16.1

func TestNew(t *testing.T) {
	for _, most := range []int{math.MinInt, -1, 0, api.MaxHistory + 1, 1 << 16, 1<<16 + 1, math.MaxInt} {
		if journal.New[int](most) != nil || journal.New[string](most) != nil {
			t.Errorf("New(%d): not nil", most)
		}
	}
	for _, most := range []int{1, 2, api.MaxHistory - 1, api.MaxHistory} {
		j := journal.New[int](most)
		if j == nil {
			t.Fatalf("New(%d): nil", most)
		}
		holds(t, j, 0, 0)
	}
}

func TestExample(t *testing.T) {
	j := journal.New[string](5)
	for n, s := range []string{"a", "b", "c"} {
		appends(t, j, s, n+1, api.OK)
	}
	trims(t, j, 1, 1)
	tells(t, j, 0, api.ErrOld)
	tells(t, j, 2, api.OK, "c")
}

func TestAppendUntilItIsFull(t *testing.T) {
	for _, most := range []int{1, 2, 3, 7, api.MaxHistory} {
		j := made(t, most, most, 0)
		for range 3 {
			appends(t, j, -1, 0, api.ErrFull)
			holds(t, j, 0, most)
		}
		// Trim of nothing makes no room.
		trims(t, j, 0, 0)
		trims(t, j, most+1, 0)
		appends(t, j, -1, 0, api.ErrFull)
		trims(t, j, 1, 1)
		appends(t, j, 10*(most+1), most+1, api.OK)
		holds(t, j, 1, most+1)
		appends(t, j, -1, 0, api.ErrFull)
		trims(t, j, most+1, most)
		holds(t, j, most+1, most+1)
		for n := most + 2; n <= 2*most+1; n++ {
			appends(t, j, 10*n, n, api.OK)
		}
		appends(t, j, -1, 0, api.ErrFull)
		holds(t, j, most+1, 2*most+1)
	}
}

func TestSince(t *testing.T) {
	j := made(t, 6, 9, 5)
	for _, rev := range []int{math.MinInt, math.MinInt + 1, -1, 0, 1, 4} {
		tells(t, j, rev, api.ErrOld)
	}
	tells(t, j, 5, api.OK, 60, 70, 80, 90)
	tells(t, j, 6, api.OK, 70, 80, 90)
	tells(t, j, 8, api.OK, 90)
	tells(t, j, 9, api.OK)
	for _, rev := range []int{10, 11, 1 << 40, math.MaxInt - 1, math.MaxInt} {
		tells(t, j, rev, api.ErrAhead)
	}
	holds(t, j, 5, 9)
	// Of none.
	j = journal.New[int](1)
	tells(t, j, 0, api.OK)
	tells(t, j, 1, api.ErrAhead)
	tells(t, j, -1, api.ErrOld)
	j = made(t, 1, 3, 3)
	tells(t, j, 3, api.OK)
	tells(t, j, 2, api.ErrOld)
	tells(t, j, 4, api.ErrAhead)
}

// P16.2

func TestTrim(t *testing.T) {
	for _, x := range []struct{ rev, many, base int }{
		{math.MinInt, 0, 4}, {math.MinInt + 4, 0, 4}, {-1, 0, 4}, {0, 0, 4}, {3, 0, 4}, {4, 0, 4},
		{5, 1, 5}, {6, 2, 6}, {8, 4, 8}, {9, 5, 9},
		{10, 0, 4}, {11, 0, 4}, {math.MaxInt - 1, 0, 4}, {math.MaxInt, 0, 4},
	} {
		j := made(t, 8, 9, 4)
		trims(t, j, x.rev, x.many)
		holds(t, j, x.base, 9)
		trims(t, j, x.rev, 0)
		holds(t, j, x.base, 9)
		appends(t, j, 100, 10, api.OK)
		holds(t, j, x.base, 10)
	}
}

func TestTrimOfNone(t *testing.T) {
	j := journal.New[int](4)
	for _, rev := range []int{math.MinInt, -1, 0, 1, 4, math.MaxInt} {
		trims(t, j, rev, 0)
		holds(t, j, 0, 0)
	}
	j = made(t, 4, 3, 3)
	for _, rev := range []int{math.MinInt, -1, 0, 1, 3, 4, math.MaxInt} {
		trims(t, j, rev, 0)
		holds(t, j, 3, 3)
	}
}

// TestAsAList holds a journal against a list of all that was appended, whatever is done.
func TestAsAList(t *testing.T) {
	for seed, most := range []int{1, 2, 3, 10, 100, api.MaxHistory} {
		chance := rand.New(rand.NewSource(int64(seed)))
		j := journal.New[int](most)
		base, head := 0, 0
		for range 3000 {
			switch what := chance.Intn(8); {
			case what < 6 && head-base == most:
				appends(t, j, -1, 0, api.ErrFull)
			case what < 6:
				head++
				appends(t, j, 10*head, head, api.OK)
			default:
				rev := base - 2 + chance.Intn(head-base+5)
				many := 0
				if rev > base && rev <= head {
					many = rev - base
					base = rev
				}
				trims(t, j, rev, many)
			}
			if most <= 10 || chance.Intn(500) == 0 {
				holds(t, j, base, head)
			}
		}
	}
}

// Of one that no call made

func TestMadeByNoCall(t *testing.T) {
	var none *journal.Journal[int]
	for name, j := range map[string]*journal.Journal[int]{"nil": none, "plain": {}} {
		for _, n := range []int{math.MinInt, -1, 0, 1, 2, math.MaxInt} {
			if got, e := j.Append(n); got != 0 || e != api.ErrNil {
				t.Errorf("%s: Append: %d, %d", name, got, e)
			}
			if l, e := j.Since(n); len(l) != 0 || e != api.ErrNil {
				t.Errorf("%s: Since(%d): %v, %d", name, n, l, e)
			}
			if many := j.Trim(n); many != 0 {
				t.Errorf("%s: Trim(%d): %d", name, n, many)
			}
			if j.Base() != 0 || j.Head() != 0 {
				t.Errorf("%s: Base %d, Head %d", name, j.Base(), j.Head())
			}
		}
	}
}

// Things of several types

// goThrough appends things, the last ones behind a Trim, and asks for each beginning of them.
func goThrough[T any](t *testing.T, things ...T) {
	t.Helper()
	j := journal.New[T](len(things) - 1)
	last := len(things) - 1
	for n, x := range things[:last] {
		appends(t, j, x, n+1, api.OK)
	}
	appends(t, j, things[last], 0, api.ErrFull)
	trims(t, j, 1, 1)
	appends(t, j, things[last], last+1, api.OK)
	for rev := 1; rev <= len(things); rev++ {
		l, e := j.Since(rev)
		if got, want := fmt.Sprintf("%#v", l), fmt.Sprintf("%#v", things[rev:]); got != want || e != api.OK {
			t.Errorf("%s; want %s", got, want)
		}
	}
}

func TestOfAnything(t *testing.T) {
	goThrough(t, 0, 1, -1, math.MinInt)
	goThrough(t, "", "a", "", "\x00\xff")
	goThrough(t, false, true, false)
	goThrough(t, []byte(nil), []byte{}, []byte("ab"))
	goThrough(t, api.Entry{}, api.Entry{Client: 1, Seq: 1, Op: []api.Run{{Keep: 1}, {Add: "x"}}}, api.Entry{Seq: 2})
	goThrough(t, struct{}{}, struct{}{}, struct{}{})
	goThrough[error](t, nil, api.ErrSeq, nil)
	goThrough[any](t, nil, 1, "a", 2.5)
	goThrough(t, [2]int{1, 2}, [2]int{})
	goThrough[*int](t, nil, new(int), nil)
	goThrough(t, math.NaN(), 0.0)
	goThrough[map[string]int](t, nil, map[string]int{}, map[string]int{"a": 1})
}

// P16.3

// TestSinceLater: what was told is kept, and what is appended behind stands behind it.
func TestSinceLater(t *testing.T) {
	for seed := range 40 {
		chance := rand.New(rand.NewSource(int64(seed)))
		most := 1 + chance.Intn(20)
		j := journal.New[int](most)
		var told [][]int // what was told since each revision at first, and what was appended behind
		for rev := range 300 {
			l, e := j.Since(rev)
			if len(l) != 0 || e != api.OK {
				t.Fatalf("Since(%d): %v, %d", rev, l, e)
			}
			told = append(told, l)
			if rev-j.Base() == most || chance.Intn(5) == 0 {
				j.Trim(j.Base() + 1 + chance.Intn(most))
			}
			if rev-j.Base() == most {
				trims(t, j, rev, most)
			}
			x := chance.Int()
			appends(t, j, x, rev+1, api.OK)
			for i := range told {
				told[i] = append(told[i], x)
				if i >= j.Base() {
					tells(t, j, i, api.OK, told[i]...)
				} else {
					tells(t, j, i, api.ErrOld)
				}
			}
		}
	}
}

// TestWhatWasToldStays: what was told is as it was, however the journal goes on; and who writes into it does not change the journal.
func TestWhatWasToldStays(t *testing.T) {
	j := made(t, 4, 4, 0)
	first, _ := j.Since(0)
	second, _ := j.Since(2)
	third, _ := j.Since(2)
	clear(third)
	_ = append(third[:0], 9, 9, 9, 9)
	holds(t, j, 0, 4)
	trims(t, j, 3, 3)
	for n := 5; n <= 7; n++ {
		appends(t, j, 10*n, n, api.OK)
	}
	trims(t, j, 7, 4)
	for n := 8; n <= 11; n++ {
		appends(t, j, 10*n, n, api.OK)
	}
	if !slices.Equal(first, []int{10, 20, 30, 40}) || !slices.Equal(second, []int{30, 40}) {
		t.Errorf("%v, %v", first, second)
	}
	holds(t, j, 7, 11)
}

func TestThingsStayAsTheyWere(t *testing.T) {
	room := []int{1, 2, 3, 9, 9}
	j := journal.New[[]int](2)
	appends(t, j, room[:3], 1, api.OK)
	appends(t, j, room[:2], 2, api.OK)
	appends(t, j, room[:1], 0, api.ErrFull)
	if l, e := j.Since(0); e != api.OK || len(l) != 2 || !slices.Equal(l[0], room[:3]) || !slices.Equal(l[1], room[:2]) {
		t.Errorf("%v, %d", l, e)
	}
	trims(t, j, 2, 2)
	if !slices.Equal(room, []int{1, 2, 3, 9, 9}) {
		t.Errorf("%v", room)
	}
}

func TestJournalsAreApart(t *testing.T) {
	one, two := made(t, 4, 2, 0), made(t, 4, 4, 1)
	trims(t, one, 2, 2)
	appends(t, one, 30, 3, api.OK)
	holds(t, one, 2, 3)
	holds(t, two, 1, 4)
}
