package ring_test

import (
	"math"
	"math/rand"
	"runtime"
	"slices"
	"testing"
	"time"

	"variorum/api"
	"variorum/ring"
)

const maxMost = 1 << 16

// full tells a ring of most that has the numbers from 0 on.
func full(t *testing.T, most int) *ring.Ring[int] {
	t.Helper()
	r := ring.New[int](most)
	for i := range most {
		if e := r.Push(i); e != api.OK {
			t.Fatalf("Push %d of %d: %d", i, most, int(e))
		}
	}
	return r
}

// same asks all that a ring tells, and holds it against a list.
func same(t *testing.T, r *ring.Ring[int], most int, want []int) {
	t.Helper()
	if r.Len() != len(want) || r.Most() != most || !slices.Equal(r.All(), want) {
		t.Fatalf("ring of %d: Len %d, Most %d, All %v; want %v", most, r.Len(), r.Most(), r.All(), want)
	}
	for i, n := range want {
		if x, ok := r.At(i); x != n || !ok {
			t.Fatalf("At(%d): %d, %t; want %d", i, x, ok, n)
		}
	}
	for _, i := range []int{math.MinInt, -1, len(want), len(want) + 1, math.MaxInt} {
		if x, ok := r.At(i); x != 0 || ok {
			t.Fatalf("At(%d) of %d elements: %d, %t", i, len(want), x, ok)
		}
	}
}

func TestExample(t *testing.T) {
	r := ring.New[int](2)
	if r.Push(5) != api.OK || r.Push(6) != api.OK || r.Push(7) != api.ErrFull {
		t.Error("Push")
	}
	if x, ok := r.Take(); x != 5 || !ok {
		t.Errorf("Take: %d, %t", x, ok)
	}
	if r.Push(7) != api.OK {
		t.Error("Push of 7")
	}
	same(t, r, 2, []int{6, 7})
}

func TestNew(t *testing.T) {
	for _, most := range []int{math.MinInt, -1, 0, maxMost + 1, math.MaxInt} {
		if ring.New[int](most) != nil {
			t.Errorf("New(%d) is not nil", most)
		}
	}
	for _, most := range []int{1, 2, maxMost - 1, maxMost} {
		r := ring.New[int](most)
		if r == nil {
			t.Fatalf("New(%d) is nil", most)
		}
		same(t, r, most, nil)
		if x, ok := r.Take(); x != 0 || ok {
			t.Errorf("Take of an empty ring of %d: %d, %t", most, x, ok)
		}
	}
}

func TestPush(t *testing.T) {
	for _, most := range []int{1, 2, 3, maxMost} {
		r := full(t, most)
		if e := r.Push(-1); e != api.ErrFull {
			t.Errorf("Push into a full ring of %d: %d", most, int(e))
		}
		if r.Len() != most {
			t.Errorf("a ring of %d has %d", most, r.Len())
		}
		if x, ok := r.At(most - 1); x != most-1 || !ok {
			t.Errorf("the last one of %d: %d, %t", most, x, ok)
		}
		if x, ok := r.Take(); x != 0 || !ok || r.Len() != most-1 {
			t.Errorf("Take of a full ring of %d: %d, %t", most, x, ok)
		}
		if r.Push(most) != api.OK || r.Push(-1) != api.ErrFull {
			t.Errorf("Push into a ring of %d that was full", most)
		}
		if x, ok := r.At(most - 1); x != most || !ok {
			t.Errorf("the last one of %d: %d, %t", most, x, ok)
		}
	}
}

func TestSet(t *testing.T) {
	r := full(t, 4)
	r.Take()
	for _, i := range []int{math.MinInt, -1, 3, 4, math.MaxInt} {
		if e := r.Set(i, 9); e != api.ErrRange {
			t.Errorf("Set(%d): %d", i, int(e))
		}
	}
	same(t, r, 4, []int{1, 2, 3})
	if r.Set(0, 10) != api.OK || r.Set(2, 30) != api.OK {
		t.Error("Set")
	}
	same(t, r, 4, []int{10, 2, 30})
	if r := ring.New[int](1); r.Set(0, 1) != api.ErrRange {
		t.Error("Set of an empty ring")
	}
}

func TestSkip(t *testing.T) {
	for _, x := range []struct{ many, want int }{
		{math.MinInt, 0}, {-1, 0}, {0, 0}, {1, 1}, {2, 2}, {4, 4}, {5, 5}, {6, 5}, {math.MaxInt, 5},
	} {
		r := full(t, 5)
		if got := r.Skip(x.many); got != x.want {
			t.Errorf("Skip(%d): %d", x.many, got)
		}
		same(t, r, 5, []int{0, 1, 2, 3, 4}[x.want:])
	}
	if r := ring.New[int](1); r.Skip(1) != 0 {
		t.Error("Skip of an empty ring")
	}
}

// TestQueue: what is taken comes in the order in which it was pushed, however often the ring is full and empty between.
func TestQueue(t *testing.T) {
	for _, most := range []int{1, 2, 3, 7, 64} {
		chance := rand.New(rand.NewSource(int64(most)))
		r := ring.New[int](most)
		var want []int
		for n := range 3000 {
			switch chance.Intn(6) {
			case 0, 1, 2:
				e := r.Push(n)
				if (e == api.OK) != (len(want) < most) || e != api.OK && e != api.ErrFull {
					t.Fatalf("Push behind %d of %d: %d", len(want), most, int(e))
				}
				if e == api.OK {
					want = append(want, n)
				}
			case 3, 4:
				x, ok := r.Take()
				if ok != (len(want) > 0) || ok && x != want[0] || !ok && x != 0 {
					t.Fatalf("Take: %d, %t; want the first of %v", x, ok, want)
				}
				want = want[min(1, len(want)):]
			case 5:
				many := chance.Intn(most+3) - 1
				out := max(0, min(many, len(want)))
				if got := r.Skip(many); got != out {
					t.Fatalf("Skip(%d) of %d: %d", many, len(want), got)
				}
				want = want[out:]
			}
			same(t, r, most, want)
		}
	}
}

// TestAllIsNew: what is told is the caller's, and does not go on with the ring.
func TestAllIsNew(t *testing.T) {
	r := full(t, 3)
	all := r.All()
	all[0] = 90
	_ = append(all[:1], 91)
	same(t, r, 3, []int{0, 1, 2})
	all = r.All()
	r.Set(0, 80)
	r.Skip(3)
	r.Push(70)
	if !slices.Equal(all, []int{0, 1, 2}) {
		t.Errorf("what was told is now %v", all)
	}
}

// TestOutIsLetGo: the ring does not hold what is out, whether it stood alone, ahead of others or behind them.
func TestOutIsLetGo(t *testing.T) {
	r := ring.New[*[1 << 20]byte](8)
	var freed [4]chan bool
	for i := range freed {
		freed[i] = make(chan bool, 1)
		x := new([1 << 20]byte)
		runtime.AddCleanup(x, func(c chan bool) { c <- true }, freed[i])
		r.Push(x)
	}
	for i, many := range []int{1, 2, 0, 1} {
		r.Skip(many)
		for j := range freed {
			if out := 4 - r.Len(); comesFree(freed[j], j < out) != (j < out) {
				t.Errorf("step %d: element %d of 4, of which %d are out: let go: %t", i, j, out, len(freed[j]) == 1)
			}
		}
	}
	runtime.KeepAlive(r)
}

// comesFree tells whether something was let go; if it should be, it has some time.
func comesFree(c chan bool, should bool) bool {
	for range 200 {
		runtime.GC()
		if len(c) == 1 || !should {
			break
		}
		time.Sleep(time.Millisecond)
	}
	return len(c) == 1
}

// TestStaysSmall: a ring that many elements went through has no more room than it needs.
func TestStaysSmall(t *testing.T) {
	r := ring.New[[64]byte](4)
	r.Push([64]byte{})
	var before, behind runtime.MemStats
	runtime.ReadMemStats(&before)
	for range 1 << 17 {
		r.Push([64]byte{})
		r.Take()
	}
	runtime.ReadMemStats(&behind)
	if grown := behind.TotalAlloc - before.TotalAlloc; grown > 1<<20 {
		t.Errorf("%d bytes for a ring of 4", grown)
	}
}

func TestOfAnything(t *testing.T) {
	r := ring.New[[]string](2)
	if r.Push(nil) != api.OK || r.Push([]string{"a", "b"}) != api.OK {
		t.Error("Push")
	}
	if x, ok := r.Take(); x != nil || !ok {
		t.Error("a nil element is an element")
	}
	if x, ok := r.Take(); !slices.Equal(x, []string{"a", "b"}) || !ok {
		t.Error(x)
	}
}

func TestMadeByNoCall(t *testing.T) {
	var none *ring.Ring[int]
	for name, r := range map[string]*ring.Ring[int]{"nil": none, "plain": {}} {
		if r.Push(1) != api.ErrNil || r.Set(0, 1) != api.ErrNil || r.Set(-1, 1) != api.ErrNil {
			t.Errorf("%s: not ErrNil", name)
		}
		if x, ok := r.Take(); x != 0 || ok {
			t.Errorf("%s: Take: %d, %t", name, x, ok)
		}
		if r.Skip(1) != 0 || r.Skip(math.MaxInt) != 0 {
			t.Errorf("%s: Skip", name)
		}
		same(t, r, 0, nil)
	}
}
