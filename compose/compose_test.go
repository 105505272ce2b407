package compose_test

import (
	"math"
	"math/rand"
	"slices"
	"strings"
	"testing"

	"variorum/api"
	"variorum/compose"
	"variorum/edit"
	"variorum/run"
)

func keep(n int) api.Run   { return api.Run{Keep: n} }
func add(s string) api.Run { return api.Run{Add: s} }
func drop(n int) api.Run   { return api.Run{Drop: n} }

func runs(l ...api.Run) []api.Run { return l }

// long is a text of MaxText bytes.
var long = strings.Repeat("a", api.MaxText)

// two holds what comes of two edits against what should, and against a Fold of their text.
func two(t *testing.T, a, b, want []api.Run) {
	t.Helper()
	op, e := compose.Two(a, b)
	if e != api.OK || !slices.Equal(op, want) {
		t.Fatalf("Two(%.80v, %.80v): %.80v, %d; want %.80v", a, b, op, int(e), want)
	}
	if !edit.Good(op) || !slices.Equal(edit.Norm(op), op) || edit.In(op) != edit.In(a) || edit.Out(op) != edit.Out(b) {
		t.Fatalf("Two(%.80v, %.80v): %.80v is no Norm, or not of as many bytes", a, b, op)
	}
	s := strings.Repeat("abcdefghijklmnopqrstuvw", edit.In(a)/23+1)[:edit.In(a)]
	made, e := run.Fold([][]api.Run{a, b}, s)
	if got, err := run.Apply(op, s); e != api.OK || err != api.OK || got != made {
		t.Fatalf("Two(%.80v, %.80v): %.80v makes %.80q, %d; want %.80q, %d", a, b, op, got, int(err), made, int(e))
	}
}

// refused holds that two edits have just this error.
func refused(t *testing.T, a, b []api.Run, want api.Errno) {
	t.Helper()
	if op, e := compose.Two(a, b); e != want || len(op) != 0 {
		t.Errorf("Two(%.80v, %.80v): %.80v, %d; want %d", a, b, op, int(e), int(want))
	}
}

func TestExample(t *testing.T) {
	two(t, runs(keep(1), add("xy"), keep(1)), runs(keep(2), drop(1), keep(1)), runs(keep(1), add("x"), keep(1)))
}

func TestTwo(t *testing.T) {
	two(t, nil, nil, nil)
	two(t, nil, runs(add("x")), runs(add("x")))
	two(t, runs(drop(1)), nil, runs(drop(1)))
	two(t, runs(drop(2)), runs(add("x")), runs(add("x"), drop(2)))
	two(t, runs(keep(3)), runs(drop(3)), runs(drop(3)))
	two(t, runs(keep(3)), runs(keep(1), add("x"), drop(1), keep(1)), runs(keep(1), add("x"), drop(1), keep(1)))
	two(t, runs(keep(1), add("x"), drop(1), keep(1)), runs(keep(3)), runs(keep(1), add("x"), drop(1), keep(1)))
	// Runs of unlike lengths, so that each is read part by part.
	two(t, runs(keep(5)), runs(keep(1), drop(1), keep(1), drop(1), keep(1)), runs(keep(1), drop(1), keep(1), drop(1), keep(1)))
	two(t, runs(drop(1), keep(2), drop(1), keep(2)), runs(keep(1), drop(2), keep(1)), runs(drop(1), keep(1), drop(3), keep(1)))
	two(t, runs(keep(1), add("ab"), keep(1), add("cd")), runs(drop(2), keep(3), drop(1)), runs(add("b"), drop(1), keep(1), add("c")))
}

// TestDropOfAdded: what the first one adds and the second one drops never was.
func TestDropOfAdded(t *testing.T) {
	two(t, runs(add("ab")), runs(drop(2)), nil)
	two(t, runs(keep(2), add("xy")), runs(keep(2), drop(2)), runs(keep(2)))
	two(t, runs(keep(1), add("xy"), keep(1)), runs(keep(1), drop(2), keep(1)), runs(keep(2)))
	two(t, runs(add("xyz"), keep(1)), runs(drop(1), keep(3)), runs(add("yz"), keep(1)))
	two(t, runs(add("xyz"), keep(1)), runs(keep(1), drop(1), keep(2)), runs(add("xz"), keep(1)))
	two(t, runs(add("xyz"), keep(1)), runs(keep(2), drop(1), keep(1)), runs(add("xy"), keep(1)))
	two(t, runs(keep(1), add("xyz"), keep(1)), runs(drop(2), keep(1), drop(2)), runs(add("y"), drop(2)))
	two(t, runs(keep(1), add("xyz"), keep(1)), runs(keep(3), drop(2)), runs(keep(1), add("xy"), drop(1)))
	two(t, runs(add("xy"), drop(2), keep(1)), runs(drop(2), keep(1)), runs(drop(2), keep(1)))
	two(t, runs(add("xy"), drop(2)), runs(add("1"), drop(2)), runs(add("1"), drop(2)))
	two(t, runs(add("xy"), keep(1), add("zw")), runs(drop(5)), runs(drop(1)))
}

// TestAddsOfBoth: what comes between the same two bytes stands as in the text that both make, Drops behind.
func TestAddsOfBoth(t *testing.T) {
	two(t, runs(add("ab")), runs(keep(1), add("X"), keep(1)), runs(add("aXb")))
	two(t, runs(keep(1), add("ab"), keep(1)), runs(keep(1), add("X"), keep(3)), runs(keep(1), add("Xab"), keep(1)))
	two(t, runs(keep(1), add("ab"), keep(1)), runs(keep(2), add("X"), keep(2)), runs(keep(1), add("aXb"), keep(1)))
	two(t, runs(keep(1), add("ab"), keep(1)), runs(keep(3), add("X"), keep(1)), runs(keep(1), add("abX"), keep(1)))
	two(t, runs(keep(1), add("ab"), keep(1)), runs(keep(1), add("X"), drop(1), keep(1), add("Y"), keep(1)), runs(keep(1), add("XbY"), keep(1)))
	two(t, runs(keep(1), add("ab"), drop(1), keep(1)), runs(keep(1), add("X"), keep(2), add("Y"), drop(1)), runs(keep(1), add("XabY"), drop(2)))
	two(t, runs(keep(1), drop(1), keep(1)), runs(keep(1), add("X"), keep(1)), runs(keep(1), add("X"), drop(1), keep(1)))
	two(t, runs(drop(1), keep(1), add("a")), runs(add("X"), keep(1), add("Y"), keep(1), add("Z")), runs(add("X"), drop(1), keep(1), add("YaZ")))
	two(t, runs(keep(2), add("a")), runs(keep(1), drop(1), keep(1), add("X")), runs(keep(1), add("aX"), drop(1)))
	two(t, runs(keep(1), add("a"), keep(1), add("b"), keep(1)), runs(keep(2), drop(1), keep(2)), runs(keep(1), add("ab"), drop(1), keep(1)))
}

// TestDropsOfBoth: what goes side by side goes as one.
func TestDropsOfBoth(t *testing.T) {
	two(t, runs(drop(2), keep(1)), runs(add("a"), drop(1)), runs(add("a"), drop(3)))
	two(t, runs(keep(1), drop(1), keep(2)), runs(keep(1), drop(1), keep(1)), runs(keep(1), drop(2), keep(1)))
	two(t, runs(keep(2), drop(1), keep(1)), runs(keep(1), drop(1), keep(1)), runs(keep(1), drop(2), keep(1)))
	two(t, runs(keep(1), drop(1), keep(1), drop(1), keep(1)), runs(drop(3)), runs(drop(5)))
	two(t, runs(keep(2), drop(2), keep(2)), runs(keep(1), drop(2), keep(1)), runs(keep(1), drop(4), keep(1)))
	two(t, runs(keep(1), add("x"), drop(1), keep(1)), runs(keep(2), drop(1)), runs(keep(1), add("x"), drop(2)))
}

// noEdits are runs that are not Good, though some of them would be of 3 bytes, and make 3.
func noEdits() [][]api.Run {
	return [][]api.Run{
		{keep(1), keep(2)}, {add("x"), add("y"), keep(1), drop(2)}, {drop(1), drop(2), keep(3)}, {drop(1), add("x"), keep(2)},
		{{}}, {{}, keep(3)}, {keep(3), {}}, {{Keep: 3, Add: "x"}}, {{Add: "xyz", Drop: 3}}, {{Keep: 3, Drop: -1}}, {keep(-1), drop(4)},
		{keep(math.MaxInt)}, {drop(math.MaxInt), keep(math.MaxInt), drop(5)}, {keep(3), add(long)}, {keep(3), drop(api.MaxText)},
		slices.Repeat(runs(keep(1), drop(1)), api.MaxRuns),
	}
}

func TestTwoRefused(t *testing.T) {
	for _, op := range noEdits() {
		refused(t, op, runs(keep(3)), api.ErrOp)
		refused(t, runs(keep(3)), op, api.ErrOp)
		refused(t, op, nil, api.ErrOp) // In and Out are 0 of what is no edit
		refused(t, nil, op, api.ErrOp)
		refused(t, op, op, api.ErrOp)
	}
	for _, x := range [][2][]api.Run{
		{runs(keep(1)), runs(keep(2))}, {runs(keep(2)), runs(keep(1))}, {runs(keep(2)), runs(drop(1))}, {runs(keep(1)), runs(drop(2))},
		{nil, runs(keep(1))}, {runs(keep(1)), nil}, {runs(add("x")), nil}, {runs(add("x")), runs(add("y"))}, {nil, runs(drop(1))},
		{runs(keep(1), add("x")), runs(keep(1))}, {runs(keep(1), add("x")), runs(keep(1), add("x"))}, {runs(keep(1), drop(1)), runs(keep(1), drop(1))}, {runs(drop(1)), runs(keep(1))},
		{runs(keep(api.MaxText)), runs(keep(api.MaxText - 1))},
	} {
		refused(t, x[0], x[1], api.ErrOp)
	}
}

func TestMaxText(t *testing.T) {
	full := runs(keep(api.MaxText))
	two(t, full, full, full)
	two(t, runs(add(long)), runs(drop(api.MaxText)), nil)
	two(t, runs(add(long)), runs(add(long), drop(api.MaxText)), runs(add(long)))
	two(t, runs(drop(api.MaxText)), runs(add(long)), runs(add(long), drop(api.MaxText)))
	two(t, runs(keep(1), drop(api.MaxText-1)), runs(add(long[1:]), keep(1)), runs(add(long[1:]), keep(1), drop(api.MaxText-1)))
}

// stripes tells n runs by turns.
func stripes(n int, l ...api.Run) []api.Run {
	op := make([]api.Run, n)
	for i := range op {
		op[i] = l[i%len(l)]
	}
	return op
}

func TestMaxRuns(t *testing.T) {
	half := api.MaxRuns / 2
	one := runs(add("x"), keep(half))
	most := stripes(api.MaxRuns, keep(1), drop(1))
	less := stripes(api.MaxRuns-1, keep(1), drop(1))
	two(t, most, runs(keep(half)), most)
	two(t, runs(keep(api.MaxRuns)), most, most)
	two(t, less, one, append(runs(add("x")), less...)) // MaxRuns runs come of them
	refused(t, most, one, api.ErrFull)                 // one more
	refused(t, most, stripes(api.MaxRuns, add("x"), keep(1)), api.ErrFull)
	refused(t, most, stripes(api.MaxRuns, keep(1), drop(1)), api.ErrOp) // named ahead of ErrFull
	refused(t, most, append(one, drop(1)), api.ErrOp)
	// Many parts, of which few runs come.
	two(t, most, runs(drop(half)), runs(drop(api.MaxRuns)))
	two(t, stripes(api.MaxRuns, keep(1), add("x")), runs(drop(api.MaxRuns)), runs(drop(half)))
	two(t, runs(add(long[:half])), stripes(api.MaxRuns, add("x"), keep(1)), runs(add(strings.Repeat("xa", half))))
	two(t, stripes(api.MaxRuns, keep(1), add("xy")), stripes(api.MaxRuns, keep(2), drop(1)), stripes(api.MaxRuns, keep(1), add("x")))
}

func TestAll(t *testing.T) {
	for _, x := range []struct {
		n    int
		l    [][]api.Run
		want []api.Run
	}{
		{0, nil, nil},
		{0, [][]api.Run{}, nil},
		{0, [][]api.Run{nil, {}}, nil},
		{1, nil, runs(keep(1))},
		{api.MaxText, nil, runs(keep(api.MaxText))},
		{api.MaxText, [][]api.Run{{keep(api.MaxText)}, {drop(api.MaxText)}}, runs(drop(api.MaxText))},
		{0, [][]api.Run{{add("ab")}}, runs(add("ab"))},
		{3, [][]api.Run{{keep(1), add("x"), drop(1), keep(1)}}, runs(keep(1), add("x"), drop(1), keep(1))},
		{2, [][]api.Run{{keep(1), add("x"), keep(1)}, {keep(2), drop(1)}}, runs(keep(1), add("x"), drop(1))},
		{0, [][]api.Run{{add("ab")}, {keep(1), drop(1)}, {add("x"), keep(1)}}, runs(add("xa"))},
		{2, [][]api.Run{{keep(2), add("xy")}, {drop(1), keep(3)}, {keep(1), drop(1), keep(1)}, {keep(2), add("z")}}, runs(drop(1), keep(1), add("yz"))},
	} {
		if op, e := compose.All(x.n, x.l); e != api.OK || !slices.Equal(op, x.want) {
			t.Errorf("All(%d, %v): %v, %d; want %v", x.n, x.l, op, int(e), x.want)
		}
	}
}

func TestAllRefused(t *testing.T) {
	most := stripes(api.MaxRuns, keep(1), drop(1))
	full := runs(add("x"), keep(api.MaxRuns/2))
	bad := runs(keep(1), keep(1))
	for _, x := range []struct {
		n    int
		l    [][]api.Run
		want api.Errno
	}{
		{-1, nil, api.ErrArg}, {api.MaxText + 1, nil, api.ErrArg}, {math.MinInt, nil, api.ErrArg}, {math.MaxInt, nil, api.ErrArg},
		{-1, [][]api.Run{bad}, api.ErrArg}, {api.MaxText + 1, [][]api.Run{{keep(1)}}, api.ErrArg}, {-1, [][]api.Run{most, full}, api.ErrArg},
		{2, [][]api.Run{bad}, api.ErrOp}, {2, [][]api.Run{nil}, api.ErrOp}, {0, [][]api.Run{{keep(1)}}, api.ErrOp}, {2, [][]api.Run{{keep(1)}}, api.ErrOp}, {2, [][]api.Run{{keep(3)}}, api.ErrOp},
		{2, [][]api.Run{{keep(2)}, {keep(1), drop(1)}, {keep(2)}}, api.ErrOp}, {2, [][]api.Run{{keep(2)}, bad, {keep(2)}}, api.ErrOp},
		{api.MaxText, [][]api.Run{{keep(api.MaxText), add("x")}}, api.ErrOp},
		{api.MaxRuns, [][]api.Run{most, full}, api.ErrFull},
		{api.MaxRuns, [][]api.Run{most, full, {drop(api.MaxRuns/2 + 1)}}, api.ErrFull},                                   // though all of them would come to one run
		{api.MaxRuns, [][]api.Run{most, full, bad}, api.ErrFull}, {api.MaxRuns, [][]api.Run{most, bad, full}, api.ErrOp}, // the first one's
	} {
		if op, e := compose.All(x.n, x.l); e != x.want || len(op) != 0 {
			t.Errorf("All(%d, %.80v): %.80v, %d; want %d", x.n, x.l, op, int(e), int(x.want))
		}
	}
}

// TestIdle: an edit that changes nothing, ahead and behind.
func TestIdle(t *testing.T) {
	for _, op := range [][]api.Run{nil, {keep(1)}, {add("x")}, {drop(1)}, {add("x"), drop(1)}, {drop(1), keep(1)}, {keep(1), add("xy"), drop(2), keep(3), drop(1)}, {keep(api.MaxText)}, {drop(api.MaxText)}, {add(long)}, stripes(api.MaxRuns, keep(1), drop(1))} {
		two(t, edit.Nothing(edit.In(op)), op, op)
		two(t, op, edit.Nothing(edit.Out(op)), op)
	}
}

// TestHandedIn: what is handed in is not changed, its spare room neither, and an answer has memory of its own.
func TestHandedIn(t *testing.T) {
	whole := runs(keep(1), add("xy"), drop(2), keep(9), add("spare"))
	was := slices.Clone(whole)
	idle := runs(keep(3), keep(8))
	a, _ := compose.Two(whole[:3], idle[:1])
	b, _ := compose.Two(idle[:1], whole[:3])
	c, _ := compose.All(3, [][]api.Run{whole[:3]})
	for _, op := range [][]api.Run{a, b, c} {
		if !slices.Equal(op, was[:3]) {
			t.Errorf("%v; want %v", op, was[:3])
		}
		clear(append(op, drop(7)))
		clear(op)
	}
	if !slices.Equal(whole, was) || !slices.Equal(idle, runs(keep(3), keep(8))) {
		t.Errorf("%v, %v", whole, idle)
	}
}

// item is a byte that knows where it comes from: how many bytes of the first text stood ahead of it, or -1 of one that came.
type item struct {
	from int
	char byte
}

// items tells n bytes of a first text.
func items(n int) []item {
	l := make([]item, n)
	for i := range l {
		l[i] = item{i, "abcdefghijklmnopqrstuvw"[i%23]}
	}
	return l
}

// done tells items with an edit done.
func done(op []api.Run, l []item) []item {
	var made []item
	for _, r := range op {
		made = append(made, l[:r.Keep]...)
		l = l[r.Keep+r.Drop:]
		for i := range len(r.Add) {
			made = append(made, item{-1, r.Add[i]})
		}
	}
	return made
}

// told tells the edit of n bytes that makes these items: between two that stay what came, then what is out.
func told(n int, l []item) []api.Run {
	var op []api.Run
	stay, come, next := 0, "", 0
	flush := func(upTo int) {
		for _, r := range runs(keep(stay), add(come), drop(upTo-next)) {
			if r != (api.Run{}) {
				op = append(op, r)
			}
		}
		stay, come = 0, ""
	}
	for _, x := range l {
		switch {
		case x.from < 0:
			come += string([]byte{x.char})
			continue
		case come != "" || x.from > next:
			flush(x.from)
		}
		stay, next = stay+1, x.from+1
	}
	flush(n)
	return op
}

// chanceEdit tells an edit of n bytes.
func chanceEdit(chance *rand.Rand, n int) []api.Run {
	var l []api.Run
	stays := chance.Intn(6)
	for i := range n + 1 {
		if chance.Intn(3) == 0 {
			l = append(l, add("uvwxyz"[chance.Intn(4):][:1+chance.Intn(2)]))
		}
		if i < n && chance.Intn(5) < stays {
			l = append(l, keep(1))
		} else if i < n {
			l = append(l, drop(1))
		}
	}
	return edit.Norm(l)
}

// TestChance: three edits, of which each two are held against what becomes of each byte, and all against each other.
func TestChance(t *testing.T) {
	chance := rand.New(rand.NewSource(8))
	for range 10000 {
		n := chance.Intn(8)
		a := chanceEdit(chance, n)
		b := chanceEdit(chance, edit.Out(a))
		c := chanceEdit(chance, edit.Out(b))
		two(t, a, b, told(n, done(b, done(a, items(n)))))
		two(t, b, c, told(edit.In(b), done(c, done(b, items(edit.In(b))))))
		want := told(n, done(c, done(b, done(a, items(n)))))
		ab, _ := compose.Two(a, b)
		bc, _ := compose.Two(b, c)
		two(t, ab, c, want)
		two(t, a, bc, want)
		two(t, edit.Nothing(n), a, a)
		two(t, a, edit.Nothing(edit.Out(a)), a)
		if all, e := compose.All(n, [][]api.Run{a, b, c}); e != api.OK || !slices.Equal(all, want) {
			t.Fatalf("All(%d, %v, %v, %v): %v, %d; want %v", n, a, b, c, all, int(e), want)
		}
		refused(t, a, chanceEdit(chance, edit.Out(a)+1), api.ErrOp)
	}
}
