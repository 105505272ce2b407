package cross_test

import (
	"fmt"
	"math"
	"math/rand"
	"slices"
	"strings"
	"testing"

	"variorum/api"
	"variorum/cross"
	"variorum/edit"
	"variorum/run"
)

func keep(n int) api.Run   { return api.Run{Keep: n} }
func add(s string) api.Run { return api.Run{Add: s} }
func drop(n int) api.Run   { return api.Run{Drop: n} }

func runs(l ...api.Run) []api.Run { return l }

// long is a text of MaxText bytes.
var long = strings.Repeat("a", api.MaxText)

// text tells a text of n bytes.
func text(n int) string { return strings.Repeat("abcdefghijklmnopqrstuvw", n/23+1)[:n] }

// brief tells edits in words, of great ones the beginning.
func brief(l any) string {
	s := fmt.Sprint(l)
	return s[:min(len(s), 200)]
}

// fold tells a text behind edits, which must fit.
func fold(t *testing.T, s string, l ...[]api.Run) string {
	t.Helper()
	made, e := run.Fold(l, s)
	if e != api.OK {
		t.Fatalf("%s do not follow each other: %d", brief(l), int(e))
	}
	return made
}

// two holds what two edits are behind each other against what they should be, and that both ways meet.
func two(t *testing.T, a, b, x, y []api.Run) {
	t.Helper()
	p, q, e := cross.Two(a, b)
	if e != api.OK || !slices.Equal(p, x) || !slices.Equal(q, y) {
		t.Fatalf("Two(%s, %s): %s, %s, %d; want %s, %s", brief(a), brief(b), brief(p), brief(q), int(e), brief(x), brief(y))
	}
	for _, op := range [][]api.Run{p, q} {
		if !edit.Good(op) || !slices.Equal(edit.Norm(op), op) {
			t.Fatalf("Two(%s, %s): %s is no Norm", brief(a), brief(b), brief(op))
		}
	}
	s := text(edit.In(a))
	if one, other := fold(t, s, a, q), fold(t, s, b, p); one != other {
		t.Fatalf("Two(%s, %s): %.80q and %.80q do not meet", brief(a), brief(b), one, other)
	}
}

// either holds the same of both orders, of edits that do not add between the same two bytes.
func either(t *testing.T, a, b, x, y []api.Run) {
	t.Helper()
	two(t, a, b, x, y)
	two(t, b, a, y, x)
}

// refused holds that two edits have just this error, in both orders.
func refused(t *testing.T, a, b []api.Run, want api.Errno) {
	t.Helper()
	for range 2 {
		if x, y, e := cross.Two(a, b); e != want || len(x)+len(y) != 0 {
			t.Errorf("Two(%s, %s): %s, %s, %d; want %d", brief(a), brief(b), brief(x), brief(y), int(e), int(want))
		}
		a, b = b, a
	}
}

func TestExample(t *testing.T) {
	a, b := runs(keep(1), add("x"), keep(1)), runs(keep(1), add("y"), keep(1))
	two(t, a, b, runs(keep(1), add("x"), keep(2)), runs(keep(2), add("y"), keep(1)))
	two(t, b, a, runs(keep(1), add("y"), keep(2)), runs(keep(2), add("x"), keep(1)))
	_, y, _ := cross.Two(a, b)
	if s := fold(t, "ab", a, y); s != "axyb" {
		t.Errorf("%q", s)
	}
}

// TestAddsOfBoth: between the same two bytes the first one's stand first; else the text's order holds, whichever is first.
func TestAddsOfBoth(t *testing.T) {
	two(t, runs(add("ab")), runs(add("xyz")), runs(add("ab"), keep(3)), runs(keep(2), add("xyz")))
	two(t, runs(add("xyz")), runs(add("ab")), runs(add("xyz"), keep(2)), runs(keep(3), add("ab")))
	two(t, runs(add("a"), keep(1)), runs(add("b"), keep(1)), runs(add("a"), keep(2)), runs(keep(1), add("b"), keep(1)))
	two(t, runs(keep(1), add("a")), runs(keep(1), add("b")), runs(keep(1), add("a"), keep(1)), runs(keep(2), add("b")))
	two(t, runs(add("a"), drop(1)), runs(add("b"), drop(1)), runs(add("a"), keep(1)), runs(keep(1), add("b")))
	two(t, runs(add("a"), drop(1)), runs(add("b"), keep(1)), runs(add("a"), keep(1), drop(1)), runs(keep(1), add("b")))
	two(t, runs(add("a"), keep(1)), runs(add("b"), drop(1)), runs(add("a"), keep(1)), runs(keep(1), add("b"), drop(1)))
	two(t, runs(add("a"), keep(1), add("b")), runs(add("x"), keep(1), add("y")), runs(add("a"), keep(2), add("b"), keep(1)), runs(keep(1), add("x"), keep(2), add("y")))
	either(t, runs(add("a"), keep(1)), runs(keep(1), add("b")), runs(add("a"), keep(2)), runs(keep(2), add("b")))
	either(t, runs(keep(1), add("a"), keep(2)), runs(keep(2), add("b"), keep(1)), runs(keep(1), add("a"), keep(3)), runs(keep(3), add("b"), keep(1)))
	// The byte between them is out: they stand as they would with it.
	either(t, runs(add("a"), drop(1)), runs(keep(1), add("b")), runs(add("a"), drop(1), keep(1)), runs(keep(1), add("b")))
	either(t, runs(add("a"), keep(1)), runs(drop(1)), runs(add("a")), runs(keep(1), drop(1)))
	either(t, runs(drop(1), keep(1), add("a")), runs(keep(1), drop(1)), runs(add("a"), drop(1)), runs(drop(1), keep(1)))
}

// TestDrops: a byte that both drop is none of theirs; what one of them drops, it alone drops.
func TestDrops(t *testing.T) {
	either(t, runs(drop(1)), runs(drop(1)), nil, nil)
	either(t, runs(drop(3)), runs(drop(3)), nil, nil)
	either(t, runs(drop(3)), runs(keep(3)), runs(drop(3)), nil)
	either(t, runs(keep(1), drop(1), keep(1)), runs(keep(1), drop(1), keep(1)), runs(keep(2)), runs(keep(2)))
	either(t, runs(keep(1), drop(1), keep(1)), runs(keep(3)), runs(keep(1), drop(1), keep(1)), runs(keep(2)))
	either(t, runs(drop(2), keep(1)), runs(keep(1), drop(2)), runs(drop(1)), runs(drop(1)))
	either(t, runs(drop(3), keep(2)), runs(keep(2), drop(3)), runs(drop(2)), runs(drop(2)))
	either(t, runs(keep(1), drop(3), keep(1)), runs(drop(5)), nil, runs(drop(2)))
	either(t, runs(keep(1), drop(3), keep(1)), runs(keep(2), drop(1), keep(2)), runs(keep(1), drop(2), keep(1)), runs(keep(2)))
	either(t, runs(drop(1), keep(1), drop(1), keep(1)), runs(keep(1), drop(1), keep(1), drop(1)), runs(drop(2)), runs(drop(2)))
	either(t, runs(drop(1), keep(2), drop(2), keep(1)), runs(keep(2), drop(2), keep(2)), runs(drop(1), keep(1), drop(1), keep(1)), runs(keep(1), drop(1), keep(1)))
}

// TestAddsWithinDrops: what one adds stays, within what the other one drops.
func TestAddsWithinDrops(t *testing.T) {
	either(t, runs(drop(3)), runs(keep(1), add("z"), keep(2)), runs(drop(1), keep(1), drop(2)), runs(add("z")))
	either(t, runs(drop(3)), runs(add("z"), keep(3)), runs(keep(1), drop(3)), runs(add("z")))
	either(t, runs(drop(3)), runs(keep(3), add("z")), runs(drop(3), keep(1)), runs(add("z")))
	either(t, runs(drop(3)), runs(keep(1), add("xy"), keep(1), add("z"), keep(1)), runs(drop(1), keep(2), drop(1), keep(1), drop(1)), runs(add("xyz")))
	either(t, runs(keep(1), drop(2), keep(1)), runs(keep(2), add("z"), drop(1), keep(1)), runs(keep(1), drop(1), keep(2)), runs(keep(1), add("z"), keep(1)))
	either(t, runs(add("ab"), drop(2)), runs(keep(1), add("z"), drop(1)), runs(add("ab"), drop(1), keep(1)), runs(keep(2), add("z")))
}

// TestIdle: with an edit that changes nothing, and of the empty text.
func TestIdle(t *testing.T) {
	two(t, nil, nil, nil, nil)
	two(t, runs(), nil, nil, nil)
	for _, op := range [][]api.Run{nil, {keep(1)}, {add("x")}, {drop(1)}, {add("x"), drop(1)}, {drop(1), keep(1)}, {add("x"), keep(3)}, {keep(1), add("xy"), drop(2), keep(3), drop(1)}, {keep(api.MaxText)}, {drop(api.MaxText)}, {add(long)}, stripes(api.MaxRuns, keep(1), drop(1))} {
		either(t, edit.Nothing(edit.In(op)), op, edit.Nothing(edit.Out(op)), op)
	}
}

// noEdits are runs that are not Good, though some of them would be of 3 bytes.
func noEdits() [][]api.Run {
	return [][]api.Run{
		{keep(1), keep(2)}, {add("x"), add("y"), keep(1), drop(2)}, {drop(1), drop(2)}, {drop(1), add("x"), keep(2)}, {keep(3), add("x"), add("y")},
		{{}}, {{}, keep(3)}, {keep(3), {}}, {{Keep: 3, Add: "x"}}, {{Add: "xyz", Drop: 3}}, {{Keep: 3, Drop: -1}}, {keep(-1), drop(4)}, {drop(-1)},
		{keep(math.MaxInt)}, {keep(math.MinInt)}, {drop(math.MaxInt), keep(math.MaxInt), drop(5)}, {keep(3), add(long)}, {keep(3), drop(api.MaxText)},
		slices.Repeat(runs(keep(1), drop(1)), api.MaxRuns),
	}
}

func TestTwoRefused(t *testing.T) {
	for _, op := range noEdits() {
		refused(t, op, runs(keep(3)), api.ErrOp)
		refused(t, op, nil, api.ErrOp) // In is 0 of what is no edit
		refused(t, op, op, api.ErrOp)
	}
	for _, x := range [][2][]api.Run{
		{runs(keep(1)), runs(keep(2))}, {runs(drop(2)), runs(keep(1))}, {runs(drop(2)), runs(drop(1))}, {nil, runs(keep(1))}, {nil, runs(drop(1))},
		{runs(add("x")), runs(keep(1))}, {runs(add("x"), drop(1)), runs(add("x"))}, {runs(keep(1), add("x")), runs(keep(2))}, {runs(keep(1), drop(1)), runs(keep(1))},
		{runs(keep(api.MaxText)), runs(keep(api.MaxText - 1))},
	} {
		refused(t, x[0], x[1], api.ErrOp)
	}
}

func TestMaxText(t *testing.T) {
	full := runs(keep(api.MaxText))
	two(t, runs(add(long[1:])), runs(add("x")), runs(add(long[1:]), keep(1)), runs(keep(api.MaxText-1), add("x")))
	refused(t, runs(add(long[1:])), runs(add("xy")), api.ErrFull)
	refused(t, runs(add(long)), runs(add("x")), api.ErrFull)
	refused(t, runs(add(long)), runs(add(long)), api.ErrFull)
	either(t, full, runs(drop(1), keep(api.MaxText-1)), runs(keep(api.MaxText-1)), runs(drop(1), keep(api.MaxText-1)))
	either(t, runs(add(long), drop(api.MaxText)), runs(drop(api.MaxText)), runs(add(long)), runs(keep(api.MaxText)))
	// Each alone makes a text of MaxText bytes. Both make one, if they drop unlike bytes, and one more, if they drop the same one.
	first, second := runs(add("x"), drop(1), keep(api.MaxText-1)), runs(keep(1), add("y"), drop(1), keep(api.MaxText-2))
	either(t, first, second, first, second)
	refused(t, first, runs(add("y"), drop(1), keep(api.MaxText-1)), api.ErrFull)
	refused(t, runs(add("x"), keep(1)), runs(keep(1), add(long[1:])), api.ErrFull)
	refused(t, runs(add(long), drop(1)), runs(add(long), keep(1)), api.ErrOp) // the second one alone is above MaxText
}

// stripes tells n runs by turns.
func stripes(n int, l ...api.Run) []api.Run {
	op := make([]api.Run, n)
	for i := range op {
		op[i] = l[i%len(l)]
	}
	return op
}

func TestMaxRuns(t *testing.T) {
	half := api.MaxRuns / 2
	most := stripes(api.MaxRuns, keep(1), add("x"))
	either(t, runs(drop(half)), most, stripes(api.MaxRuns, drop(1), keep(1)), runs(add(strings.Repeat("x", half)))) // MaxRuns runs come
	refused(t, runs(add("y"), drop(half)), most, api.ErrFull)                                                       // one more
	refused(t, runs(add("y"), drop(half), keep(1)), most, api.ErrOp)                                                // named ahead of ErrFull
	refused(t, runs(drop(half)), append(slices.Clone(most[1:]), keep(2)), api.ErrOp)
	// The first one alone has one run more, a Keep of what the second one adds behind all.
	refused(t, most, stripes(api.MaxRuns, keep(1), add("y")), api.ErrFull)
	less := stripes(api.MaxRuns-2, keep(1), add("x"))
	two(t, less, stripes(api.MaxRuns-2, keep(1), add("y")), append(runs(keep(1), add("x")), append(stripes(api.MaxRuns-4, keep(2), add("x")), keep(1))...), stripes(api.MaxRuns-2, keep(2), add("y")))
	// Many steps, of which few runs come.
	one, other := stripes(api.MaxRuns, keep(1), drop(1)), stripes(api.MaxRuns, drop(1), keep(1))
	either(t, one, other, runs(drop(half)), runs(drop(half)))
	either(t, one, one, runs(keep(half)), runs(keep(half)))
	either(t, one, runs(drop(api.MaxRuns)), nil, runs(drop(half)))
}

// over holds what Over tells against Two, step by step, and that both ways meet.
func over(t *testing.T, a []api.Run, l [][]api.Run, first bool) {
	t.Helper()
	x, m, e := cross.Over(a, l, first)
	if e != api.OK || len(m) != len(l) {
		t.Fatalf("Over(%s, %s, %t): %s, %s, %d", brief(a), brief(l), first, brief(x), brief(m), int(e))
	}
	by := a
	for i, op := range l {
		var want []api.Run
		if first {
			by, want, _ = cross.Two(by, op)
		} else {
			want, by, _ = cross.Two(op, by)
		}
		if !slices.Equal(m[i], want) {
			t.Fatalf("Over(%s, %s, %t): at %d %s; want %s", brief(a), brief(l), first, i, brief(m[i]), brief(want))
		}
	}
	if !slices.Equal(x, by) {
		t.Fatalf("Over(%s, %s, %t): %s; want %s", brief(a), brief(l), first, brief(x), brief(by))
	}
	s := text(edit.In(a))
	if one, other := fold(t, fold(t, s, a), m...), fold(t, fold(t, s, l...), x); one != other {
		t.Fatalf("Over(%s, %s, %t): %.80q and %.80q do not meet", brief(a), brief(l), first, one, other)
	}
}

func TestOver(t *testing.T) {
	a := runs(keep(1), add("A"), keep(1))
	l := [][]api.Run{{keep(1), add("b"), keep(1)}, {keep(2), add("c"), keep(1)}, {drop(1), keep(3)}}
	for _, x := range []struct {
		many  int
		first bool
		made  string
	}{{0, true, "1A2"}, {0, false, "1A2"}, {1, true, "1Ab2"}, {1, false, "1bA2"}, {2, true, "1Abc2"}, {2, false, "1bcA2"}, {3, true, "Abc2"}, {3, false, "bcA2"}} {
		over(t, a, l[:x.many], x.first)
		behind, m, _ := cross.Over(a, l[:x.many], x.first)
		if s := fold(t, fold(t, "12", a), m...); s != x.made {
			t.Errorf("%v behind %v: %q; want %q", m, a, s, x.made)
		}
		if s := fold(t, fold(t, "12", l[:x.many]...), behind); s != x.made {
			t.Errorf("%v behind %v: %q; want %q", behind, l[:x.many], s, x.made)
		}
	}
	for _, first := range []bool{true, false} {
		over(t, nil, [][]api.Run{nil, {add("x")}, {drop(1)}, nil}, first)
		over(t, runs(add("y")), [][]api.Run{nil, {add("x")}, {drop(1)}, nil}, first)
		over(t, runs(drop(2)), [][]api.Run{{keep(1), add("x"), keep(1)}, {drop(3)}, {add("yz")}}, first)
		over(t, runs(add("y"), keep(2)), [][]api.Run{{add("x"), keep(2)}, {add("w"), keep(3)}, {drop(1), keep(3)}, {keep(3)}}, first)
	}
}

func TestOverNone(t *testing.T) {
	for _, a := range [][]api.Run{nil, {keep(1)}, {keep(1), add("x"), drop(1)}, {keep(1), keep(1)}} { // no step is there to refuse the last one
		for _, l := range [][][]api.Run{nil, {}} {
			if x, m, e := cross.Over(a, l, true); e != api.OK || !slices.Equal(x, a) || len(m) != 0 {
				t.Errorf("Over(%v, none): %v, %v, %d", a, x, m, int(e))
			}
		}
	}
}

func TestOverRefused(t *testing.T) {
	a := runs(add(long[2:]), keep(2))
	less := runs(add("x"), keep(2))
	bad := runs(keep(1), keep(1))
	full := stripes(api.MaxRuns, keep(1), add("x"))
	for _, x := range []struct {
		a    []api.Run
		l    [][]api.Run
		want api.Errno
	}{
		{bad, [][]api.Run{{keep(2)}}, api.ErrOp}, {less, [][]api.Run{bad}, api.ErrOp}, {less, [][]api.Run{nil}, api.ErrOp}, {nil, [][]api.Run{{keep(1)}}, api.ErrOp},
		{less, [][]api.Run{{keep(3)}, {keep(3)}}, api.ErrOp}, {less, [][]api.Run{{keep(1), drop(1)}, {keep(2)}}, api.ErrOp}, {less, [][]api.Run{{keep(2), add("y")}, {keep(3)}, {keep(2)}}, api.ErrOp},
		{less, [][]api.Run{{keep(2)}, bad, {keep(2)}}, api.ErrOp}, {less, [][]api.Run{{keep(2)}, {keep(2)}, bad}, api.ErrOp},
		{a, [][]api.Run{{keep(2), add("y")}}, api.ErrFull}, {a, [][]api.Run{{keep(2)}, {keep(2), add("y")}}, api.ErrFull},
		{a, [][]api.Run{{drop(1), keep(1)}, {keep(1), add("y")}, {keep(2), add("z")}}, api.ErrFull},
		{runs(add("y"), drop(api.MaxRuns/2)), [][]api.Run{{keep(api.MaxRuns / 2)}, full}, api.ErrFull},
		{a, [][]api.Run{{keep(2), add("y")}, bad}, api.ErrFull}, {a, [][]api.Run{bad, {keep(2), add("y")}}, api.ErrOp}, // the first one
	} {
		for _, first := range []bool{true, false} {
			if op, m, e := cross.Over(x.a, x.l, first); e != x.want || len(op)+len(m) != 0 {
				t.Errorf("Over(%s, %s, %t): %s, %s, %d; want %d", brief(x.a), brief(x.l), first, brief(op), brief(m), int(e), int(x.want))
			}
		}
	}
}

// TestHandedIn: what is handed in is not changed, its spare room neither, and an answer has memory of its own.
func TestHandedIn(t *testing.T) {
	whole := runs(keep(1), add("xy"), drop(2), keep(9), add("spare"))
	idle := runs(keep(3), keep(8))
	list := [][]api.Run{idle[:1], idle[1:]}
	was, wasIdle := slices.Clone(whole), slices.Clone(idle)
	var answers [][]api.Run
	take := func(l ...[]api.Run) { answers = append(answers, l...) }
	x, y, _ := cross.Two(whole[:3], idle[:1])
	take(x, y)
	x, y, _ = cross.Two(idle[:1], whole[:3])
	take(x, y)
	for _, first := range []bool{true, false} {
		for n := range 2 {
			x, m, e := cross.Over(whole[:3], list[:n], first)
			if e != api.OK || !slices.Equal(x, was[:3]) || len(m) != n {
				t.Errorf("Over(%v, %v, %t): %v, %v, %d", whole[:3], list[:n], first, x, m, int(e))
			}
			take(x)
			take(m...)
			clear(append(m, nil))
		}
	}
	for _, op := range answers {
		clear(append(op, drop(7)))
		clear(op)
	}
	if !slices.Equal(whole, was) || !slices.Equal(idle, wasIdle) || !slices.Equal(list[0], idle[:1]) || !slices.Equal(list[1], idle[1:]) {
		t.Errorf("%v, %v, %v", whole, idle, list)
	}
}

// deeds are what an edit does: what comes ahead of each byte and behind all, and which bytes go.
type deeds struct {
	comes []string
	goes  []bool
}

// deedsOf tells what an edit does.
func deedsOf(op []api.Run) deeds {
	d := deeds{comes: []string{""}}
	for _, r := range op {
		d.comes[len(d.comes)-1] += r.Add
		for range r.Keep + r.Drop {
			d.comes, d.goes = append(d.comes, ""), append(d.goes, r.Drop > 0)
		}
	}
	return d
}

// edit tells the edit that does these.
func (d deeds) edit() []api.Run {
	var l []api.Run
	for i, s := range d.comes {
		l = append(l, add(s))
		if i < len(d.goes) && d.goes[i] {
			l = append(l, drop(1))
		} else if i < len(d.goes) {
			l = append(l, keep(1))
		}
	}
	return edit.Norm(l)
}

// behind tells one edit behind another one, byte by byte, by the chapter's words.
func behind(one, other deeds, first bool) []api.Run {
	var l []api.Run
	for i, s := range one.comes {
		if first {
			l = append(l, add(s), keep(len(other.comes[i])))
		} else {
			l = append(l, keep(len(other.comes[i])), add(s))
		}
		switch {
		case i == len(one.goes) || other.goes[i]:
		case one.goes[i]:
			l = append(l, drop(1))
		default:
			l = append(l, keep(1))
		}
	}
	return edit.Norm(l)
}

// meetAdds tells whether two edits add between the same two bytes.
func meetAdds(a, b deeds) bool {
	for i := range a.comes {
		if a.comes[i] != "" && b.comes[i] != "" {
			return true
		}
	}
	return false
}

// pair holds two edits of one text against the chapter's words, in both orders.
func pair(t *testing.T, a, b []api.Run) {
	t.Helper()
	one, other := deedsOf(a), deedsOf(b)
	x, y := behind(one, other, true), behind(other, one, false)
	two(t, a, b, x, y)
	if !meetAdds(one, other) {
		two(t, b, a, y, x)
	}
}

// small tells all edits of n bytes, of which each adds s or nothing at each place.
func small(n int, s string) [][]api.Run {
	var l [][]api.Run
	for bits := range 1 << (2*n + 1) {
		d := deeds{make([]string, n+1), make([]bool, n)}
		for i := range d.comes {
			d.comes[i] = s[:len(s)*(bits>>i&1)]
		}
		for i := range d.goes {
			d.goes[i] = bits>>(n+1+i)&1 == 1
		}
		l = append(l, d.edit())
	}
	return l
}

// TestSmall: all edits of up to three bytes, two and two.
func TestSmall(t *testing.T) {
	for n := range 4 {
		for _, a := range small(n, "A") {
			for _, b := range small(n, "12") {
				pair(t, a, b)
			}
		}
	}
}

// chanceEdit tells an edit of n bytes.
func chanceEdit(chance *rand.Rand, n int) []api.Run {
	d := deeds{make([]string, n+1), make([]bool, n)}
	stays := chance.Intn(6)
	for i := range d.comes {
		if chance.Intn(3) == 0 {
			d.comes[i] = "UVWXYZ"[chance.Intn(4):][:1+chance.Intn(2)]
		}
	}
	for i := range d.goes {
		d.goes[i] = chance.Intn(5) >= stays
	}
	return d.edit()
}

// TestChance: greater edits, two and two, and one over several.
func TestChance(t *testing.T) {
	chance := rand.New(rand.NewSource(9))
	for range 5000 {
		n := chance.Intn(12)
		a := chanceEdit(chance, n)
		pair(t, a, chanceEdit(chance, n))
		var l [][]api.Run
		for m := n; len(l) < chance.Intn(5); m = edit.Out(l[len(l)-1]) {
			l = append(l, chanceEdit(chance, m))
		}
		over(t, a, l, true)
		over(t, a, l, false)
		refused(t, a, chanceEdit(chance, n+1), api.ErrOp)
	}
}
