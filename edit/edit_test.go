package edit_test

import (
	"math"
	"math/rand"
	"slices"
	"strings"
	"testing"

	"variorum/api"
	"variorum/edit"
)

func keep(n int) api.Run   { return api.Run{Keep: n} }
func add(s string) api.Run { return api.Run{Add: s} }
func drop(n int) api.Run   { return api.Run{Drop: n} }

func runs(l ...api.Run) []api.Run { return l }

// long is a text of MaxText bytes.
var long = strings.Repeat("a", api.MaxText)

// wrongRuns are runs of which none, two or all of Keep, Add and Drop are given, and such as are below 0.
func wrongRuns() []api.Run {
	l := runs(api.Run{}, keep(-1), drop(-1), keep(math.MinInt), drop(math.MinInt))
	for _, n := range []int{1, -1, math.MaxInt, math.MinInt} {
		l = append(l, api.Run{Keep: n, Add: "x"}, api.Run{Keep: n, Drop: 1}, api.Run{Keep: 1, Drop: n}, api.Run{Add: "x", Drop: n}, api.Run{Keep: n, Add: "x", Drop: n}, api.Run{Keep: -1, Drop: n})
	}
	return l
}

// good holds runs to be an edit of in bytes that makes out.
func good(t *testing.T, op []api.Run, in, out int) {
	t.Helper()
	if !edit.Good(op) || edit.In(op) != in || edit.Out(op) != out {
		t.Errorf("%.80v: Good %t, In %d, Out %d; want %d, %d", op, edit.Good(op), edit.In(op), edit.Out(op), in, out)
	}
	if !slices.Equal(edit.Norm(op), op) {
		t.Errorf("%.80v: Norm of an edit is not it: %.80v", op, edit.Norm(op))
	}
}

// bad holds runs to be no edit.
func bad(t *testing.T, op []api.Run) {
	t.Helper()
	if edit.Good(op) || edit.In(op) != 0 || edit.Out(op) != 0 || edit.Idle(op) {
		t.Errorf("%.80v: Good %t, In %d, Out %d, Idle %t", op, edit.Good(op), edit.In(op), edit.Out(op), edit.Idle(op))
	}
}

// norm holds what Norm tells of runs against what it should tell.
func norm(t *testing.T, l []api.Run, want ...api.Run) {
	t.Helper()
	if op := edit.Norm(l); !slices.Equal(op, want) {
		t.Errorf("Norm of %.80v: %.80v; want %.80v", l, op, want)
	}
}

func TestExamples(t *testing.T) {
	op, e := edit.Insert(2, 1, "x")
	if e != api.OK || !slices.Equal(op, runs(keep(1), add("x"), keep(1))) {
		t.Error(op, int(e))
	}
	norm(t, runs(drop(1), add("x"), drop(2)), add("x"), drop(3))
}

func TestGood(t *testing.T) {
	good(t, nil, 0, 0)
	good(t, runs(), 0, 0)
	good(t, runs(keep(1)), 1, 1)
	good(t, runs(add("xyz")), 0, 3)
	good(t, runs(drop(2)), 2, 0)
	good(t, runs(add("\xff\x00"), drop(2)), 2, 2)
	good(t, runs(keep(1), add("xy"), drop(2), keep(3)), 6, 6)
	good(t, runs(drop(1), keep(1), add("x"), keep(1), drop(4)), 7, 3)
	bad(t, runs(keep(1), keep(2)))
	bad(t, runs(add("x"), add("y")))
	bad(t, runs(drop(1), drop(2)))
	bad(t, runs(drop(1), add("x")))
	bad(t, runs(keep(1), drop(1), add("x"), keep(1)))
	bad(t, runs(add("x"), drop(1), add("y")))
	for _, r := range wrongRuns() {
		bad(t, runs(r))
		bad(t, runs(r, keep(1)))
		bad(t, runs(keep(1), r))
		bad(t, runs(add("x"), r, keep(1)))
	}
}

func TestGoodUpToMaxText(t *testing.T) {
	good(t, runs(keep(api.MaxText)), api.MaxText, api.MaxText)
	good(t, runs(drop(api.MaxText)), api.MaxText, 0)
	good(t, runs(add(long)), 0, api.MaxText)
	good(t, runs(add(long), drop(api.MaxText)), api.MaxText, api.MaxText)
	good(t, runs(keep(1), drop(api.MaxText-2), keep(1)), api.MaxText, 2)
	good(t, runs(keep(1), add(long[2:]), keep(1)), 2, api.MaxText)
	good(t, runs(keep(1), add(long[1:]), drop(api.MaxText-1)), api.MaxText, api.MaxText)
	for _, op := range [][]api.Run{
		{keep(api.MaxText + 1)}, {drop(api.MaxText + 1)}, {add(long + "x")},
		{keep(1), drop(api.MaxText)}, {drop(api.MaxText), keep(1)}, {drop(1), keep(api.MaxText)}, {drop(api.MaxText - 1), keep(1), drop(1)},
		{keep(1), add(long)}, {add(long), keep(1)}, {add("x"), keep(api.MaxText)}, {add(long[1:]), keep(1), add("x")},
		{keep(1), drop(1), keep(api.MaxText - 1)}, {keep(1), add("x"), keep(api.MaxText - 1)},
		{keep(math.MaxInt)}, {drop(math.MaxInt)},
		{keep(1), drop(math.MaxInt)}, {drop(math.MaxInt), keep(math.MaxInt)}, {drop(math.MaxInt), keep(math.MaxInt), drop(2)}, // sums that would come round to few
		{keep(math.MaxInt), add("x"), keep(math.MaxInt), add("xy"), keep(2)}, {add("x"), keep(math.MaxInt)},
	} {
		bad(t, op)
		norm(t, op)
	}
}

// stripes tells n runs of one byte each: Keeps and Drops by turns.
func stripes(n int) []api.Run {
	op := make([]api.Run, n)
	for i := range op {
		op[i] = []api.Run{keep(1), drop(1)}[i%2]
	}
	return op
}

func TestMaxRuns(t *testing.T) {
	good(t, stripes(api.MaxRuns), api.MaxRuns, api.MaxRuns/2)
	bad(t, stripes(api.MaxRuns+1))
	norm(t, stripes(api.MaxRuns+1))
	norm(t, stripes(api.MaxRuns+2))
	// More runs than MaxRuns, of which an edit of just MaxRuns comes.
	norm(t, append(stripes(api.MaxRuns), drop(2), api.Run{}, drop(3)), append(stripes(api.MaxRuns-1), drop(6))...)
	most := append(runs(add("x"), drop(1)), stripes(api.MaxRuns-2)...)
	good(t, most, api.MaxRuns-1, api.MaxRuns/2)
	bad(t, append(runs(keep(1)), most...))
	norm(t, append(runs(keep(1)), most...))
	many := slices.Repeat(runs(keep(1)), 3*api.MaxRuns)
	bad(t, many)
	norm(t, many, keep(3*api.MaxRuns))
	norm(t, slices.Repeat(runs(drop(1), add("ab")), api.MaxRuns), add(strings.Repeat("ab", api.MaxRuns)), drop(api.MaxRuns))
}

func TestNorm(t *testing.T) {
	norm(t, nil)
	norm(t, runs())
	norm(t, runs(keep(1), keep(2)), keep(3))
	norm(t, runs(add("x"), add("yz")), add("xyz"))
	norm(t, runs(drop(1), drop(2)), drop(3))
	norm(t, runs(drop(1), add("x")), add("x"), drop(1))
	norm(t, runs(keep(1), drop(1), add("x"), drop(2), add("y"), keep(2)), keep(1), add("xy"), drop(3), keep(2))
	norm(t, runs(drop(1), keep(1), add("x")), drop(1), keep(1), add("x")) // a Keep parts them
	norm(t, runs(keep(1), keep(2), drop(1), keep(3), keep(4), drop(1), add("x")), keep(3), drop(1), keep(7), add("x"), drop(1))
	norm(t, runs(drop(1), add("x"), drop(2), add("y"), api.Run{}, keep(1), keep(2), keep(-5), add(""), drop(1)), add("xy"), drop(3), keep(3), drop(1))
	for _, r := range wrongRuns() { // what is not right is as if it were not there
		norm(t, runs(r))
		norm(t, runs(r, keep(1)), keep(1))
		norm(t, runs(keep(1), r, keep(2)), keep(3))
		norm(t, runs(drop(1), r, add("x"), r), add("x"), drop(1))
		norm(t, runs(add("x"), r, keep(1), r, add("y")), add("x"), keep(1), add("y"))
	}
}

func TestNormBeyondMaxText(t *testing.T) {
	norm(t, runs(keep(api.MaxText-1), keep(1)), keep(api.MaxText))
	norm(t, runs(drop(1), drop(api.MaxText-1)), drop(api.MaxText))
	norm(t, runs(add(long[1:]), drop(1), add("a")), add(long), drop(1))
	for _, l := range [][]api.Run{
		{keep(api.MaxText), keep(1)}, {drop(api.MaxText), drop(1)}, {add(long), add("x")}, {add(long), drop(1), add("x")},
		{keep(math.MaxInt), keep(math.MaxInt), keep(2)}, {drop(math.MaxInt), drop(math.MaxInt), drop(2)}, {drop(1), add("x"), drop(math.MaxInt)},
		slices.Repeat(runs(keep(math.MaxInt)), 5), slices.Repeat(runs(add(long)), 1000), slices.Repeat(runs(drop(1<<62)), 4),
	} {
		norm(t, l)
	}
}

// plain tells what Norm should by turning and joining neighbours until nothing is to be done any more.
func plain(l []api.Run) []api.Run {
	op := slices.DeleteFunc(slices.Clone(l), func(r api.Run) bool { return !right(r) })
	for i := 0; i+1 < len(op); {
		a, b := op[i], op[i+1]
		switch {
		case a.Drop > 0 && b.Add != "":
			op[i], op[i+1] = b, a
		case a.Keep > 0 && b.Keep > 0 || a.Add != "" && b.Add != "" || a.Drop > 0 && b.Drop > 0:
			op = slices.Replace(op, i, i+2, api.Run{Keep: a.Keep + b.Keep, Add: a.Add + b.Add, Drop: a.Drop + b.Drop})
		default:
			i++
			continue
		}
		i = 0
	}
	return op
}

// right is the chapter's word.
func right(r api.Run) bool {
	many := 0
	for _, holds := range []bool{r.Keep > 0, r.Add != "", r.Drop > 0} {
		if holds {
			many++
		}
	}
	return many == 1 && r.Keep >= 0 && r.Drop >= 0
}

// isEdit is the chapter's word, of few and small runs.
func isEdit(op []api.Run) bool {
	for i, r := range op {
		if !right(r) || i > 0 && !slices.Equal(plain(op[i-1:i+1]), op[i-1:i+1]) {
			return false
		}
	}
	return true
}

func chanceRuns(chance *rand.Rand) []api.Run {
	l := make([]api.Run, chance.Intn(12))
	for i := range l {
		n := chance.Intn(5) - 1
		l[i] = []api.Run{keep(n), drop(n), add("xyz"[:max(n-1, 0)]), {Keep: n, Drop: chance.Intn(2)}}[chance.Intn(4)]
	}
	return l
}

// TestChance: many lists of runs, held against the chapter's words.
func TestChance(t *testing.T) {
	chance := rand.New(rand.NewSource(6))
	edits := 0
	for range 20000 {
		l := chanceRuns(chance)
		if edit.Good(l) != isEdit(l) {
			t.Fatalf("Good of %v: %t", l, edit.Good(l))
		}
		if isEdit(l) {
			edits++
		} else {
			bad(t, l)
		}
		norm(t, l, plain(l)...)
		in, out := 0, 0
		for _, r := range l {
			if right(r) {
				in, out = in+r.Keep+r.Drop, out+r.Keep+len(r.Add)
			}
		}
		good(t, edit.Norm(l), in, out)
		if t.Failed() {
			t.FailNow()
		}
	}
	if edits < 1000 {
		t.Errorf("too few of them were edits: %d", edits)
	}
}

func TestNothing(t *testing.T) {
	for _, n := range []int{1, 2, api.MaxText} {
		if op := edit.Nothing(n); !slices.Equal(op, runs(keep(n))) || !edit.Idle(op) {
			t.Errorf("Nothing(%d): %v", n, op)
		}
	}
	for _, n := range []int{0, -1, api.MaxText + 1, math.MinInt, math.MaxInt} {
		if op := edit.Nothing(n); len(op) != 0 {
			t.Errorf("Nothing(%d): %v", n, op)
		}
	}
}

func TestInsert(t *testing.T) {
	for _, x := range []struct {
		n, at int
		s     string
		want  []api.Run
	}{
		{0, 0, "", nil},
		{0, 0, "x", runs(add("x"))},
		{3, 0, "ab", runs(add("ab"), keep(3))},
		{3, 1, "ab", runs(keep(1), add("ab"), keep(2))},
		{3, 3, "ab", runs(keep(3), add("ab"))},
		{3, 0, "", runs(keep(3))},
		{3, 1, "", runs(keep(3))},
		{1, 1, "\x00", runs(keep(1), add("\x00"))},
		{0, 0, long, runs(add(long))},
		{1, 0, long[1:], runs(add(long[1:]), keep(1))},
		{api.MaxText, 1, "", runs(keep(api.MaxText))},
		{api.MaxText - 1, 1, "x", runs(keep(1), add("x"), keep(api.MaxText-2))},
	} {
		op, e := edit.Insert(x.n, x.at, x.s)
		if e != api.OK || !slices.Equal(op, x.want) || !edit.Good(op) || edit.In(op) != x.n || edit.Out(op) != x.n+len(x.s) {
			t.Errorf("Insert(%d, %d, %d bytes): %.80v, %d", x.n, x.at, len(x.s), op, int(e))
		}
	}
}

func TestInsertRefused(t *testing.T) {
	more := long + "x"
	for _, x := range []struct {
		n, at int
		s     string
		want  api.Errno
	}{
		{-1, 0, "x", api.ErrArg}, {-1, -1, more, api.ErrArg}, {math.MinInt, 0, "", api.ErrArg}, {api.MaxText + 1, 0, "", api.ErrArg}, {math.MaxInt, math.MaxInt, more, api.ErrArg},
		{3, -1, "x", api.ErrRange}, {3, 4, "x", api.ErrRange}, {0, 1, "", api.ErrRange}, {3, math.MaxInt, more, api.ErrRange}, {3, math.MinInt, more, api.ErrRange}, {api.MaxText, api.MaxText + 1, "x", api.ErrRange},
		{api.MaxText, 0, "x", api.ErrFull}, {api.MaxText, api.MaxText, "x", api.ErrFull}, {0, 0, more, api.ErrFull}, {1, 0, long, api.ErrFull}, {api.MaxText, 0, more, api.ErrFull},
	} {
		if op, e := edit.Insert(x.n, x.at, x.s); e != x.want || len(op) != 0 {
			t.Errorf("Insert(%d, %d, %d bytes): %.80v, %d; want %d", x.n, x.at, len(x.s), op, int(e), int(x.want))
		}
	}
}

func TestDelete(t *testing.T) {
	for _, x := range []struct {
		n, at, many int
		want        []api.Run
	}{
		{0, 0, 0, nil},
		{3, 0, 0, runs(keep(3))},
		{3, 2, 0, runs(keep(3))},
		{3, 3, 0, runs(keep(3))},
		{3, 0, 1, runs(drop(1), keep(2))},
		{3, 1, 1, runs(keep(1), drop(1), keep(1))},
		{3, 1, 2, runs(keep(1), drop(2))},
		{3, 0, 3, runs(drop(3))},
		{api.MaxText, 0, api.MaxText, runs(drop(api.MaxText))},
		{api.MaxText, 1, api.MaxText - 2, runs(keep(1), drop(api.MaxText-2), keep(1))},
	} {
		op, e := edit.Delete(x.n, x.at, x.many)
		if e != api.OK || !slices.Equal(op, x.want) || !edit.Good(op) || edit.In(op) != x.n || edit.Out(op) != x.n-x.many {
			t.Errorf("Delete(%d, %d, %d): %v, %d", x.n, x.at, x.many, op, int(e))
		}
	}
	for _, x := range []struct {
		n, at, many int
		want        api.Errno
	}{
		{-1, 0, 0, api.ErrArg}, {-1, -1, -1, api.ErrArg}, {math.MinInt, 0, 1, api.ErrArg}, {api.MaxText + 1, 0, 0, api.ErrArg}, {math.MaxInt, 0, math.MaxInt, api.ErrArg},
		{3, -1, 0, api.ErrRange}, {3, -1, 1, api.ErrRange}, {3, 4, 0, api.ErrRange}, {3, 4, -1, api.ErrRange}, {3, 0, -1, api.ErrRange}, {3, 3, -3, api.ErrRange},
		{3, 0, 4, api.ErrRange}, {3, 1, 3, api.ErrRange}, {3, 3, 1, api.ErrRange}, {0, 0, 1, api.ErrRange}, {api.MaxText, 0, api.MaxText + 1, api.ErrRange},
		{3, math.MaxInt, 0, api.ErrRange}, {3, 0, math.MaxInt, api.ErrRange}, {3, math.MaxInt, math.MaxInt, api.ErrRange}, {3, math.MinInt, math.MaxInt, api.ErrRange}, {3, math.MaxInt, math.MinInt, api.ErrRange}, {3, math.MinInt, math.MinInt, api.ErrRange}, {3, 2, math.MinInt, api.ErrRange},
	} {
		if op, e := edit.Delete(x.n, x.at, x.many); e != x.want || len(op) != 0 {
			t.Errorf("Delete(%d, %d, %d): %v, %d; want %d", x.n, x.at, x.many, op, int(e), int(x.want))
		}
	}
}

func TestIdle(t *testing.T) {
	for _, op := range [][]api.Run{nil, {}, {keep(1)}, {keep(api.MaxText)}} {
		if !edit.Idle(op) {
			t.Errorf("%v is idle", op)
		}
	}
	for _, op := range [][]api.Run{{add("x")}, {drop(1)}, {add("x"), drop(1)}, {keep(1), add("x")}, {drop(1), keep(1)}, {keep(1), drop(1), keep(1)}, {keep(1), keep(1)}, {{}}, {keep(api.MaxText + 1)}, {keep(-1)}} {
		if edit.Idle(op) {
			t.Errorf("%v is not idle", op)
		}
	}
}

func TestSame(t *testing.T) {
	l := [][]api.Run{nil, {keep(1)}, {keep(2)}, {drop(1)}, {add("x")}, {add("y")}, {add("xy")}, {{}}, {{}, {}}, {keep(1), drop(1)}, {drop(1), keep(1)}, {keep(1), drop(1), keep(1)}, {{Keep: 1, Add: "x"}}, {{Keep: 1, Add: "x", Drop: -1}}, {keep(1), keep(1)}}
	for i, a := range l {
		for j, b := range l {
			if edit.Same(a, slices.Clone(b)) != (i == j) {
				t.Errorf("Same(%v, %v): %t", a, b, i != j)
			}
		}
	}
	if !edit.Same(nil, runs()) || !edit.Same(runs(), nil) || !edit.Same(runs(add("ab")), runs(add(string([]byte{'a', 'b'})))) {
		t.Error("nil and empty are one, and texts are asked by their bytes")
	}
}

// TestHandedIn: what is handed in is not changed, and its spare room neither.
func TestHandedIn(t *testing.T) {
	whole := runs(drop(1), add("x"), api.Run{}, keep(1), keep(2), add("spare"), drop(9))
	was := slices.Clone(whole)
	l := whole[:5]
	op := edit.Norm(l)
	if !slices.Equal(op, runs(add("x"), drop(1), keep(3))) || !slices.Equal(whole, was) {
		t.Errorf("%v, %v", op, whole)
	}
	first := whole[3:4]
	if again := edit.Norm(first); !slices.Equal(again, first) || !slices.Equal(append(again, keep(7)), runs(keep(1), keep(7))) || !slices.Equal(whole, was) {
		t.Errorf("an edit's Norm stands in its memory: %v", whole)
	}
}
