package run_test

import (
	"math"
	"math/rand"
	"slices"
	"strings"
	"testing"

	"variorum/api"
	"variorum/edit"
	"variorum/piece"
	"variorum/run"
)

func keep(n int) api.Run   { return api.Run{Keep: n} }
func add(s string) api.Run { return api.Run{Add: s} }
func drop(n int) api.Run   { return api.Run{Drop: n} }

func runs(l ...api.Run) []api.Run { return l }

// long is a text of MaxText bytes.
var long = strings.Repeat("a", api.MaxText)

// made tells a buffer of a text.
func made(t *testing.T, s string) *piece.Buffer {
	t.Helper()
	b, e := piece.New(s)
	if e != api.OK {
		t.Fatalf("New of %d bytes: %d", len(s), int(e))
	}
	return b
}

// parted tells a buffer of a text, a piece of each of its bytes.
func parted(t *testing.T, s string) *piece.Buffer {
	t.Helper()
	b := made(t, "")
	for i := range len(s) {
		if e := b.Insert(i, s[i:i+1]); e != api.OK {
			t.Fatalf("Insert at %d: %d", i, int(e))
		}
	}
	return b
}

// does holds what an edit makes of a text, by Apply, Fold and Onto, against what it should, and asks that Back undoes it, and Back of Back is it.
func does(t *testing.T, op []api.Run, s, want string) {
	t.Helper()
	if got, e := run.Apply(op, s); got != want || e != api.OK {
		t.Fatalf("Apply(%.80v, %.80q): %.80q, %d; want %.80q", op, s, got, int(e), want)
	}
	if got, e := run.Fold([][]api.Run{op}, s); got != want || e != api.OK {
		t.Fatalf("Fold(%.80v, %.80q): %.80q, %d; want %.80q", op, s, got, int(e), want)
	}
	b := made(t, s)
	if e := run.Onto(op, b); e != api.OK || b.Text() != want || b.Len() != len(want) {
		t.Fatalf("Onto(%.80v, %.80q): %.80q, %d; want %.80q", op, s, b.Text(), int(e), want)
	}
	back, e := run.Back(op, s)
	if e != api.OK || !edit.Good(back) || !slices.Equal(edit.Norm(back), back) {
		t.Fatalf("Back(%.80v, %.80q): %.80v, %d", op, s, back, int(e))
	}
	if got, e := run.Apply(back, want); got != s || e != api.OK {
		t.Fatalf("Apply(%.80v, %.80q): %.80q, %d; want %.80q again", back, want, got, int(e), s)
	}
	if e := run.Onto(back, b); e != api.OK || b.Text() != s {
		t.Fatalf("Onto(%.80v, %.80q): %.80q, %d; want %.80q again", back, want, b.Text(), int(e), s)
	}
	if again, e := run.Back(back, want); e != api.OK || !slices.Equal(again, op) {
		t.Fatalf("Back(%.80v, %.80q): %.80v, %d; want %.80v again", back, want, again, int(e), op)
	}
}

// refused holds that no call takes an edit of a text, and that a buffer is as it was.
func refused(t *testing.T, op []api.Run, s string) {
	t.Helper()
	if got, e := run.Apply(op, s); got != "" || e != api.ErrOp {
		t.Errorf("Apply(%.80v, %d bytes): %.80q, %d", op, len(s), got, int(e))
	}
	if got, e := run.Fold([][]api.Run{op}, s); got != "" || e != api.ErrOp {
		t.Errorf("Fold(%.80v, %d bytes): %.80q, %d", op, len(s), got, int(e))
	}
	if back, e := run.Back(op, s); len(back) != 0 || e != api.ErrOp {
		t.Errorf("Back(%.80v, %d bytes): %.80v, %d", op, len(s), back, int(e))
	}
	if len(s) > api.MaxText {
		return
	}
	b := made(t, s)
	pieces := b.Pieces()
	if e := run.Onto(op, b); e != api.ErrOp || b.Text() != s || b.Pieces() != pieces {
		t.Errorf("Onto(%.80v, %d bytes): %.80q, %d pieces, %d", op, len(s), b.Text(), b.Pieces(), int(e))
	}
}

// noEdits are runs that are not Good, though some of them would be of 3 bytes.
func noEdits() [][]api.Run {
	return [][]api.Run{
		{keep(1), keep(2)}, {add("x"), add("y"), keep(3)}, {drop(1), drop(2)},
		{drop(1), add("x"), keep(2)}, {keep(1), drop(1), add("x"), keep(1)}, {drop(3), add("x")},
		{{}, keep(3)}, {keep(3), {}}, {keep(1), {}, keep(2)}, {{}},
		{{Keep: 3, Add: "x"}}, {{Add: "x", Drop: 3}}, {{Keep: 1, Drop: 2}}, {{Keep: 1, Add: "x", Drop: 2}},
		{keep(-1), drop(4)}, {drop(-1), keep(4)}, {drop(4), keep(-1)}, {keep(math.MinInt)}, {drop(math.MinInt)},
		{keep(math.MaxInt)}, {drop(math.MaxInt), keep(math.MaxInt), drop(5)}, // a sum that would come round to 3
		{keep(3), add(long)}, {add(long[2:]), keep(3)},
		slices.Repeat(runs(keep(1), add("x")), api.MaxRuns),
	}
}

func TestExamples(t *testing.T) {
	does(t, runs(keep(1), add("x"), drop(1)), "ab", "ax")
	if op := run.Between("abcd", "abXd"); !slices.Equal(op, runs(keep(2), add("X"), drop(1), keep(1))) {
		t.Error(op)
	}
}

func TestApply(t *testing.T) {
	does(t, nil, "", "")
	does(t, runs(), "", "")
	does(t, runs(keep(3)), "abc", "abc")
	does(t, runs(add("xyz")), "", "xyz")
	does(t, runs(add("xy"), keep(3)), "abc", "xyabc")
	does(t, runs(keep(3), add("xy")), "abc", "abcxy")
	does(t, runs(keep(1), add("xy"), keep(2)), "abc", "axybc")
	does(t, runs(add("xy"), drop(1), keep(2)), "abc", "xybc")
	does(t, runs(keep(2), add("xy"), drop(1)), "abc", "abxy")
	does(t, runs(add("xy"), drop(3)), "abc", "xy")
	does(t, runs(drop(3)), "abc", "")
	does(t, runs(drop(1), keep(2)), "abc", "bc")
	does(t, runs(keep(1), drop(1), keep(1)), "abc", "ac")
	does(t, runs(keep(2), drop(1)), "abc", "ab")
	does(t, runs(drop(1), keep(1), drop(1)), "abc", "b")
	does(t, runs(keep(1), add("xy"), drop(2), keep(1), add("!")), "abcd", "axyd!")
	does(t, runs(drop(1), keep(1), add("x"), keep(1), add("\x00\xff"), drop(2), keep(1), drop(1)), "\xffb\nde\x00f", "bx\n\x00\xff\x00")
}

func TestBack(t *testing.T) {
	for _, x := range []struct {
		op   []api.Run
		s    string
		want []api.Run
	}{
		{nil, "", nil},
		{runs(keep(2)), "ab", runs(keep(2))},
		{runs(add("xyz")), "", runs(drop(3))},
		{runs(drop(2)), "ab", runs(add("ab"))},
		{runs(add("xyz"), drop(2)), "ab", runs(add("ab"), drop(3))}, // Norm: what comes stands ahead
		{runs(keep(1), add("xy"), drop(2), keep(1), add("!")), "abcd", runs(keep(1), add("bc"), drop(2), keep(1), drop(1))},
		{runs(drop(1), keep(1), drop(1)), "abc", runs(add("a"), keep(1), add("c"))},
	} {
		if back, e := run.Back(x.op, x.s); e != api.OK || !slices.Equal(back, x.want) {
			t.Errorf("Back(%v, %q): %v, %d; want %v", x.op, x.s, back, int(e), x.want)
		}
	}
}

func TestRefused(t *testing.T) {
	for _, op := range noEdits() {
		refused(t, op, "abc")
	}
	for _, op := range [][]api.Run{
		nil, {add("x")}, // of no bytes
		{keep(2)}, {keep(4)}, {drop(2)}, {drop(4)}, {keep(1), drop(1)}, {keep(1), drop(3)}, {drop(3), keep(1)},
		{keep(2), add("x")}, {keep(2), add("xyz")}, {add("abc")}, // as if what comes were there
		{keep(1), add("x"), drop(1)}, {add("x"), drop(4)}, {keep(api.MaxText)},
	} {
		refused(t, op, "abc")
	}
	refused(t, runs(keep(1)), "")
	refused(t, runs(drop(1)), "")
	refused(t, runs(add("x"), drop(1)), "")
	refused(t, runs(api.Run{}), "")
}

func TestMaxText(t *testing.T) {
	does(t, runs(keep(api.MaxText)), long, long)
	does(t, runs(drop(api.MaxText)), long, "")
	does(t, runs(add(long), drop(api.MaxText)), long, long)
	refused(t, runs(keep(api.MaxText-1)), long)
	refused(t, runs(drop(api.MaxText+1)), long)
	refused(t, runs(keep(api.MaxText), add("x")), long)
	refused(t, runs(add("x"), keep(api.MaxText)), long)
	more := long + "x"
	refused(t, runs(keep(api.MaxText+1)), more)
	refused(t, runs(keep(api.MaxText), drop(1)), more)
	refused(t, runs(keep(api.MaxText)), more)
	refused(t, nil, more)
	// A text that is full all the way: there is no room for what comes ahead of what goes, wherever the two stand.
	does(t, runs(add("x"), keep(api.MaxText-1), drop(1)), long, "x"+long[1:])
	does(t, runs(drop(1), keep(api.MaxText-1), add("x")), long, long[1:]+"x")
	does(t, runs(keep(5), add("xy"), drop(2), keep(api.MaxText-7)), long, long[:5]+"xy"+long[7:])
	does(t, runs(keep(1), add("x"), keep(1), drop(2), keep(api.MaxText-4), add("y")), long, "axa"+long[4:]+"y")
}

func TestMaxRuns(t *testing.T) {
	op := slices.Repeat(runs(keep(1), add("xy")), api.MaxRuns/2)
	s := strings.Repeat("a", api.MaxRuns/2)
	does(t, op, s, strings.Repeat("axy", api.MaxRuns/2))
	refused(t, append(runs(add("z")), op...), s)
}

func TestOntoOfNone(t *testing.T) {
	var never piece.Buffer
	for _, op := range append(noEdits(), nil, runs(), runs(add("x")), runs(keep(1)), runs(drop(1))) {
		if e := run.Onto(op, nil); e != api.ErrNil {
			t.Errorf("Onto(%.80v) of a nil buffer: %d", op, int(e))
		}
		if e := run.Onto(op, &never); e != api.ErrNil || never.Len() != 0 || never.Insert(0, "") != api.ErrNil {
			t.Errorf("Onto(%.80v) of a buffer that no call made: %d", op, int(e))
		}
		if e := run.Onto(op, never.Clone()); e != api.ErrNil {
			t.Errorf("Onto(%.80v) of its clone: %d", op, int(e))
		}
	}
}

// TestOntoGoesOn: edits of one buffer, one behind the other, with a refused one between, and a clone that stays as it was.
func TestOntoGoesOn(t *testing.T) {
	b := parted(t, "abcdef")
	twin := b.Clone()
	for _, x := range []struct {
		op   []api.Run
		want string
		e    api.Errno
	}{
		{runs(keep(6)), "abcdef", api.OK},
		{runs(keep(1), add("xy"), drop(3), keep(2)), "axyef", api.OK},
		{runs(keep(1), add("xy"), drop(3), keep(2)), "axyef", api.ErrOp},
		{runs(drop(5), add("x")), "axyef", api.ErrOp},
		{runs(drop(2), keep(1), add("1"), drop(1), keep(1), add("2")), "y1f2", api.OK},
		{runs(drop(4)), "", api.OK},
		{runs(drop(4)), "", api.ErrOp},
		{nil, "", api.OK},
		{runs(add("new")), "new", api.OK},
	} {
		if e := run.Onto(x.op, b); e != x.e || b.Text() != x.want || b.Len() != len(x.want) {
			t.Fatalf("Onto(%v): %q, %d; want %q, %d", x.op, b.Text(), int(e), x.want, int(x.e))
		}
	}
	if twin.Text() != "abcdef" || twin.Pieces() != 6 {
		t.Errorf("the clone: %q, %d pieces", twin.Text(), twin.Pieces())
	}
}

func TestBetween(t *testing.T) {
	for _, x := range []struct {
		a, b string
		want []api.Run
	}{
		{"", "", nil},
		{"same", "same", runs(keep(4))},
		{"", "xy", runs(add("xy"))},
		{"xy", "", runs(drop(2))},
		{"ab", "xyz", runs(add("xyz"), drop(2))},
		{"ab", "abc", runs(keep(2), add("c"))},          // a begins b
		{"abc", "ab", runs(keep(2), drop(1))},           // b begins a
		{"bc", "abc", runs(add("a"), keep(2))},          // a ends b
		{"abc", "bc", runs(drop(1), keep(2))},           // b ends a
		{"ac", "abc", runs(keep(1), add("b"), keep(1))}, // both
		{"abc", "ac", runs(keep(1), drop(1), keep(1))},  // both
		{"aa", "aaa", runs(keep(2), add("a"))},          // beginning and end overlap
		{"aaa", "aa", runs(keep(2), drop(1))},           // likewise
		{"abab", "ab", runs(keep(2), drop(2))},          // likewise
		{"ab", "abab", runs(keep(2), add("ab"))},        // likewise
		{"aba", "ababa", runs(keep(3), add("ba"))},      // likewise
		{"abXab", "abab", runs(keep(2), drop(1), keep(2))},
		{"abcXabc", "abcabcabc", runs(keep(3), add("abc"), drop(1), keep(3))},
		{"abcd", "aXXd", runs(keep(1), add("XX"), drop(2), keep(1))},
		{"axbxc", "aybyc", runs(keep(1), add("yby"), drop(3), keep(1))}, // what is alike between is not looked for
		{"\x00\xff", "\x00\xfe\xff", runs(keep(1), add("\xfe"), keep(1))},
	} {
		if op := run.Between(x.a, x.b); !slices.Equal(op, x.want) {
			t.Errorf("Between(%q, %q): %v; want %v", x.a, x.b, op, x.want)
		}
		does(t, x.want, x.a, x.b)
	}
}

func TestBetweenMaxText(t *testing.T) {
	other := "b" + long[2:] + "b"
	for _, x := range []struct {
		a, b string
		want []api.Run
	}{
		{long, long, runs(keep(api.MaxText))},
		{long, other, runs(add(other), drop(api.MaxText))},
		{long, long[1:], runs(keep(api.MaxText-1), drop(1))},
		{long[1:], long, runs(keep(api.MaxText-1), add("a"))},
		{"", long, runs(add(long))},
		{long, "", runs(drop(api.MaxText))},
	} {
		op := run.Between(x.a, x.b)
		if !slices.Equal(op, x.want) {
			t.Errorf("Between of %d and %d bytes: %.80v", len(x.a), len(x.b), op)
		}
		if s, e := run.Apply(op, x.a); s != x.b || e != api.OK {
			t.Errorf("Apply of Between of %d and %d bytes: %d bytes, %d", len(x.a), len(x.b), len(s), int(e))
		}
	}
	more := long + "x"
	for _, x := range [][2]string{{more, ""}, {"", more}, {more, long}, {long, more}, {more, more}} {
		if op := run.Between(x[0], x[1]); len(op) != 0 {
			t.Errorf("Between of %d and %d bytes: %.80v", len(x[0]), len(x[1]), op)
		}
	}
}

func TestFold(t *testing.T) {
	bad := runs(keep(1), keep(1))
	for _, x := range []struct {
		l    [][]api.Run
		s    string
		want string
		e    api.Errno
	}{
		{nil, "", "", api.OK},
		{nil, "ab", "ab", api.OK},
		{[][]api.Run{}, "ab", "ab", api.OK},
		{[][]api.Run{nil, {}}, "", "", api.OK},
		{[][]api.Run{{keep(2)}, {keep(2)}}, "ab", "ab", api.OK},
		{[][]api.Run{{keep(1), add("x"), keep(1)}}, "ab", "axb", api.OK},
		{[][]api.Run{{add("ab")}, {keep(1), drop(1)}, {add("x"), keep(1)}}, "", "xa", api.OK},
		{[][]api.Run{{add("x"), keep(2)}, {add("y"), keep(3)}, {drop(1), keep(3)}}, "ab", "xab", api.OK},
		{[][]api.Run{{keep(3)}, {keep(2)}}, "ab", "", api.ErrOp},            // the first one does not fit
		{[][]api.Run{{add("ab")}, {keep(1)}}, "", "", api.ErrOp},            // the second one
		{[][]api.Run{{keep(2)}, {drop(2)}, {drop(2)}}, "ab", "", api.ErrOp}, // it fits what was, not what is
		{[][]api.Run{bad, {keep(2)}}, "ab", "", api.ErrOp},
		{[][]api.Run{{keep(2)}, bad}, "ab", "", api.ErrOp},
		{[][]api.Run{{keep(3)}, {keep(4)}, {keep(5)}}, "ab", "", api.ErrOp}, // none
		{[][]api.Run{nil}, "ab", "", api.ErrOp},
		{[][]api.Run{{keep(api.MaxText), add("x")}, {keep(api.MaxText), drop(1)}}, long, "", api.ErrOp},
		{nil, long + "x", long + "x", api.OK},
	} {
		if s, e := run.Fold(x.l, x.s); s != x.want || e != x.e {
			t.Errorf("Fold(%v, %.80q): %.80q, %d; want %.80q, %d", x.l, x.s, s, int(e), x.want, int(x.e))
		}
	}
}

// TestHandedIn: what is handed in is not changed, its spare room neither, and an answer has memory of its own.
func TestHandedIn(t *testing.T) {
	whole := runs(keep(1), add("xy"), drop(2), keep(9), add("spare"))
	was := slices.Clone(whole)
	op := whole[:3]
	does(t, op, "abc", "axy")
	back, _ := run.Back(op, "abc")
	idle, _ := run.Back(whole[:1], "a")
	for _, answer := range [][]api.Run{back, idle} {
		clear(append(answer, drop(7)))
		clear(answer)
	}
	if !slices.Equal(whole, was) {
		t.Errorf("%v; want %v", whole, was)
	}
}

// chanceEdit tells an edit of s, and what it makes, byte by byte.
func chanceEdit(chance *rand.Rand, s string) ([]api.Run, string) {
	var l []api.Run
	var text []byte
	come := func() {
		for range chance.Intn(6) - 3 {
			x := "xyz"[chance.Intn(3):][:1]
			l, text = append(l, add(x)), append(text, x...)
		}
	}
	stays := chance.Intn(5)
	for i := range len(s) {
		come()
		if chance.Intn(4) < stays {
			l, text = append(l, keep(1)), append(text, s[i])
		} else {
			l = append(l, drop(1))
		}
	}
	come()
	return edit.Norm(l), string(text)
}

func chanceText(chance *rand.Rand) string {
	s := make([]byte, chance.Intn(9))
	for i := range s {
		s[i] = "ab"[chance.Intn(2)]
	}
	return string(s)
}

// TestChance: many edits, held against what they make byte by byte; one byte less and one more of the text, and they are refused.
func TestChance(t *testing.T) {
	chance := rand.New(rand.NewSource(7))
	for range 5000 {
		s := chanceText(chance)
		first, middle := chanceEdit(chance, s)
		second, last := chanceEdit(chance, middle)
		does(t, first, s, middle)
		does(t, second, middle, last)
		refused(t, first, s+"a")
		if s != "" {
			refused(t, first, s[1:])
		}
		if got, e := run.Fold([][]api.Run{first, second}, s); got != last || e != api.OK {
			t.Fatalf("Fold of %v, %v, %q: %q, %d; want %q", first, second, s, got, int(e), last)
		}
		b := parted(t, s)
		if run.Onto(first, b) != api.OK || b.Text() != middle || run.Onto(second, b) != api.OK || b.Text() != last {
			t.Fatalf("Onto of %v, %v, %q: %q; want %q", first, second, s, b.Text(), last)
		}
		if t.Failed() {
			t.FailNow()
		}
	}
}

// TestBetweenChance: Between makes b of a, and keeps as much at the ends as the chapter says.
func TestBetweenChance(t *testing.T) {
	chance := rand.New(rand.NewSource(8))
	for range 20000 {
		a, b := chanceText(chance), chanceText(chance)
		head := 0
		for head < len(b) && strings.HasPrefix(a, b[:head+1]) {
			head++
		}
		x, y := a[head:], b[head:]
		tail := 0
		for tail < len(y) && strings.HasSuffix(x, y[len(y)-tail-1:]) {
			tail++
		}
		want := edit.Norm(runs(keep(head), add(y[:len(y)-tail]), drop(len(x)-tail), keep(tail)))
		op := run.Between(a, b)
		if !slices.Equal(op, want) {
			t.Fatalf("Between(%q, %q): %v; want %v", a, b, op, want)
		}
		if s, e := run.Apply(op, a); s != b || e != api.OK {
			t.Fatalf("Apply of Between(%q, %q): %q, %d", a, b, s, int(e))
		}
	}
}
