package place_test

import (
	"fmt"
	"math"
	"math/rand"
	"slices"
	"strings"
	"testing"

	"variorum/api"
	"variorum/edit"
	"variorum/place"
	"variorum/run"
)

func keep(n int) api.Run   { return api.Run{Keep: n} }
func add(s string) api.Run { return api.Run{Add: s} }
func drop(n int) api.Run   { return api.Run{Drop: n} }

func runs(l ...api.Run) []api.Run { return l }

func span(from, to int) api.Span { return api.Span{From: from, To: to} }

// long is a text of MaxText bytes.
var long = strings.Repeat("a", api.MaxText)

// brief tells something in words, of great things the beginning.
func brief(l any) string {
	s := fmt.Sprint(l)
	return s[:min(len(s), 200)]
}

// moves holds where a place goes, not behind and behind.
func moves(t *testing.T, op []api.Run, at, want, behind int) {
	t.Helper()
	m, ok := place.Move(op, at, false)
	n, okBehind := place.Move(op, at, true)
	if !ok || !okBehind || m != want || n != behind {
		t.Errorf("Move(%s, %d): %d, %t, behind %d, %t; want %d, %d", brief(op), at, m, ok, n, okBehind, want, behind)
	}
}

// spans holds where a span goes, by each of the calls that move spans.
func spans(t *testing.T, op []api.Run, s, want api.Span) {
	t.Helper()
	if got, ok := place.Span(op, s); !ok || got != want {
		t.Errorf("Span(%s, %v): %v, %t; want %v", brief(op), s, got, ok, want)
	}
	if got, ok := place.Spans(op, []api.Span{s, s}); !ok || !slices.Equal(got, []api.Span{want, want}) {
		t.Errorf("Spans(%s, %v): %v, %t; want %v", brief(op), s, got, ok, want)
	}
	if got, ok := place.Over([][]api.Run{op}, s); !ok || got != want {
		t.Errorf("Over(%s, %v): %v, %t; want %v", brief(op), s, got, ok, want)
	}
}

// noPlace holds that there is no such place.
func noPlace(t *testing.T, op []api.Run, at int) {
	t.Helper()
	for _, behind := range []bool{false, true} {
		if got, ok := place.Move(op, at, behind); ok || got != 0 {
			t.Errorf("Move(%s, %d, %t): %d, %t", brief(op), at, behind, got, ok)
		}
	}
}

// noSpan holds that there is no such span, for each of the calls that move spans.
func noSpan(t *testing.T, op []api.Run, s api.Span) {
	t.Helper()
	if got, ok := place.Span(op, s); ok || got != (api.Span{}) {
		t.Errorf("Span(%s, %v): %v, %t", brief(op), s, got, ok)
	}
	if got, ok := place.Spans(op, []api.Span{s}); ok || len(got) != 0 {
		t.Errorf("Spans(%s, %v): %v, %t", brief(op), s, got, ok)
	}
	if got, ok := place.Over([][]api.Run{op}, s); ok || got != (api.Span{}) {
		t.Errorf("Over(%s, %v): %v, %t", brief(op), s, got, ok)
	}
}

func TestExample(t *testing.T) {
	op := runs(keep(1), add("xy"), drop(2), keep(1))
	moves(t, op, 1, 1, 3)
	spans(t, op, span(1, 3), span(1, 1))
	spans(t, op, span(0, 4), span(0, 4))
}

func TestMove(t *testing.T) {
	moves(t, nil, 0, 0, 0)
	moves(t, runs(add("xy")), 0, 0, 2)
	moves(t, runs(drop(2)), 0, 0, 0)
	moves(t, runs(drop(2)), 1, 0, 0)
	moves(t, runs(drop(2)), 2, 0, 0)
	moves(t, runs(keep(2)), 0, 0, 0)
	moves(t, runs(keep(2)), 1, 1, 1)
	moves(t, runs(keep(2)), 2, 2, 2)
	moves(t, runs(add("xy"), keep(2)), 0, 0, 2)
	moves(t, runs(add("xy"), keep(2)), 1, 3, 3)
	moves(t, runs(keep(2), add("xy")), 1, 1, 1)
	moves(t, runs(keep(2), add("xy")), 2, 2, 4)
	op := runs(add("12"), drop(2), keep(2), drop(3), keep(1), add("345"), keep(2), add("6"), drop(1))
	for at, want := range [][2]int{{0, 2}, {2, 2}, {2, 2}, {3, 3}, {4, 4}, {4, 4}, {4, 4}, {4, 4}, {5, 8}, {9, 9}, {10, 11}, {11, 11}} {
		moves(t, op, at, want[0], want[1])
	}
	moves(t, runs(keep(1), add(long[1:]), drop(api.MaxText-1)), 1, 1, api.MaxText)
	moves(t, runs(keep(1), add(long[1:]), drop(api.MaxText-1)), api.MaxText, api.MaxText, api.MaxText)
}

func TestSpan(t *testing.T) {
	op := runs(add("12"), drop(2), keep(2), drop(3), keep(1), add("345"), keep(2), add("6"), drop(1)) // ..kkdddk...kk.d
	for _, x := range [][2]api.Span{
		// The whole text, and what is kept of it.
		{span(0, 11), span(2, 10)}, {span(2, 10), span(2, 10)},
		// All bytes are kept, with nothing between them, and with something.
		{span(2, 4), span(2, 4)}, {span(2, 3), span(2, 3)}, {span(3, 4), span(3, 4)}, {span(8, 10), span(8, 10)}, {span(7, 9), span(4, 9)},
		// Those at one end are kept, those in the middle alone, those at both ends.
		{span(0, 3), span(2, 3)}, {span(1, 3), span(2, 3)}, {span(3, 6), span(3, 4)}, {span(3, 7), span(3, 4)}, {span(9, 11), span(9, 10)},
		{span(5, 8), span(4, 5)}, {span(1, 5), span(2, 4)}, {span(0, 6), span(2, 4)}, {span(4, 11), span(4, 10)},
		{span(3, 8), span(3, 5)}, {span(2, 8), span(2, 5)},
		// None is kept.
		{span(0, 2), span(0, 0)}, {span(0, 1), span(0, 0)}, {span(1, 2), span(2, 2)}, {span(4, 7), span(4, 4)}, {span(5, 6), span(4, 4)}, {span(10, 11), span(10, 10)},
		// There is none.
		{span(0, 0), span(0, 0)}, {span(1, 1), span(2, 2)}, {span(3, 3), span(3, 3)}, {span(5, 5), span(4, 4)}, {span(8, 8), span(5, 5)}, {span(10, 10), span(10, 10)}, {span(11, 11), span(11, 11)},
	} {
		spans(t, op, x[0], x[1])
	}
	spans(t, nil, span(0, 0), span(0, 0))
	spans(t, runs(add("x")), span(0, 0), span(0, 0))
	spans(t, runs(add("x"), keep(2), add("y")), span(0, 2), span(1, 3))
	spans(t, runs(keep(2)), span(0, 2), span(0, 2))
	spans(t, runs(drop(2)), span(0, 2), span(0, 0))
	spans(t, runs(add("x"), drop(2)), span(0, 2), span(0, 0))
	spans(t, runs(add("x"), drop(2)), span(1, 2), span(1, 1))
	spans(t, runs(keep(1), drop(api.MaxText-2), keep(1)), span(0, api.MaxText), span(0, 2))
}

// noEdits are runs that are not Good, though some of them would be of 3 bytes.
func noEdits() [][]api.Run {
	return [][]api.Run{
		{keep(1), keep(2)}, {add("x"), add("y"), keep(3)}, {drop(1), drop(2)}, {drop(1), add("x"), keep(2)},
		{{}}, {{}, keep(3)}, {keep(3), {}}, {{Keep: 3, Add: "x"}}, {{Keep: 3, Drop: -1}}, {keep(-1), drop(4)}, {keep(math.MinInt)},
		{keep(math.MaxInt)}, {drop(math.MaxInt), keep(math.MaxInt), drop(5)}, {keep(3), add(long)}, {keep(3), drop(api.MaxText)},
		slices.Repeat(runs(keep(1), drop(1)), api.MaxRuns),
	}
}

func TestRefused(t *testing.T) {
	for _, op := range noEdits() {
		for _, at := range []int{0, 1, 3, -1} {
			noPlace(t, op, at)
		}
		for _, s := range []api.Span{span(0, 0), span(0, 1), span(0, 3), span(1, 0), span(-1, -1)} {
			noSpan(t, op, s)
		}
	}
	for _, op := range [][]api.Run{{keep(3)}, {drop(3)}, {keep(1), add("xy"), drop(2)}, {drop(2), keep(1), add("xyz")}} {
		for _, at := range []int{-1, 4, 5, math.MinInt, math.MaxInt} {
			noPlace(t, op, at)
		}
		for _, s := range []api.Span{
			span(-1, 0), span(-1, 2), span(-1, -1), span(0, 4), span(3, 4), span(4, 4), span(2, 1), span(3, 2), span(1, 0), span(0, -1), span(4, 3),
			span(math.MinInt, 1), span(0, math.MaxInt), span(math.MinInt, math.MaxInt), span(math.MaxInt, math.MinInt), span(math.MaxInt, math.MaxInt), span(math.MinInt, math.MinInt), span(2, math.MinInt), span(math.MaxInt, 2),
		} {
			noSpan(t, op, s)
		}
	}
	for _, op := range [][]api.Run{nil, {add("x")}} {
		noPlace(t, op, 1)
		noPlace(t, op, -1)
		noSpan(t, op, span(0, 1))
		noSpan(t, op, span(1, 1))
	}
	noPlace(t, runs(keep(api.MaxText)), api.MaxText+1)
}

func TestSpans(t *testing.T) {
	op := runs(keep(1), add("xy"), drop(2), keep(1))
	bad := runs(keep(2), keep(2))
	for _, x := range []struct {
		op      []api.Run
		l, want []api.Span
		ok      bool
	}{
		{op, nil, nil, true},
		{op, []api.Span{}, nil, true},
		{bad, nil, nil, true}, // no span is there that would be false
		{op, []api.Span{span(0, 4), span(1, 3), span(3, 4), span(0, 4), span(2, 2)}, []api.Span{span(0, 4), span(1, 1), span(3, 4), span(0, 4), span(3, 3)}, true},
		{op, []api.Span{span(0, 5), span(1, 3), span(3, 4)}, nil, false},
		{op, []api.Span{span(0, 4), span(3, 1), span(3, 4)}, nil, false},
		{op, []api.Span{span(0, 4), span(1, 3), span(-1, 4)}, nil, false},
		{bad, []api.Span{span(0, 0), span(0, 1)}, nil, false},
	} {
		if got, ok := place.Spans(x.op, x.l); ok != x.ok || !slices.Equal(got, x.want) {
			t.Errorf("Spans(%v, %v): %v, %t; want %v, %t", x.op, x.l, got, ok, x.want, x.ok)
		}
	}
}

func TestOver(t *testing.T) {
	for _, x := range []struct {
		l       [][]api.Run
		s, want api.Span
		ok      bool
	}{
		{nil, span(1, 2), span(1, 2), true},
		{[][]api.Run{}, span(3, -1), span(3, -1), true}, // no edit is there that it would be out of
		{[][]api.Run{nil, nil}, span(0, 0), span(0, 0), true},
		{[][]api.Run{{keep(1), add("xy"), drop(2), keep(1)}}, span(0, 4), span(0, 4), true},
		{[][]api.Run{{keep(1), add("xy"), keep(1)}, {add("z"), drop(1), keep(3)}}, span(0, 2), span(1, 4), true},
		{[][]api.Run{{keep(1), add("xy"), keep(1)}, {add("z"), drop(1), keep(3)}, {keep(1), drop(3)}}, span(0, 2), span(1, 1), true},
		{[][]api.Run{{keep(1), drop(2), keep(1)}, {keep(1), add("z"), keep(1)}}, span(1, 3), span(1, 1), true},
		{[][]api.Run{{add("xy"), keep(2)}, {keep(2)}}, span(0, 1), span(0, 0), false}, // goes to 2 to 3, of which there are 2 bytes
		{[][]api.Run{{keep(1), keep(1)}, {keep(2)}}, span(0, 1), span(0, 0), false},
		{[][]api.Run{{keep(2)}, {keep(1), keep(1)}}, span(0, 1), span(0, 0), false},
		{[][]api.Run{{keep(2)}, {keep(2)}, nil}, span(0, 1), span(0, 0), false},
		{[][]api.Run{{keep(2)}, {keep(2)}}, span(0, 3), span(0, 0), false},
		{[][]api.Run{{keep(2)}, {keep(3)}}, span(0, 3), span(0, 0), false},
		{[][]api.Run{{keep(2)}, {add("x"), keep(1)}}, span(0, 1), span(1, 2), true}, // a span of both, though the second one is of fewer bytes
	} {
		if got, ok := place.Over(x.l, x.s); got != x.want || ok != x.ok {
			t.Errorf("Over(%v, %v): %v, %t; want %v, %t", x.l, x.s, got, ok, x.want, x.ok)
		}
	}
}

// TestHandedIn: what is handed in is not changed, its spare room neither, and an answer has memory of its own.
func TestHandedIn(t *testing.T) {
	op := runs(keep(1), add("xy"), drop(2), keep(9), add("spare"))
	l := []api.Span{span(0, 1), span(0, 3), span(7, 8)}
	was, wasSpans := slices.Clone(op), slices.Clone(l)
	got, ok := place.Spans(op[:3], l[:2])
	if !ok || !slices.Equal(got, []api.Span{span(0, 1), span(0, 1)}) {
		t.Errorf("%v, %t", got, ok)
	}
	clear(append(got, span(5, 5)))
	clear(got)
	place.Move(op[:3], 1, true)
	place.Span(op[:3], l[1])
	place.Over([][]api.Run{op[:3], op[:1]}, l[0])
	if !slices.Equal(op, was) || !slices.Equal(l, wasSpans) {
		t.Errorf("%v, %v", op, l)
	}
}

// TestMaxRuns: as many spans as an edit has bytes, of as many runs as there may be.
func TestMaxRuns(t *testing.T) {
	op := slices.Repeat(runs(keep(1), drop(2)), api.MaxRuns/2)
	var l, want []api.Span
	for i := range api.MaxRuns / 2 {
		l = append(l, span(3*i, 3*i+1), span(3*i, 3*i+3), span(3*i+1, 3*i+3), span(0, 3*i+2))
		want = append(want, span(i, i+1), span(i, i+1), span(i+1, i+1), span(0, i+1))
	}
	if got, ok := place.Spans(op, l); !ok || !slices.Equal(got, want) {
		t.Errorf("%t, %s", ok, brief(got))
	}
}

// byByte tells an edit's place by the chapter's words: what it makes of each byte ahead of it, and adds ahead of each.
func byByte(op []api.Run, at int, behind bool) int {
	next, made := 0, 0
	for _, r := range op {
		if next < at || next == at && behind {
			made += len(r.Add)
		}
		for range r.Keep + r.Drop {
			if next < at && r.Keep > 0 {
				made++
			}
			next++
		}
	}
	return made
}

// standing tells where each byte that an edit keeps stands behind it; -1 of one that it drops.
func standing(op []api.Run) []int {
	var l []int
	made := 0
	for _, r := range op {
		made += len(r.Add)
		for range r.Drop {
			l = append(l, -1)
		}
		for range r.Keep {
			l = append(l, made)
			made++
		}
	}
	return l
}

// spanByByte tells where a span is by the chapter's words.
func spanByByte(op []api.Run, s api.Span) api.Span {
	kept := slices.DeleteFunc(standing(op)[s.From:s.To], func(at int) bool { return at < 0 })
	if len(kept) == 0 {
		at := byByte(op, s.From, false)
		return span(at, at)
	}
	return span(kept[0], kept[len(kept)-1]+1)
}

// places holds all places of an edit against the chapter's words, and that they stay in order.
func places(t *testing.T, op []api.Run) {
	t.Helper()
	last := 0
	for at := range edit.In(op) + 1 {
		moves(t, op, at, byByte(op, at, false), byByte(op, at, true))
		for _, behind := range []bool{false, true} {
			got, _ := place.Move(op, at, behind)
			if got < last || got > edit.Out(op) {
				t.Errorf("Move(%v, %d, %t): %d, behind %d, of %d", op, at, behind, got, last, edit.Out(op))
			}
			last = got
		}
	}
	noPlace(t, op, -1)
	noPlace(t, op, edit.In(op)+1)
}

// allSpans holds all spans of an edit against the chapter's words, and that they lie within the text and have the same bytes, if these stay together.
func allSpans(t *testing.T, op []api.Run) {
	t.Helper()
	n := edit.In(op)
	was := "abcdefghijklmnop"[:n]
	is, _ := run.Apply(op, was)
	for from := range n + 1 {
		for to := from; to <= n; to++ {
			s := span(from, to)
			want := spanByByte(op, s)
			spans(t, op, s, want)
			got, _ := place.Span(op, s)
			if got.From < 0 || got.From > got.To || got.To > len(is) {
				t.Errorf("Span(%v, %v): %v, of %d bytes", op, s, got, len(is))
			} else if together(op, s) && is[got.From:got.To] != was[from:to] {
				t.Errorf("Span(%v, %v): %q; want %q", op, s, is[got.From:got.To], was[from:to])
			}
		}
		noSpan(t, op, span(from, n+1))
		noSpan(t, op, span(from, from-1))
	}
}

// together tells whether an edit keeps all bytes of a span, and adds nothing between them.
func together(op []api.Run, s api.Span) bool {
	l := standing(op)[s.From:s.To]
	for i, at := range l {
		if at < 0 || at != l[0]+i {
			return false
		}
	}
	return true
}

// editBy tells an edit of n bytes, of which what is asked by number says what goes and what comes.
func editBy(n int, ask func(i int) bool) []api.Run {
	var l []api.Run
	for i := range n + 1 {
		if ask(2 * i) {
			l = append(l, add("XYZ"[:1+i%3]))
		}
		if i < n && ask(2*i+1) {
			l = append(l, drop(1))
		} else if i < n {
			l = append(l, keep(1))
		}
	}
	return edit.Norm(l)
}

// TestSmall: all edits of up to four bytes, with all of their places and spans.
func TestSmall(t *testing.T) {
	for n := range 5 {
		for bits := range 1 << (2*n + 1) {
			op := editBy(n, func(i int) bool { return bits>>i&1 == 1 })
			places(t, op)
			allSpans(t, op)
		}
	}
}

// TestChance: greater edits, and several of them one behind the other.
func TestChance(t *testing.T) {
	chance := rand.New(rand.NewSource(10))
	ask := func(int) bool { return chance.Intn(3) == 0 }
	for range 500 {
		n := chance.Intn(16)
		a := editBy(n, ask)
		places(t, a)
		allSpans(t, a)
		b := editBy(edit.Out(a), ask)
		from := chance.Intn(n + 1)
		s := span(from, from+chance.Intn(n-from+1))
		if got, ok := place.Over([][]api.Run{a, b}, s); !ok || got != spanByByte(b, spanByByte(a, s)) {
			t.Errorf("Over(%v, %v, %v): %v, %t", a, b, s, got, ok)
		}
	}
}
