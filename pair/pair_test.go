package pair_test

import (
	"fmt"
	"math"
	"slices"
	"strings"
	"testing"

	"variorum/api"
	"variorum/edit"
	"variorum/pair"
	"variorum/run"
)

func keep(n int) api.Run   { return api.Run{Keep: n} }
func add(s string) api.Run { return api.Run{Add: s} }
func drop(n int) api.Run   { return api.Run{Drop: n} }

func runs(l ...api.Run) []api.Run { return l }

// insert tells the edit of n bytes that adds a text at a place.
func insert(n, at int, s string) []api.Run {
	return edit.Norm(runs(keep(at), add(s), keep(n-at)))
}

// long is a text of MaxText bytes.
var long = strings.Repeat("a", api.MaxText)

// brief tells anything in words, of great things the beginning.
func brief(l any) string {
	s := fmt.Sprint(l)
	return s[:min(len(s), 200)]
}

// is holds an error.
func is(t *testing.T, what string, got, want api.Errno) {
	t.Helper()
	if got != want {
		t.Fatalf("%s: %d; want %d", what, int(got), int(want))
	}
}

// made tells a new site that did some edits.
func made(t *testing.T, first bool, text string, ops ...[]api.Run) *pair.Site {
	t.Helper()
	s := pair.New(first, text)
	if s == nil {
		t.Fatalf("New of %d bytes: nil", len(text))
	}
	for _, op := range ops {
		edits(t, s, op)
	}
	return s
}

// holds holds what a site tells.
func holds(t *testing.T, s *pair.Site, text string, mine, seen, waiting int) {
	t.Helper()
	m, n := s.Counts()
	if s.Text() != text || m != mine || n != seen || s.Waiting() != waiting {
		t.Fatalf("%.80q, %d and %d, %d waiting; want %.80q, %d and %d, %d", s.Text(), m, n, s.Waiting(), text, mine, seen, waiting)
	}
}

// edits holds that a site does an edit, and what it tells then.
func edits(t *testing.T, s *pair.Site, op []api.Run) pair.Sent {
	t.Helper()
	mine, seen := s.Counts()
	waiting := s.Waiting()
	want, e := run.Apply(op, s.Text())
	is(t, "Apply", e, api.OK)
	x, e := s.Edit(op)
	if e != api.OK || !slices.Equal(x.Op, op) || x.Mine != mine || x.Seen != seen {
		t.Fatalf("Edit(%s): %s, %d; want %d and %d", brief(op), brief(x), int(e), mine, seen)
	}
	holds(t, s, want, mine+1, seen, waiting+1)
	return x
}

// bars holds that a site refuses an edit of its own, and that this changes nothing.
func bars(t *testing.T, s *pair.Site, op []api.Run, want api.Errno) {
	t.Helper()
	was := all(s)
	x, e := s.Edit(op)
	if e != want || len(x.Op) != 0 || x.Mine != 0 || x.Seen != 0 {
		t.Fatalf("Edit(%s): %s, %d; want %d", brief(op), brief(x), int(e), int(want))
	}
	unchanged(t, s, was)
}

// hears holds what an edit that comes does, and how many edits are kept then.
func hears(t *testing.T, s *pair.Site, x pair.Sent, waiting int, want ...api.Run) {
	t.Helper()
	was := s.Text()
	mine, seen := s.Counts()
	got, e := s.Hear(x)
	if e != api.OK || !slices.Equal(got, want) {
		t.Fatalf("Hear(%s): %s, %d; want %s", brief(x), brief(got), int(e), brief(want))
	}
	text, e := run.Apply(want, was)
	is(t, "Apply", e, api.OK)
	holds(t, s, text, mine, seen+1, waiting)
}

// refuses holds that what comes is refused, and that this changes nothing.
func refuses(t *testing.T, s *pair.Site, x pair.Sent, want api.Errno) {
	t.Helper()
	was := all(s)
	got, e := s.Hear(x)
	if e != want || len(got) != 0 {
		t.Fatalf("Hear(%s): %s, %d; want %d", brief(x), brief(got), int(e), int(want))
	}
	unchanged(t, s, was)
}

// told is all that a site tells.
type told struct {
	text                string
	mine, seen, waiting int
}

// all asks a site for all that it tells.
func all(s *pair.Site) told {
	x := told{text: s.Text(), waiting: s.Waiting()}
	x.mine, x.seen = s.Counts()
	return x
}

// unchanged holds that a site tells what it told.
func unchanged(t *testing.T, s *pair.Site, was told) {
	t.Helper()
	holds(t, s, was.text, was.mine, was.seen, was.waiting)
}

func TestExample(t *testing.T) {
	one, other := made(t, true, "ab"), made(t, false, "ab")
	x := edits(t, one, runs(keep(1), add("x"), keep(1)))
	y := edits(t, other, runs(keep(1), add("y"), keep(1)))
	hears(t, one, y, 1, keep(2), add("y"), keep(1))
	hears(t, other, x, 1, keep(1), add("x"), keep(2))
	if one.Text() != "axyb" || other.Text() != "axyb" {
		t.Errorf("%q, %q", one.Text(), other.Text())
	}
}

// P19.1

func TestNew(t *testing.T) {
	for _, first := range []bool{true, false} {
		for _, text := range []string{"", "a", "abc", "\x00\xff", long[1:], long} {
			holds(t, made(t, first, text), text, 0, 0, 0)
		}
		for _, text := range []string{long + "a", long + long} {
			if s := pair.New(first, text); s != nil {
				t.Errorf("New of %d bytes: %.20q", len(text), s.Text())
			}
		}
	}
}

func TestEdit(t *testing.T) {
	s := made(t, true, "abc")
	if x := edits(t, s, runs(keep(1), add("x"), drop(1), keep(1))); x.Mine != 0 || x.Seen != 0 {
		t.Errorf("%v", x)
	}
	holds(t, s, "axc", 1, 0, 1)
	if x := edits(t, s, runs(drop(3))); x.Mine != 1 || x.Seen != 0 {
		t.Errorf("%v", x)
	}
	holds(t, s, "", 2, 0, 2)
	edits(t, s, nil)
	edits(t, s, runs(add("new")))
	holds(t, s, "new", 4, 0, 4)
	edits(t, s, runs(keep(3)))
	// The counts ahead of it, also of what was heard.
	hears(t, s, pair.Sent{Op: runs(add("h")), Mine: 0, Seen: 2}, 3, keep(3), add("h"))
	if x := edits(t, s, runs(keep(4), add("!"))); x.Mine != 5 || x.Seen != 1 {
		t.Errorf("%v", x)
	}
	holds(t, s, "newh!", 6, 1, 4)
}

func TestEditOfNoEdit(t *testing.T) {
	for _, first := range []bool{true, false} {
		s := made(t, first, "abc", insert(3, 3, "d"))
		for _, op := range [][]api.Run{nil, runs(keep(3)), runs(keep(5)), runs(drop(3)), runs(drop(5)), runs(add("x")), runs(keep(4), keep(0)), runs(keep(2), keep(2)), runs(drop(1), add("x"), keep(3)), runs(keep(-4)), runs(keep(5), drop(-1)), runs(api.Run{}), runs(api.Run{Keep: 4, Add: "x"}), runs(keep(math.MaxInt), keep(math.MaxInt), keep(6)), runs(drop(math.MinInt))} {
			bars(t, s, op, api.ErrOp)
		}
		edits(t, s, runs(keep(4)))
	}
}

func TestEditToLongText(t *testing.T) {
	s := made(t, true, long[2:])
	bars(t, s, runs(add("xyz"), keep(api.MaxText-2)), api.ErrOp)
	edits(t, s, runs(add("xy"), keep(api.MaxText-2)))
	bars(t, s, runs(keep(api.MaxText), add("z")), api.ErrOp)
	edits(t, s, runs(add("z"), drop(1), keep(api.MaxText-1)))
	bars(t, s, runs(add("yz"), drop(1), keep(api.MaxText-1)), api.ErrOp)
	edits(t, s, runs(drop(api.MaxText)))
	edits(t, s, runs(add(long)))
	holds(t, s, long, 4, 0, 4)
}

// TestEditOfManyRuns: of MaxRuns runs, and of one more.
func TestEditOfManyRuns(t *testing.T) {
	var op []api.Run
	for range api.MaxRuns / 2 {
		op = append(op, keep(1), drop(1))
	}
	s := made(t, false, long[:api.MaxRuns+1])
	bars(t, s, append(slices.Clone(op), keep(1)), api.ErrOp)
	op[len(op)-1] = drop(2)
	edits(t, s, op)
}

// TestWindow: MaxWindow edits are kept, and there is room again once the other one saw some.
func TestWindow(t *testing.T) {
	for _, first := range []bool{true, false} {
		s := made(t, first, "")
		for i := range api.MaxWindow {
			edits(t, s, insert(i, i, "x"))
		}
		op := insert(api.MaxWindow, 0, "y")
		bars(t, s, op, api.ErrWindow)
		// What is no edit is told first.
		bars(t, s, insert(api.MaxWindow+1, 0, "y"), api.ErrOp)
		// What it saw none of makes no room.
		hears(t, s, pair.Sent{Op: runs(add("h")), Mine: 0, Seen: 0}, api.MaxWindow, heard(first)...)
		bars(t, s, insert(api.MaxWindow+1, 0, "y"), api.ErrWindow)
		at := len(s.Text()) - 1
		hears(t, s, pair.Sent{Op: runs(keep(4)), Mine: 1, Seen: 3}, api.MaxWindow-3, keep(at+1))
		for range 3 {
			edits(t, s, insert(len(s.Text()), 0, "z"))
		}
		bars(t, s, insert(len(s.Text()), 0, "z"), api.ErrWindow)
		hears(t, s, pair.Sent{Op: runs(drop(len(s.Text()))), Mine: 2, Seen: api.MaxWindow + 3}, 0, drop(len(s.Text())))
		for i := range api.MaxWindow {
			edits(t, s, insert(i, 0, "w"))
		}
		bars(t, s, insert(api.MaxWindow, 0, "w"), api.ErrWindow)
	}
}

// heard tells what adds h behind MaxWindow bytes that the first one added between the same two, or ahead of those that the other one did.
func heard(first bool) []api.Run {
	if first {
		return runs(keep(api.MaxWindow), add("h"))
	}
	return runs(add("h"), keep(api.MaxWindow))
}

// Shared lists

// TestSharedStays: what was handed in and what was told stays as it is while more comes, and who writes into it changes nothing.
func TestSharedStays(t *testing.T) {
	for _, first := range []bool{true, false} {
		room := runs(keep(1), add("x"), keep(1), keep(9), add("room"))
		was := slices.Clone(room)
		s := made(t, first, "ab")
		one, e := s.Edit(room[:3])
		is(t, "Edit", e, api.OK)
		two := edits(t, s, insert(3, 3, "y"))
		kept := brief([]any{one, two})
		got, e := s.Hear(pair.Sent{Op: room[:3], Mine: 0, Seen: 0})
		is(t, "Hear", e, api.OK)
		tells := brief(got)
		edits(t, s, insert(5, 0, "z"))
		next, e := s.Hear(pair.Sent{Op: runs(drop(4)), Mine: 1, Seen: 1})
		is(t, "Hear", e, api.OK)
		if !slices.Equal(room, was) || brief([]any{one, two}) != kept || brief(got) != tells {
			t.Errorf("handed in: %v; told: %v, %v, %v", room, one, two, got)
		}
		state := all(s)
		for _, l := range [][]api.Run{room, one.Op, two.Op, got, next} {
			clear(l[:cap(l)])
		}
		unchanged(t, s, state)
		// What is kept is as it was: y at the end, and z at the beginning.
		hears(t, s, pair.Sent{Op: runs(add("h")), Mine: 2, Seen: 1}, 2, between(first)...)
	}
}

// between tells what adds h to zy, each of which was added between the same two bytes.
func between(first bool) []api.Run {
	if first {
		return runs(keep(2), add("h"))
	}
	return runs(add("h"), keep(2))
}

// TestEditIsNotShared: who writes into what was handed in, or into what was told, changes neither the other one nor what is kept.
func TestEditIsNotShared(t *testing.T) {
	for _, tells := range []bool{true, false} {
		op := insert(2, 1, "x")
		s := made(t, true, "ab")
		x, e := s.Edit(op)
		is(t, "Edit", e, api.OK)
		spoilt, other := op, x.Op
		if tells {
			spoilt, other = other, spoilt
		}
		clear(spoilt)
		if !slices.Equal(other, insert(2, 1, "x")) {
			t.Errorf("%v", other)
		}
		hears(t, s, pair.Sent{Op: insert(2, 1, "h")}, 1, insert(3, 2, "h")...)
	}
}

// TestWhatComesIsNotShared: with nothing kept what comes is told as it came, in a list of its own.
func TestWhatComesIsNotShared(t *testing.T) {
	s := made(t, true, "ab")
	op := runs(keep(2), add("x"))
	got, e := s.Hear(pair.Sent{Op: op})
	is(t, "Hear", e, api.OK)
	clear(got)
	if !slices.Equal(op, runs(keep(2), add("x"))) {
		t.Errorf("%v", op)
	}
	holds(t, s, "abx", 0, 1, 0)
}

func TestSitesAreApart(t *testing.T) {
	one, other := made(t, true, "ab", insert(2, 1, "x")), made(t, true, "ab", insert(2, 1, "x"))
	was := all(other)
	edits(t, one, runs(drop(3)))
	hears(t, one, pair.Sent{Op: runs(drop(2)), Mine: 0, Seen: 0}, 2)
	unchanged(t, other, was)
	hears(t, other, pair.Sent{Op: runs(drop(2)), Mine: 0, Seen: 0}, 1, drop(1), keep(1), drop(1))
}

// Of one that no call made

func TestMadeByNoCall(t *testing.T) {
	var none *pair.Site
	for name, s := range map[string]*pair.Site{"nil": none, "plain": {}} {
		for _, n := range []int{math.MinInt, -1, 0, 1, math.MaxInt} {
			for _, op := range [][]api.Run{nil, runs(add("a")), runs(drop(1)), runs(keep(0))} {
				if x, e := s.Edit(op); e != api.ErrNil || len(x.Op) != 0 || x.Mine != 0 || x.Seen != 0 {
					t.Errorf("%s: Edit: %v, %d", name, x, int(e))
				}
				if l, e := s.Hear(pair.Sent{Op: op, Mine: n, Seen: n}); e != api.ErrNil || len(l) != 0 {
					t.Errorf("%s: Hear: %v, %d", name, l, int(e))
				}
			}
		}
		holds(t, s, "", 0, 0, 0)
	}
}
