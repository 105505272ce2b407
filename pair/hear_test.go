package pair_test

import (
	"fmt"
	"math"
	"math/rand"
	"slices"
	"strings"
	"testing"

	"variorum/api"
	"variorum/cross"
	"variorum/edit"
	"variorum/pair"
	"variorum/run"
)

// P19.2

// TestHearWithNothingKept: what comes is done as it is.
func TestHearWithNothingKept(t *testing.T) {
	for _, first := range []bool{true, false} {
		s := made(t, first, "abc")
		for i, op := range [][]api.Run{runs(keep(1), add("x"), drop(1), keep(1)), runs(keep(3)), runs(drop(3)), nil, runs(add("new"))} {
			hears(t, s, pair.Sent{Op: op, Mine: i, Seen: 0}, 0, op...)
		}
		holds(t, s, "new", 0, 5, 0)
	}
}

// TestHearOverWhatIsKept: each is as it is behind the other, whether none, some or all of what is kept was seen.
func TestHearOverWhatIsKept(t *testing.T) {
	for _, first := range []bool{true, false} {
		// ab, axb, axyb, xyb
		own := [][]api.Run{insert(2, 1, "x"), insert(3, 2, "y"), runs(drop(1), keep(3))}
		// Between the same two bytes the first one's stands first.
		s := made(t, first, "ab", own...)
		if first {
			hears(t, s, pair.Sent{Op: insert(2, 1, "h")}, 3, insert(3, 2, "h")...)
		} else {
			hears(t, s, pair.Sent{Op: insert(2, 1, "h")}, 3, insert(3, 0, "h")...)
		}
		// What both drop is dropped once.
		s = made(t, first, "ab", own...)
		hears(t, s, pair.Sent{Op: runs(drop(1), keep(1), drop(1)), Seen: 1}, 2, keep(2), drop(1))
		holds(t, s, "xy", 3, 1, 2)
		s = made(t, first, "ab", own...)
		hears(t, s, pair.Sent{Op: runs(drop(1), keep(2), drop(1)), Seen: 2}, 1, keep(2), drop(1))
		holds(t, s, "xy", 3, 1, 1)
		s = made(t, first, "ab", own...)
		hears(t, s, pair.Sent{Op: runs(drop(1), keep(2)), Seen: 3}, 0, drop(1), keep(2))
		holds(t, s, "yb", 3, 1, 0)
	}
}

// TestHearLeavesWhatIsKeptBehindIt: what comes next goes over what is kept as it is by then.
func TestHearLeavesWhatIsKeptBehindIt(t *testing.T) {
	for _, first := range []bool{true, false} {
		s := made(t, first, "ab", insert(2, 1, "x"), insert(3, 3, "y"))
		hears(t, s, pair.Sent{Op: runs(drop(1), keep(1)), Mine: 0, Seen: 0}, 2, drop(1), keep(3))
		hears(t, s, pair.Sent{Op: insert(1, 0, "h"), Mine: 1, Seen: 0}, 2, at(first, 3, 1, 0, "h")...)
		hears(t, s, pair.Sent{Op: runs(keep(2), add("i"), drop(1)), Mine: 2, Seen: 1}, 1, keep(2), add("i"), drop(1), keep(1))
		mine, seen := s.Counts()
		if mine != 2 || seen != 3 || s.Text() != either(first, "xhiy", "hxiy") {
			t.Errorf("%d, %d, %q", mine, seen, s.Text())
		}
	}
}

// at tells the edit of n bytes that adds a text at one place, or at another one.
func at(first bool, n, one, other int, s string) []api.Run {
	if first {
		return insert(n, one, s)
	}
	return insert(n, other, s)
}

// either tells one of two texts.
func either(first bool, one, other string) string {
	if first {
		return one
	}
	return other
}

// TestHearWithWindow: with MaxWindow edits kept, of which any many were seen.
func TestHearWithWindow(t *testing.T) {
	for _, first := range []bool{true, false} {
		for many := range api.MaxWindow + 1 {
			s := made(t, first, "ab")
			for i := range api.MaxWindow {
				edits(t, s, insert(i+2, i+1, "x"))
			}
			left := api.MaxWindow - many
			for _, wrong := range []int{many - 1, many + 1, many + 3} {
				refuses(t, s, pair.Sent{Op: edit.Nothing(wrong + 2), Seen: many}, api.ErrOp)
			}
			// What was seen stands ahead of it.
			op := runs(keep(1), drop(many+1))
			want := edit.Norm(runs(keep(1), drop(many), keep(left), drop(1)))
			hears(t, s, pair.Sent{Op: op, Seen: many}, left, want...)
			holds(t, s, "a"+strings.Repeat("x", left), api.MaxWindow, 1, left)
			hears(t, s, pair.Sent{Op: edit.Nothing(1 + left), Mine: 1, Seen: api.MaxWindow}, 0, keep(1+left))
		}
	}
}

// TestOrderOfHearsErrors: of all that stands in the way the first one is told.
func TestOrderOfHearsErrors(t *testing.T) {
	ops := map[string][]api.Run{"right": nil, "wrong": runs(add("x"), drop(1), keep(-1)), "no edit": runs(keep(1), keep(2)), "longer": nil, "shorter": nil}
	for _, first := range []bool{true, false} {
		for _, waiting := range []int{0, 1, 3} {
			for _, mine := range []int{math.MinInt, -1, 0, 1, 2, 3, math.MaxInt} {
				for _, seen := range []int{math.MinInt, -2, -1, 0, 1, 2, 3, 4, 5, 6, math.MaxInt} {
					for name := range ops {
						s := ready(t, first, waiting)
						x := pair.Sent{Op: ops[name], Mine: mine, Seen: seen}
						// Behind edit 2 the text is ab; each one more makes it one longer.
						switch name {
						case "right":
							x.Op = edit.Nothing(seen)
						case "longer":
							x.Op = edit.Nothing(max(0, seen) + 1)
						case "shorter":
							x.Op = edit.Nothing(max(1, seen) - 1)
						}
						switch {
						case mine != 2 || seen > 2+waiting || seen < 2:
							refuses(t, s, x, api.ErrSeq)
						case name != "right":
							refuses(t, s, x, api.ErrOp)
						default:
							hears(t, s, x, 2+waiting-seen, edit.Nothing(2+waiting)...)
						}
					}
				}
			}
		}
	}
}

// ready tells a site that heard two edits, each of which had seen one more of its own, and that did some more since.
func ready(t *testing.T, first bool, waiting int) *pair.Site {
	t.Helper()
	s := made(t, first, "", runs(add("a")), runs(keep(1), add("b")))
	hears(t, s, pair.Sent{Op: runs(keep(1)), Mine: 0, Seen: 1}, 1, keep(2))
	hears(t, s, pair.Sent{Op: runs(keep(2)), Mine: 1, Seen: 2}, 0, keep(2))
	for i := range waiting {
		edits(t, s, insert(2+i, 2+i, "c"))
	}
	return s
}

// TestHearOfNoEdit: with none, and with some edits kept that were seen or not.
func TestHearOfNoEdit(t *testing.T) {
	for _, seen := range []int{0, 1, 2} {
		s := made(t, true, "abc", insert(3, 0, "x"), insert(4, 0, "y"))
		n := 3 + seen
		for _, op := range [][]api.Run{nil, runs(keep(n - 1)), runs(keep(n + 1)), runs(drop(n + 1)), runs(add("x")), runs(keep(n), keep(0)), runs(keep(1), keep(n-1)), runs(drop(1), add("x"), keep(n-1)), runs(keep(-n)), runs(keep(n+1), drop(-1)), runs(keep(n), api.Run{}), runs(api.Run{Keep: n, Add: "x"}), runs(keep(math.MaxInt), keep(math.MaxInt), keep(2+n)), runs(drop(math.MinInt))} {
			refuses(t, s, pair.Sent{Op: op, Seen: seen}, api.ErrOp)
		}
		hears(t, s, pair.Sent{Op: edit.Nothing(n), Seen: seen}, 2-seen, keep(5))
	}
}

// TestHearWithoutRoom: what cross says is told as it is, and nothing has changed.
func TestHearWithoutRoom(t *testing.T) {
	n := api.MaxText - 1
	for _, first := range []bool{true, false} {
		s := made(t, first, long[1:], runs(keep(n)), runs(keep(n), add("x")))
		refuses(t, s, pair.Sent{Op: runs(add("h"), keep(n)), Seen: 1}, api.ErrFull)
		refuses(t, s, pair.Sent{Op: runs(add("h"), keep(n)), Seen: 0}, api.ErrFull)
		// It is known still which edits the other one has not seen.
		hears(t, s, pair.Sent{Op: runs(add("h"), drop(1), keep(n-1)), Seen: 0}, 2, add("h"), drop(1), keep(n))
	}
	// An edit of MaxRuns runs, of which another one's parts a Drop.
	var op []api.Run
	for range api.MaxRuns / 2 {
		op = append(op, keep(1), drop(2))
	}
	n = 3 * api.MaxRuns / 2
	s := made(t, true, long[:n], op)
	refuses(t, s, pair.Sent{Op: insert(n, 2, "h")}, api.ErrFull)
	hears(t, s, pair.Sent{Op: insert(n, 3, "h")}, 1, insert(api.MaxRuns/2, 1, "h")...)
}

// Against a model

// model is a site as lists, whose text is made anew whenever it is asked for.
type model struct {
	first      bool
	base       string // what the other one had, as far as is known
	kept       [][]api.Run
	mine, seen int
}

func (d *model) text(t *testing.T) string {
	t.Helper()
	s, e := run.Fold(d.kept, d.base)
	is(t, "Fold", e, api.OK)
	return s
}

// hear lets an edit come ahead of all that is kept.
func (d *model) hear(t *testing.T, x pair.Sent) []api.Run {
	t.Helper()
	many := len(d.kept) - (d.mine - x.Seen)
	base, e := run.Fold(d.kept[:many], d.base)
	is(t, "Fold", e, api.OK)
	behind, kept, e := cross.Over(x.Op, d.kept[many:], !d.first)
	is(t, "Over", e, api.OK)
	d.base, e = run.Apply(x.Op, base)
	is(t, "Apply", e, api.OK)
	d.kept, d.seen = kept, d.seen+1
	return behind
}

// end is a site, its model, and what is on its way to it.
type end struct {
	site *pair.Site
	model
	comes []pair.Sent
}

// P19.3

// TestMeet: two sites that heard all have one text, whatever was edited meanwhile, and in whatever order it came.
func TestMeet(t *testing.T) {
	for seed := range 150 {
		chance := rand.New(rand.NewSource(int64(seed)))
		text := strings.Repeat("abc", seed%4)
		var ends [2]end
		for i := range ends {
			ends[i] = end{site: made(t, i == 0, text), model: model{first: i == 0, base: text}}
		}
		lazy := 1 + chance.Intn(6)
		for range 200 {
			at, other := &ends[0], &ends[1]
			if chance.Intn(2) == 0 {
				at, other = other, at
			}
			if chance.Intn(lazy+1) == 0 {
				at.hear(t)
			} else {
				at.edit(t, other, anEdit(chance, len(at.site.Text())))
			}
		}
		for len(ends[0].comes)+len(ends[1].comes) > 0 {
			ends[chance.Intn(2)].hear(t)
		}
		if one, other := ends[0].site.Text(), ends[1].site.Text(); one != other {
			t.Fatalf("%q and %q", one, other)
		}
	}
}

// edit does an edit at one end, and lets it go to the other one.
func (n *end) edit(t *testing.T, other *end, op []api.Run) {
	t.Helper()
	if len(n.kept) == api.MaxWindow {
		bars(t, n.site, op, api.ErrWindow)
		return
	}
	other.comes = append(other.comes, edits(t, n.site, op))
	n.kept, n.mine = append(slices.Clone(n.kept), op), n.mine+1
	holds(t, n.site, n.text(t), n.mine, n.seen, len(n.kept))
}

// hear lets the first one that is on its way come, if there is one.
func (n *end) hear(t *testing.T) {
	t.Helper()
	if len(n.comes) == 0 {
		return
	}
	x := n.comes[0]
	for _, wrong := range n.comes[1:] {
		refuses(t, n.site, wrong, api.ErrSeq)
	}
	want := n.model.hear(t, x)
	hears(t, n.site, x, len(n.kept), want...)
	holds(t, n.site, n.text(t), n.mine, n.seen, len(n.kept))
	refuses(t, n.site, x, api.ErrSeq)
	n.comes = n.comes[1:]
}

// TestMeetBetweenTheSameBytes: all that the first one added stands first, all orders of hearing alike.
func TestMeetBetweenTheSameBytes(t *testing.T) {
	for order := range 1 << 6 {
		one, other := made(t, true, "ab"), made(t, false, "ab")
		var here, there []pair.Sent
		for i := range 3 {
			here = append(here, edits(t, other, insert(2+i, 1+i, fmt.Sprint(i))))
			there = append(there, edits(t, one, insert(2+i, 1+i, string(rune('x'+i)))))
		}
		for i := range 6 {
			if order>>i&1 == 0 && len(here) > 0 || len(there) == 0 {
				_, e := one.Hear(here[0])
				is(t, "Hear", e, api.OK)
				here = here[1:]
			} else {
				_, e := other.Hear(there[0])
				is(t, "Hear", e, api.OK)
				there = there[1:]
			}
		}
		holds(t, one, "axyz012b", 3, 3, 3)
		holds(t, other, "axyz012b", 3, 3, 3)
	}
}

// anEdit tells an edit of n bytes, which keeps a text short.
func anEdit(chance *rand.Rand, n int) []api.Run {
	var l []api.Run
	for left := n; left > 0; {
		many := 1 + chance.Intn(min(left, 1+n/3))
		switch {
		case chance.Intn(30+n) > 27:
			l = append(l, drop(many))
		case chance.Intn(3) == 0:
			l = append(l, add(string(rune('a'+chance.Intn(26)))))
			many = 0
		default:
			l = append(l, keep(many))
		}
		left -= many
	}
	if chance.Intn(3) == 0 {
		l = append(l, add("z"))
	}
	return edit.Norm(l)
}
