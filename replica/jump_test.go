package replica_test

import (
	"fmt"
	"math"
	"math/rand"
	"slices"
	"testing"

	"variorum/api"
	"variorum/cross"
	"variorum/edit"
	"variorum/replica"
	"variorum/run"
)

// P18.3

func TestJump(t *testing.T) {
	r := made(t, 1, 4, 2, "abc")
	jumps(t, r, 9, 2, "aXc", runs(keep(1), add("X"), drop(1), keep(1)))
	holds(t, r, 9, 2, "aXc", "aXc")
	edits(t, r, insert(3, 1, "p"), insert(4, 4, "q"))
	// The edit between the texts comes as another one's: between the same two bytes it stands first.
	jumps(t, r, 9, 2, "aYXc", runs(keep(1), add("Y"), keep(4)))
	holds(t, r, 9, 2, "aYXc", "aYpXcq", insert(4, 2, "p"), insert(5, 5, "q"))
	// To the same text.
	jumps(t, r, 12, 2, "aYXc", runs(keep(6)))
	holds(t, r, 12, 2, "aYXc", "aYpXcq", insert(4, 2, "p"), insert(5, 5, "q"))
	// To the empty one.
	jumps(t, r, 13, 2, "", runs(drop(2), keep(1), drop(2), keep(1)))
	holds(t, r, 13, 2, "", "pq", insert(0, 0, "p"), insert(1, 1, "q"))
	sends(t, r, 1, 13, 3, insert(0, 0, "p"))
}

// TestJumpWithOwn: with as many of one's own edits as the Seq tells of in it.
func TestJumpWithOwn(t *testing.T) {
	ops := [][]api.Run{insert(2, 1, "x"), insert(3, 3, "y"), runs(keep(2), drop(2))}
	for _, under := range []bool{false, true} {
		for seq, text := range []string{"Zab", "Zaxb", "Zaxby", "Zax"} {
			r := made(t, 1, 4, 2, "ab", ops...)
			if under {
				sends(t, r, 1, 4, 3, ops[0])
			}
			jumps(t, r, 7, 2+seq, text, runs(add("Z"), keep(2)))
			var left [][]api.Run
			for _, op := range ops[seq:] {
				left = append(left, edit.Norm(append(runs(keep(1)), op...)))
			}
			holds(t, r, 7, 2+seq, text, "Zax", left...)
			if seq == 3 {
				silent(t, r)
			} else {
				sends(t, r, 1, 7, 3+seq, left[0])
			}
		}
		r := made(t, 1, 4, 2, "ab", ops...)
		if under {
			sends(t, r, 1, 4, 3, ops[0])
		}
		stays(t, r, 7, 6, "Zax", api.ErrSeq)
	}
}

// TestJumpWithOneForgotten: if the Seq tells of one more, it is that one, and none that is pending.
func TestJumpWithOneForgotten(t *testing.T) {
	forgetful := func() *replica.Replica {
		r := made(t, 1, 4, 2, "ab", insert(2, 1, "x"), insert(3, 3, "w"))
		sends(t, r, 1, 4, 3, insert(2, 1, "x"))
		r.Drop()
		edits(t, r, insert(2, 2, "y"), insert(3, 3, "z"))
		return r
	}
	for _, x := range []struct {
		seq    int
		text   string
		told   []api.Run
		behind string
		left   [][]api.Run
	}{
		// It was not taken.
		{2, "ab", runs(keep(4)), "abyz", [][]api.Run{insert(2, 2, "y"), insert(3, 3, "z")}},
		// It was.
		{3, "axb", insert(4, 1, "x"), "axbyz", [][]api.Run{insert(3, 3, "y"), insert(4, 4, "z")}},
		// So were others behind it.
		{4, "axby", insert(4, 1, "x"), "axbyz", [][]api.Run{insert(4, 4, "z")}},
		{5, "axbyz", insert(4, 1, "x"), "axbyz", nil},
	} {
		r := forgetful()
		jumps(t, r, 4, x.seq, x.text, x.told)
		holds(t, r, 4, x.seq, x.text, x.behind, x.left...)
		// Nothing is under way, or forgotten, any more.
		if len(x.left) == 0 {
			silent(t, r)
			refuses(t, r, 5, 1, x.seq+1, runs(keep(5)), api.ErrSeq)
		} else {
			refuses(t, r, 5, 1, x.seq+1, edit.Nothing(len(x.text)), api.ErrOp)
			sends(t, r, 1, 4, x.seq+1, x.left[0])
		}
	}
	r := forgetful()
	stays(t, r, 4, 6, "axbyz", api.ErrSeq)
	stays(t, r, 4, 1, "axbyz", api.ErrOld)
	silent(t, r)
	comes(t, r, 5, 1, 3, insert(2, 1, "x"), insert(4, 1, "x"))
	// With nothing pending.
	r = made(t, 1, 4, 2, "ab", insert(2, 1, "x"))
	sends(t, r, 1, 4, 3, insert(2, 1, "x"))
	r.Drop()
	stays(t, r, 4, 4, "ab", api.ErrSeq)
	jumps(t, r, 4, 3, "axb", insert(2, 1, "x"))
	stays(t, r, 4, 4, "ab", api.ErrSeq)
}

// TestOrderOfJumpsErrors: of all that stands in the way the first one is told.
func TestOrderOfJumpsErrors(t *testing.T) {
	for _, rev := range []int{math.MinInt, -1, 0, 3, 4, 5, math.MaxInt} {
		for _, seq := range []int{math.MinInt, -1, 0, 1, 2, 3, 4, 5, math.MaxInt} {
			for _, text := range []string{"", "ab", long + "a"} {
				r := made(t, 1, 4, 2, "ab", insert(2, 1, "x"), insert(3, 3, "y"))
				switch {
				case rev < 4 || seq < 2:
					stays(t, r, rev, seq, text, api.ErrOld)
				case seq > 4:
					stays(t, r, rev, seq, text, api.ErrSeq)
				case len(text) > api.MaxText:
					stays(t, r, rev, seq, text, api.ErrFull)
				default:
					if _, e := r.Jump(rev, seq, text); e != api.OK || r.Rev() != rev || r.Seq() != seq || r.Base() != text {
						t.Fatalf("Jump(%d, %d): %d", rev, seq, int(e))
					}
					sound(t, r)
				}
			}
		}
	}
}

// TestRefusedJumpForgetsNothing: what was under way is so still, and what was forgotten too.
func TestRefusedJumpForgetsNothing(t *testing.T) {
	r := made(t, 1, 4, 2, "ab", insert(2, 1, "x"))
	sends(t, r, 1, 4, 3, insert(2, 1, "x"))
	refuse := func() {
		stays(t, r, 3, 2, "ab", api.ErrOld)
		stays(t, r, 4, 1, "ab", api.ErrOld)
		stays(t, r, 4, 4, "ab", api.ErrSeq)
		stays(t, r, 4, 2, long+"a", api.ErrFull)
		silent(t, r)
	}
	refuse()
	r.Drop()
	refuse()
	comes(t, r, 5, 1, 3, insert(2, 1, "x"), insert(2, 1, "x"))
}

// TestJumpToLongTexts: to one of MaxText bytes, and from one.
func TestJumpToLongTexts(t *testing.T) {
	r := made(t, 1, 4, 2, "a")
	jumps(t, r, 5, 2, long, runs(keep(1), add(long[1:])))
	jumps(t, r, 6, 2, "b", runs(add("b"), drop(api.MaxText)))
	edits(t, r, runs(add("c"), keep(1)))
	stays(t, r, 7, 2, long, api.ErrFull)
	jumps(t, r, 7, 2, long[1:], runs(add(long[1:]), keep(1), drop(1)))
	stays(t, r, 7, 2, long, api.ErrFull)
	jumps(t, r, 7, 3, long, runs(keep(api.MaxText-1), add("a"), drop(1)))
	stays(t, r, 8, 3, long+"a", api.ErrFull)
	jumps(t, r, 8, 3, "", runs(drop(api.MaxText)))
}

// Shared lists

// TestSharedStays: what is handed in and what is told stays as it is, and who writes into it changes nothing.
func TestSharedStays(t *testing.T) {
	room := runs(keep(1), add("x"), keep(1), keep(7), add("room"))
	was := slices.Clone(room)
	r := replica.New(1, 4, 2, "ab")
	is(t, "Edit", r.Edit(room[:3]), api.OK)
	clear(room)
	edits(t, r, insert(3, 3, "y"))
	state := all(r)
	spoil := func(op []api.Run) { clear(op[:cap(op)]) }
	first, second := r.Pending(), r.Pending()
	m, _ := r.Next()
	spoil(m.Op)
	for _, op := range first {
		spoil(op)
	}
	clear(first[:cap(first)])
	unchanged(t, r, state)
	kept := fmt.Sprint(second)
	copy(room, was)
	got, e := r.Come(5, api.Entry{Client: 0, Seq: 1, Op: room[:3]})
	if e != api.OK || !slices.Equal(room, was) {
		t.Fatalf("%d; handed in: %v", int(e), room)
	}
	state = all(r)
	clear(room)
	spoil(got)
	unchanged(t, r, state)
	edits(t, r, runs(drop(5)))
	got, _ = r.Jump(6, 2, "new")
	told := fmt.Sprint(got)
	jumps(t, r, 7, 4, "other", runs(add("other"), drop(3)))
	if fmt.Sprint(second) != kept || fmt.Sprint(got) != told {
		t.Errorf("told: %v, %v; want %s, %s", second, got, kept, told)
	}
	spoil(got)
	sound(t, r)
}

// TestOthersEntryIsNotKept: with nothing pending what comes is told as it came, and not shared with it.
func TestOthersEntryIsNotKept(t *testing.T) {
	op := runs(keep(2), add("x"))
	r := made(t, 1, 4, 2, "ab")
	got, _ := r.Come(5, api.Entry{Op: op})
	clear(got)
	if !slices.Equal(op, runs(keep(2), add("x"))) {
		t.Errorf("%v", op)
	}
	own := runs(keep(3), add("y"))
	edits(t, r, own)
	comes(t, r, 6, 1, 3, own, nil)
	holds(t, r, 6, 3, "abxy", "abxy")
}

func TestReplicasAreApart(t *testing.T) {
	one, two := made(t, 1, 4, 2, "ab", insert(2, 1, "x")), made(t, 1, 4, 2, "ab", insert(2, 1, "x"))
	was := all(two)
	sends(t, one, 1, 4, 3, insert(2, 1, "x"))
	one.Drop()
	edits(t, one, runs(drop(2)))
	unchanged(t, two, was)
	sends(t, two, 1, 4, 3, insert(2, 1, "x"))
}

// Of one that no call made

func TestMadeByNoCall(t *testing.T) {
	var none *replica.Replica
	for name, r := range map[string]*replica.Replica{"nil": none, "plain": {}} {
		for _, n := range []int{math.MinInt, -1, 0, 1, math.MaxInt} {
			for _, op := range [][]api.Run{nil, runs(add("a")), runs(drop(1))} {
				is(t, name+" Edit", r.Edit(op), api.ErrNil)
				for client := range 2 {
					if l, e := r.Come(n, api.Entry{Client: client, Seq: n, Op: op}); e != api.ErrNil || len(l) != 0 {
						t.Errorf("%s: Come: %v, %d", name, l, int(e))
					}
				}
			}
			for _, text := range []string{"", "a", long + "a"} {
				if l, e := r.Jump(n, n, text); e != api.ErrNil || len(l) != 0 {
					t.Errorf("%s: Jump: %v, %d", name, l, int(e))
				}
			}
			r.Resend()
			r.Drop()
			silent(t, r)
			holds(t, r, 0, 0, "", "")
		}
	}
}

// P18.4, P18.5, against a model

// model is a replica as lists, whose text is made anew whenever it is asked for.
type model struct {
	rev, seq         int
	base             string
	pending          [][]api.Run
	under, forgotten bool // whether the first pending one is under way, or one that was dropped is
}

func (d *model) text(t *testing.T) string {
	t.Helper()
	s, e := run.Fold(d.pending, d.base)
	is(t, "Fold", e, api.OK)
	return s
}

// other lets an edit come ahead of all that is pending.
func (d *model) other(t *testing.T, op []api.Run) []api.Run {
	t.Helper()
	behind, pending, e := cross.Over(op, d.pending, true)
	is(t, "Over", e, api.OK)
	base, e := run.Apply(op, d.base)
	is(t, "Apply", e, api.OK)
	d.base, d.pending = base, pending
	return behind
}

// own takes the first pending edit into the base.
func (d *model) own(t *testing.T) {
	t.Helper()
	base, e := run.Apply(d.pending[0], d.base)
	is(t, "Apply", e, api.OK)
	d.base, d.pending = base, d.pending[1:]
}

func TestAsAModel(t *testing.T) {
	for seed := range 100 {
		chance := rand.New(rand.NewSource(int64(seed)))
		r := made(t, 1, 4, 2, "abcdef")
		d := &model{rev: 4, seq: 2, base: "abcdef"}
		for range 300 {
			d.step(t, r, chance)
			holds(t, r, d.rev, d.seq, d.base, d.text(t), d.pending...)
		}
	}
}

// step does anything of a replica and of the model.
func (d *model) step(t *testing.T, r *replica.Replica, chance *rand.Rand) {
	t.Helper()
	switch what := chance.Intn(40); {
	case what == 0:
		r.Resend()
		d.under, d.forgotten = false, false
	case what <= 2:
		r.Drop()
		d.under, d.forgotten, d.pending = false, d.forgotten || d.under, nil
	case what <= 6:
		d.jump(t, r, chance)
	case what <= 14:
		if len(d.pending) == 0 || d.under || d.forgotten {
			silent(t, r)
			return
		}
		sends(t, r, 1, d.rev, d.seq+1, d.pending[0])
		d.under = true
	case what <= 21:
		op := anEdit(chance, len(d.base))
		want := d.other(t, op)
		d.rev++
		comes(t, r, d.rev, 2*chance.Intn(2), chance.Int(), op, want)
	case what <= 29:
		d.ownComes(t, r, chance)
	default:
		op := anEdit(chance, len(r.Text()))
		if len(d.pending) == api.MaxWindow {
			is(t, "Edit", r.Edit(op), api.ErrWindow)
			return
		}
		edits(t, r, op)
		d.pending = append(slices.Clone(d.pending), op)
	}
}

// ownComes lets an entry of the replica's own come, if one may.
func (d *model) ownComes(t *testing.T, r *replica.Replica, chance *rand.Rand) {
	t.Helper()
	switch {
	case d.forgotten:
		op := anEdit(chance, len(d.base))
		want := d.other(t, op)
		d.rev, d.seq, d.forgotten = d.rev+1, d.seq+1, false
		comes(t, r, d.rev, 1, d.seq, op, want)
	case len(d.pending) == 0:
		refuses(t, r, d.rev+1, 1, d.seq+1, anEdit(chance, len(d.base)), api.ErrSeq)
	default:
		op := d.pending[0]
		d.own(t)
		d.rev, d.seq, d.under = d.rev+1, d.seq+1, false
		comes(t, r, d.rev, 1, d.seq, op, nil)
	}
}

// jump jumps, with some of what is pending.
func (d *model) jump(t *testing.T, r *replica.Replica, chance *rand.Rand) {
	t.Helper()
	open := len(d.pending)
	if d.forgotten {
		open++
	}
	rev, many := d.rev+chance.Intn(5), chance.Intn(open+1)
	stays(t, r, rev, d.seq+open+1, "ab", api.ErrSeq)
	stays(t, r, d.rev-1, d.seq+many, "ab", api.ErrOld)
	stays(t, r, rev, d.seq-1, "ab", api.ErrOld)
	d.rev, d.seq = rev, d.seq+many
	if many > 0 && d.forgotten {
		many--
	}
	for range many {
		d.own(t)
	}
	text, e := run.Apply(anEdit(chance, len(d.base)), d.base)
	is(t, "Apply", e, api.OK)
	want := d.other(t, run.Between(d.base, text))
	d.under, d.forgotten = false, false
	jumps(t, r, d.rev, d.seq, text, want)
}

// anEdit tells an edit of n bytes, which keeps a text short.
func anEdit(chance *rand.Rand, n int) []api.Run {
	var l []api.Run
	for left := n; left > 0; {
		many := 1 + chance.Intn(min(left, 1+n/3))
		switch {
		case chance.Intn(30+n) > 27:
			l = append(l, drop(many))
		case chance.Intn(3) == 0:
			l = append(l, add(string(rune('a'+chance.Intn(26)))))
			many = 0
		default:
			l = append(l, keep(many))
		}
		left -= many
	}
	if chance.Intn(3) == 0 {
		l = append(l, add("z"))
	}
	return edit.Norm(l)
}
