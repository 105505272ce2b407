package replica_test

import (
	"fmt"
	"math"
	"slices"
	"strings"
	"testing"

	"variorum/api"
	"variorum/edit"
	"variorum/replica"
	"variorum/run"
)

func keep(n int) api.Run   { return api.Run{Keep: n} }
func add(s string) api.Run { return api.Run{Add: s} }
func drop(n int) api.Run   { return api.Run{Drop: n} }

func runs(l ...api.Run) []api.Run { return l }

// insert tells the edit of n bytes that adds a text behind at of them.
func insert(n, at int, s string) []api.Run { return edit.Norm(runs(keep(at), add(s), keep(n-at))) }

// long is a text of MaxText bytes.
var long = strings.Repeat("a", api.MaxText)

// brief tells anything in words, of great things the beginning.
func brief(l any) string {
	s := fmt.Sprint(l)
	return s[:min(len(s), 200)]
}

// is holds an error.
func is(t *testing.T, what string, got, want api.Errno) {
	t.Helper()
	if got != want {
		t.Fatalf("%s: %d; want %d", what, int(got), int(want))
	}
}

// made tells a new replica with edits pending.
func made(t *testing.T, client, rev, seq int, text string, ops ...[]api.Run) *replica.Replica {
	t.Helper()
	r := replica.New(client, rev, seq, text)
	if r == nil {
		t.Fatalf("New(%d, %d, %d) of %d bytes: nil", client, rev, seq, len(text))
	}
	edits(t, r, ops...)
	return r
}

// edits does edits of one's own.
func edits(t *testing.T, r *replica.Replica, ops ...[]api.Run) {
	t.Helper()
	for _, op := range ops {
		is(t, "Edit", r.Edit(op), api.OK)
		sound(t, r)
	}
}

// sound holds that the text is the base behind all that is pending. (P18.4)
func sound(t *testing.T, r *replica.Replica) {
	t.Helper()
	text, e := run.Fold(r.Pending(), r.Base())
	if e != api.OK || text != r.Text() {
		t.Fatalf("Text %.80q; %.80q behind %s is %.80q, %d", r.Text(), r.Base(), brief(r.Pending()), text, int(e))
	}
	if len(r.Pending()) > api.MaxWindow {
		t.Fatalf("%d are pending", len(r.Pending()))
	}
}

// told is all that a replica tells, but for Next.
type told struct {
	text, base, pending string
	rev, seq            int
}

// all asks a replica for all that it tells.
func all(r *replica.Replica) told {
	return told{text: r.Text(), base: r.Base(), pending: fmt.Sprint(r.Pending()), rev: r.Rev(), seq: r.Seq()}
}

// unchanged holds that a replica tells what it told.
func unchanged(t *testing.T, r *replica.Replica, was told) {
	t.Helper()
	if now := all(r); now != was {
		t.Fatalf("changed: it was %s; it is %s", brief(was), brief(now))
	}
}

// holds holds all that a replica tells.
func holds(t *testing.T, r *replica.Replica, rev, seq int, base, text string, pending ...[]api.Run) {
	t.Helper()
	if r.Rev() != rev || r.Seq() != seq || r.Base() != base || r.Text() != text {
		t.Fatalf("Rev %d, Seq %d, Base %.80q, Text %.80q; want %d, %d, %.80q, %.80q", r.Rev(), r.Seq(), r.Base(), r.Text(), rev, seq, base, text)
	}
	if l := r.Pending(); !slices.EqualFunc(l, pending, edit.Same) {
		t.Fatalf("Pending %s; want %s", brief(l), brief(pending))
	}
	sound(t, r)
}

// makes holds what an edit makes of the text that was.
func makes(t *testing.T, r *replica.Replica, was string, op, want []api.Run) {
	t.Helper()
	if !edit.Same(op, want) {
		t.Fatalf("told %s; want %s", brief(op), brief(want))
	}
	if len(op) == 0 && was == r.Text() {
		return
	}
	if text, e := run.Apply(op, was); e != api.OK || text != r.Text() {
		t.Fatalf("%s makes %.80q of %.80q, %d; the text is %.80q", brief(op), text, was, int(e), r.Text())
	}
}

// comes holds that an entry comes, and what is told of it.
func comes(t *testing.T, r *replica.Replica, rev, client, seq int, op, want []api.Run) {
	t.Helper()
	was := r.Text()
	got, e := r.Come(rev, api.Entry{Client: client, Seq: seq, Op: op})
	is(t, "Come", e, api.OK)
	makes(t, r, was, got, want)
	sound(t, r)
	if r.Rev() != rev {
		t.Fatalf("Rev %d; want %d", r.Rev(), rev)
	}
}

// refuses holds that an entry is refused, and changes nothing.
func refuses(t *testing.T, r *replica.Replica, rev, client, seq int, op []api.Run, want api.Errno) {
	t.Helper()
	was := all(r)
	got, e := r.Come(rev, api.Entry{Client: client, Seq: seq, Op: op})
	if e != want || len(got) != 0 {
		t.Fatalf("Come(%d, %d, %d, %s): %s, %d; want %d", rev, client, seq, brief(op), brief(got), int(e), int(want))
	}
	unchanged(t, r, was)
}

// jumps holds that a jump is done, and what is told of it.
func jumps(t *testing.T, r *replica.Replica, rev, seq int, text string, want []api.Run) {
	t.Helper()
	was := r.Text()
	got, e := r.Jump(rev, seq, text)
	is(t, "Jump", e, api.OK)
	makes(t, r, was, got, want)
	sound(t, r)
	if r.Rev() != rev || r.Seq() != seq || r.Base() != text {
		t.Fatalf("Rev %d, Seq %d, Base %.80q; want %d, %d, %.80q", r.Rev(), r.Seq(), r.Base(), rev, seq, text)
	}
}

// stays holds that a jump is refused, and changes nothing.
func stays(t *testing.T, r *replica.Replica, rev, seq int, text string, want api.Errno) {
	t.Helper()
	was := all(r)
	got, e := r.Jump(rev, seq, text)
	if e != want || len(got) != 0 {
		t.Fatalf("Jump(%d, %d) to %d bytes: %s, %d; want %d", rev, seq, len(text), brief(got), int(e), int(want))
	}
	unchanged(t, r, was)
}

// sends holds what Next tells, and that it tells nothing then.
func sends(t *testing.T, r *replica.Replica, client, rev, seq int, op []api.Run) {
	t.Helper()
	was := all(r)
	m, ok := r.Next()
	if !ok || !edit.Same(m.Op, op) {
		t.Fatalf("Next: %s, %t; want %s", brief(m), ok, brief(op))
	}
	m.Op = nil
	if got, want := fmt.Sprintf("%#v", m), fmt.Sprintf("%#v", api.Msg{Kind: api.MsgOp, Client: client, Rev: rev, Seq: seq}); got != want {
		t.Fatalf("Next: %s; want %s", got, want)
	}
	unchanged(t, r, was)
	silent(t, r)
}

// silent holds that Next tells nothing.
func silent(t *testing.T, r *replica.Replica) {
	t.Helper()
	was := all(r)
	for range 2 {
		if m, ok := r.Next(); ok || fmt.Sprintf("%#v", m) != fmt.Sprintf("%#v", api.Msg{}) {
			t.Fatalf("Next: %s, %t", brief(m), ok)
		}
	}
	unchanged(t, r, was)
}

func TestExample(t *testing.T) {
	r := made(t, 0, 0, 0, "ab", insert(2, 1, "x"))
	comes(t, r, 1, 1, 1, insert(2, 1, "y"), insert(3, 1, "y"))
	holds(t, r, 1, 0, "ayb", "ayxb", insert(3, 2, "x"))
}

// P18.1

func TestNew(t *testing.T) {
	clients := map[int]bool{0: true, 1: true, api.MaxClients - 1: true, api.MaxClients: false, -1: false, math.MinInt: false, math.MaxInt: false}
	numbers := map[int]bool{0: true, 1: true, api.MaxNum: true, math.MaxInt: true, -1: false, math.MinInt: false}
	texts := map[string]bool{"": true, "ab": true, long: true, long + "a": false}
	for client, okClient := range clients {
		for rev, okRev := range numbers {
			for seq, okSeq := range numbers {
				for text, okText := range texts {
					r := replica.New(client, rev, seq, text)
					if (r != nil) != (okClient && okRev && okSeq && okText) {
						t.Fatalf("New(%d, %d, %d) of %d bytes: %t", client, rev, seq, len(text), r != nil)
					}
					if r != nil {
						holds(t, r, rev, seq, text, text)
						silent(t, r)
					}
				}
			}
		}
	}
}

func TestEdit(t *testing.T) {
	r := made(t, 3, 4, 2, "ab")
	edits(t, r, insert(2, 1, "x"))
	holds(t, r, 4, 2, "ab", "axb", insert(2, 1, "x"))
	edits(t, r, runs(drop(3)))
	edits(t, r, nil, []api.Run{}, runs(add("new")), runs(keep(3)))
	holds(t, r, 4, 2, "ab", "new", insert(2, 1, "x"), runs(drop(3)), nil, nil, runs(add("new")), runs(keep(3)))
}

// TestEditThatIsNone: what is no edit, and what is one of another text than the one that is by now.
func TestEditThatIsNone(t *testing.T) {
	r := made(t, 3, 4, 2, "abc", runs(keep(3), add("d")))
	was := all(r)
	for _, op := range [][]api.Run{
		nil, {}, {{}}, runs(keep(0)), runs(keep(-4)), runs(keep(3)), runs(keep(5)), runs(keep(2), keep(2)), runs(drop(2), drop(2)), runs(keep(3), add("x")),
		runs(keep(2), drop(2), add("x")), runs(add("x"), add("y"), keep(4)), {{Keep: 2, Drop: 2}}, {{Keep: 4, Add: "x"}}, runs(keep(4), add("")),
		runs(drop(3)), runs(drop(5)), runs(add("abcd")), runs(keep(math.MaxInt), drop(math.MaxInt), keep(6)), runs(keep(math.MinInt)),
		runs(keep(4), add(long)), runs(keep(4), add(long[3:])), slices.Repeat(runs(keep(1), add("x")), api.MaxRuns),
	} {
		is(t, "Edit of "+brief(op), r.Edit(op), api.ErrOp)
		unchanged(t, r, was)
	}
	edits(t, r, runs(keep(4), add(long[4:])))
	if len(r.Text()) != api.MaxText {
		t.Errorf("%d bytes", len(r.Text()))
	}
	is(t, "Edit", r.Edit(runs(keep(api.MaxText), add("x"))), api.ErrOp)
	edits(t, r, runs(drop(api.MaxText)))
}

func TestEditsUpToMaxWindow(t *testing.T) {
	r := made(t, 0, 0, 0, "")
	var l [][]api.Run
	for n := range api.MaxWindow {
		l = append(l, insert(n, n, "a"))
		edits(t, r, l[n])
	}
	holds(t, r, 0, 0, "", long[:api.MaxWindow], l...)
	was := all(r)
	is(t, "one more", r.Edit(runs(keep(api.MaxWindow))), api.ErrWindow)
	is(t, "one more that is none", r.Edit(runs(keep(1))), api.ErrOp)
	unchanged(t, r, was)
	// What is under way is pending still.
	sends(t, r, 0, 0, 1, l[0])
	is(t, "one more", r.Edit(runs(keep(api.MaxWindow))), api.ErrWindow)
	comes(t, r, 1, 0, 1, l[0], nil)
	edits(t, r, runs(keep(api.MaxWindow)))
	is(t, "one more", r.Edit(runs(keep(api.MaxWindow))), api.ErrWindow)
	// One that is forgotten is not pending any more.
	sends(t, r, 0, 1, 2, l[1])
	r.Drop()
	for range api.MaxWindow {
		edits(t, r, runs(keep(1)))
	}
	is(t, "one more", r.Edit(runs(keep(1))), api.ErrWindow)
}

func TestNext(t *testing.T) {
	r := made(t, 63, 4, 2, "ab")
	silent(t, r)
	edits(t, r, insert(2, 1, "x"), insert(3, 3, "y"))
	sends(t, r, 63, 4, 3, insert(2, 1, "x"))
	edits(t, r, runs(drop(4)))
	silent(t, r)
	// Another one's entry lets it be under way.
	comes(t, r, 5, 0, 9, runs(add("z"), keep(2)), runs(add("z")))
	silent(t, r)
	comes(t, r, 6, 63, 3, insert(3, 2, "x"), nil)
	sends(t, r, 63, 6, 4, insert(4, 4, "y"))
	comes(t, r, 7, 63, 4, insert(4, 4, "y"), nil)
	sends(t, r, 63, 7, 5, runs(keep(1), drop(4)))
	comes(t, r, 8, 63, 5, runs(keep(1), drop(4)), nil)
	silent(t, r)
	holds(t, r, 8, 5, "z", "z")
	edits(t, r, runs(keep(1)))
	sends(t, r, 63, 8, 6, runs(keep(1)))
}

// TestNextOfAnEmptyEdit: an edit without a run is sent like the others.
func TestNextOfAnEmptyEdit(t *testing.T) {
	r := made(t, 1, 0, 0, "", nil, runs(add("a")))
	sends(t, r, 1, 0, 1, nil)
	comes(t, r, 1, 1, 1, nil, nil)
	holds(t, r, 1, 1, "", "a", runs(add("a")))
	sends(t, r, 1, 1, 2, runs(add("a")))
}

func TestResend(t *testing.T) {
	r := made(t, 1, 4, 2, "ab")
	r.Resend()
	silent(t, r)
	edits(t, r, insert(2, 1, "x"), insert(3, 3, "y"))
	for range 3 {
		sends(t, r, 1, 4, 3, insert(2, 1, "x"))
		r.Resend()
		r.Resend()
		holds(t, r, 4, 2, "ab", "axby", insert(2, 1, "x"), insert(3, 3, "y"))
	}
	comes(t, r, 5, 0, 1, runs(add("z"), keep(2)), runs(add("z"), keep(4)))
	sends(t, r, 1, 5, 3, insert(3, 2, "x"))
	// One that is not under way any more may come all the same.
	r.Resend()
	comes(t, r, 6, 1, 3, insert(3, 2, "x"), nil)
	sends(t, r, 1, 6, 4, insert(4, 4, "y"))
}

func TestDrop(t *testing.T) {
	r := made(t, 1, 4, 2, "ab")
	r.Drop()
	holds(t, r, 4, 2, "ab", "ab")
	// Nothing was under way, so nothing is forgotten.
	edits(t, r, insert(2, 1, "x"), insert(3, 3, "y"))
	r.Drop()
	holds(t, r, 4, 2, "ab", "ab")
	refuses(t, r, 5, 1, 3, insert(2, 1, "x"), api.ErrSeq)
	edits(t, r, insert(2, 2, "!"))
	sends(t, r, 1, 4, 3, insert(2, 2, "!"))
	// It was, so it is forgotten, and under way still.
	for range 2 {
		r.Drop()
		holds(t, r, 4, 2, "ab", "ab")
		silent(t, r)
		edits(t, r, runs(add("1"), keep(2)))
		silent(t, r)
	}
	comes(t, r, 5, 1, 3, insert(2, 2, "!"), runs(keep(3), add("!")))
	holds(t, r, 5, 3, "ab!", "1ab!", runs(add("1"), keep(3)))
	sends(t, r, 1, 5, 4, runs(add("1"), keep(3)))
	comes(t, r, 6, 1, 4, runs(add("1"), keep(3)), nil)
	// Nothing is forgotten any more.
	refuses(t, r, 7, 1, 5, runs(keep(4)), api.ErrSeq)
	r.Drop()
	refuses(t, r, 7, 1, 5, runs(keep(4)), api.ErrSeq)
}

// TestResendOfOneForgotten: it is not under way any more, and the next one goes.
func TestResendOfOneForgotten(t *testing.T) {
	r := made(t, 1, 4, 2, "ab", insert(2, 2, "!"))
	sends(t, r, 1, 4, 3, insert(2, 2, "!"))
	r.Drop()
	r.Resend()
	silent(t, r)
	refuses(t, r, 5, 1, 3, insert(2, 2, "!"), api.ErrSeq)
	edits(t, r, runs(add("1"), keep(2)))
	refuses(t, r, 5, 1, 3, insert(2, 2, "!"), api.ErrOp)
	sends(t, r, 1, 4, 3, runs(add("1"), keep(2)))
	comes(t, r, 5, 1, 3, runs(add("1"), keep(2)), nil)
	holds(t, r, 5, 3, "1ab", "1ab")
}

// P18.2

// TestOthersCome: behind another one's entry all that is pending stands as it was; between the same two bytes the entry's adds stand first.
func TestOthersCome(t *testing.T) {
	r := made(t, 1, 4, 2, "abc")
	comes(t, r, 5, 0, 7, insert(3, 1, "x"), insert(3, 1, "x"))
	holds(t, r, 5, 2, "axbc", "axbc")
	edits(t, r, insert(4, 2, "p"), runs(keep(2), drop(2), keep(1)), runs(keep(3), add("q")))
	holds(t, r, 5, 2, "axbc", "axcq", insert(4, 2, "p"), runs(keep(2), drop(2), keep(1)), runs(keep(3), add("q")))
	// Of any client beside one's own, and of any Seq.
	comes(t, r, 6, 63, -5, runs(keep(2), add("y"), drop(1), keep(1)), runs(keep(2), add("y"), keep(2)))
	holds(t, r, 6, 2, "axyc", "axycq", insert(4, 3, "p"), runs(keep(3), drop(1), keep(1)), runs(keep(4), add("q")))
	comes(t, r, 7, math.MinInt, math.MaxInt, runs(drop(4)), runs(drop(4), keep(1)))
	holds(t, r, 7, 2, "", "q", runs(add("p")), runs(drop(1)), runs(add("q")))
	comes(t, r, 8, 2, 2, nil, runs(keep(1)))
	comes(t, r, 9, 2, 2, runs(add("z")), runs(add("z"), keep(1)))
	holds(t, r, 9, 2, "z", "zq", runs(keep(1), add("p")), runs(keep(1), drop(1)), runs(keep(1), add("q")))
}

// TestOwnComes: one's own entry is the first pending edit, as it is by then; the text stays.
func TestOwnComes(t *testing.T) {
	r := made(t, 1, 4, 2, "ab", insert(2, 1, "x"), insert(3, 3, "y"))
	sends(t, r, 1, 4, 3, insert(2, 1, "x"))
	comes(t, r, 5, 1, 3, insert(2, 1, "x"), nil)
	holds(t, r, 5, 3, "axb", "axby", insert(3, 3, "y"))
	// Also one that was not under way.
	comes(t, r, 6, 1, 4, insert(3, 3, "y"), nil)
	holds(t, r, 6, 4, "axby", "axby")
	refuses(t, r, 7, 1, 5, runs(keep(4)), api.ErrSeq)
	edits(t, r, runs(drop(4)))
	sends(t, r, 1, 6, 5, runs(drop(4)))
	comes(t, r, 7, 0, 1, insert(4, 2, "z"), insert(0, 0, "z"))
	comes(t, r, 8, 1, 5, runs(drop(2), keep(1), drop(2)), nil)
	holds(t, r, 8, 5, "z", "z")
}

// TestForgottenComes: what was dropped while it was under way comes as another one's.
func TestForgottenComes(t *testing.T) {
	r := made(t, 1, 4, 2, "ab", insert(2, 1, "x"))
	sends(t, r, 1, 4, 3, insert(2, 1, "x"))
	r.Drop()
	comes(t, r, 5, 0, 1, runs(add("z"), keep(2)), runs(add("z"), keep(2)))
	silent(t, r)
	edits(t, r, insert(3, 2, "p"), runs(keep(4), add("q")))
	refuses(t, r, 6, 1, 4, insert(3, 2, "x"), api.ErrSeq)
	refuses(t, r, 6, 1, 2, insert(3, 2, "x"), api.ErrSeq)
	refuses(t, r, 7, 1, 3, insert(3, 2, "x"), api.ErrSeq)
	refuses(t, r, 6, 1, 3, insert(2, 1, "x"), api.ErrOp)
	silent(t, r)
	comes(t, r, 6, 1, 3, insert(3, 2, "x"), insert(5, 2, "x"))
	holds(t, r, 6, 3, "zaxb", "zaxpbq", insert(4, 3, "p"), runs(keep(5), add("q")))
	sends(t, r, 1, 6, 4, insert(4, 3, "p"))
	refuses(t, r, 7, 1, 4, insert(4, 2, "x"), api.ErrOp)
	comes(t, r, 7, 1, 4, insert(4, 3, "p"), nil)
	// And with nothing pending.
	sends(t, r, 1, 7, 5, runs(keep(5), add("q")))
	r.Drop()
	comes(t, r, 8, 1, 5, runs(keep(5), add("q")), runs(keep(5), add("q")))
	holds(t, r, 8, 5, "zaxpbq", "zaxpbq")
	silent(t, r)
}

// TestOrderOfComesErrors: what is not next is told ahead of what is no edit.
func TestOrderOfComesErrors(t *testing.T) {
	revs := map[int]bool{5: true, 4: false, 6: false, 0: false, -5: false, math.MinInt: false, math.MaxInt: false}
	seqs := map[int]bool{3: true, 2: false, 4: false, 0: false, -3: false, math.MinInt: false, math.MaxInt: false}
	first := insert(2, 1, "x")
	wrong := [][]api.Run{nil, runs(keep(3)), runs(keep(1)), runs(keep(1), keep(1)), runs(add("x")), {{}}, runs(keep(2), add(long)), runs(keep(math.MaxInt), keep(3))}
	for rev, okRev := range revs {
		for seq, okSeq := range seqs {
			for _, op := range append(wrong, runs(keep(2)), insert(2, 1, "y"), insert(2, 2, "x"), first) {
				r := made(t, 1, 4, 2, "ab", first, insert(3, 0, "y"))
				switch {
				case !okRev || !okSeq:
					refuses(t, r, rev, 1, seq, op, api.ErrSeq)
				case !edit.Same(op, first):
					refuses(t, r, rev, 1, seq, op, api.ErrOp)
				default:
					comes(t, r, rev, 1, seq, op, nil)
				}
				// Of another one's the Seq is nothing.
				r = made(t, 1, 4, 2, "ab", first)
				switch {
				case !okRev:
					refuses(t, r, rev, 0, seq, op, api.ErrSeq)
				case !edit.Good(op) || edit.In(op) != 2:
					refuses(t, r, rev, 0, seq, op, api.ErrOp)
				default:
					text, _ := run.Apply(op, "ab")
					if _, e := r.Come(rev, api.Entry{Client: 0, Seq: seq, Op: op}); e != api.OK || r.Base() != text {
						t.Fatalf("Come of %s: %d", brief(op), int(e))
					}
					sound(t, r)
				}
				// With nothing pending nothing of one's own is next.
				refuses(t, made(t, 1, 4, 2, "ab"), rev, 1, seq, op, api.ErrSeq)
			}
		}
	}
}

// TestTheGreatestNumbers: behind the greatest revision, and the greatest Seq, there is none.
func TestTheGreatestNumbers(t *testing.T) {
	op := runs(add("x"))
	r := made(t, 1, math.MaxInt, 2, "", op)
	for _, rev := range []int{math.MaxInt, math.MinInt, 0, -1, 1} {
		refuses(t, r, rev, 0, 1, op, api.ErrSeq)
		refuses(t, r, rev, 1, 3, op, api.ErrSeq)
	}
	sends(t, r, 1, math.MaxInt, 3, op)
	jumps(t, r, math.MaxInt, 3, "x", runs(keep(1)))
	r = made(t, 1, 4, math.MaxInt, "", op)
	for _, seq := range []int{math.MaxInt, math.MinInt, 0, -1, 1} {
		refuses(t, r, 5, 1, seq, op, api.ErrSeq)
	}
	silent(t, r)
	comes(t, r, 5, 0, 1, op, runs(add("x"), keep(1)))
	jumps(t, r, math.MaxInt, math.MaxInt, "y", runs(add("y"), drop(1), keep(1)))
	stays(t, r, math.MinInt, math.MinInt, "", api.ErrOld)
	r = made(t, 1, math.MaxInt-1, math.MaxInt-1, "", op)
	sends(t, r, 1, math.MaxInt-1, math.MaxInt, op)
	comes(t, r, math.MaxInt, 1, math.MaxInt, op, nil)
	stays(t, made(t, 1, 0, 0, "", op), math.MaxInt, math.MaxInt, "", api.ErrSeq)
}

// TestCrossRefuses: with what cross says all is as it was, also what is under way.
func TestCrossRefuses(t *testing.T) {
	r := made(t, 1, 4, 2, "ab", runs(keep(2), add(long[3:])))
	refuses(t, r, 5, 0, 1, runs(keep(2), add("xy")), api.ErrFull)
	sends(t, r, 1, 4, 3, runs(keep(2), add(long[3:])))
	refuses(t, r, 5, 0, 1, runs(keep(2), add("xy")), api.ErrFull)
	stays(t, r, 5, 2, "abxy", api.ErrFull)
	silent(t, r)
	comes(t, r, 5, 0, 1, runs(keep(2), add("x")), runs(keep(2), add("x"), keep(api.MaxText-3)))
	if len(r.Text()) != api.MaxText {
		t.Errorf("%d bytes", len(r.Text()))
	}
	// A second one that has no room, of two.
	r = made(t, 1, 4, 2, "ab", runs(keep(2), add("c")), runs(keep(3), add(long[4:])))
	sends(t, r, 1, 4, 3, runs(keep(2), add("c")))
	refuses(t, r, 5, 0, 1, runs(keep(2), add("xy")), api.ErrFull)
	// A jump that takes the first one, and whose text has no room then.
	stays(t, r, 5, 3, "abcxy", api.ErrFull)
	stays(t, r, 5, 2, "abxyz", api.ErrFull)
	silent(t, r)
	comes(t, r, 5, 1, 3, runs(keep(2), add("c")), nil)
	// One that is forgotten, with one pending that leaves no room: it is forgotten still.
	r = made(t, 1, 4, 2, "ab", runs(keep(2), add("xy")))
	sends(t, r, 1, 4, 3, runs(keep(2), add("xy")))
	r.Drop()
	edits(t, r, runs(keep(2), add(long[3:])))
	refuses(t, r, 5, 1, 3, runs(keep(2), add("xy")), api.ErrFull)
	stays(t, r, 5, 3, "abxy", api.ErrFull)
	silent(t, r)
	edits(t, r, runs(keep(2), drop(api.MaxText-3)))
	// Not the text behind all, but that of an edit on the way to it, is too long still.
	refuses(t, r, 5, 1, 3, runs(keep(2), add("xy")), api.ErrFull)
	jumps(t, r, 5, 3, "ab!", runs(keep(2), add("!")))
	sends(t, r, 1, 5, 4, runs(keep(3), add(long[3:])))
}

// TestMaxRuns: an edit that has too many runs behind another one's.
func TestMaxRuns(t *testing.T) {
	most := slices.Repeat(runs(keep(2), drop(2)), api.MaxRuns/2)
	n := edit.In(most)
	r := made(t, 1, 4, 2, long[:n], most)
	refuses(t, r, 5, 0, 1, insert(n, 3, "x"), api.ErrFull)
	comes(t, r, 5, 0, 1, insert(n, 1, "x"), insert(n/2, 1, "x"))
	comes(t, r, 6, 1, 3, slices.Concat(runs(keep(3)), most[1:]), nil)
}
