package rejoin_test

import (
	"fmt"
	"math"
	"slices"
	"strings"
	"testing"

	"variorum/api"
	"variorum/edit"
	"variorum/master"
	"variorum/message"
	"variorum/rejoin"
	"variorum/replica"
	"variorum/run"
)

func keep(n int) api.Run   { return api.Run{Keep: n} }
func add(s string) api.Run { return api.Run{Add: s} }
func drop(n int) api.Run   { return api.Run{Drop: n} }

func runs(l ...api.Run) []api.Run { return l }

// insert tells the edit of n bytes that adds a text behind at of them.
func insert(n, at int, s string) []api.Run { return edit.Norm(runs(keep(at), add(s), keep(n-at))) }

// long is a text of MaxText bytes.
var long = strings.Repeat("a", api.MaxText)

// anywhere are numbers that may stand anywhere.
var anywhere = []int{math.MinInt, -1, 0, 1, 2, api.MaxClients - 1, api.MaxClients, api.MaxNum, math.MaxInt}

// kinds are kinds of messages, and numbers that are none.
var kinds = []int{math.MinInt, -1, 0, api.MsgHello, api.MsgOp, api.MsgAck, api.MsgSnapshot, api.MsgNotes, api.MsgResync, api.MsgError, 8, math.MaxInt}

// brief tells anything in words, of great things the beginning.
func brief(l any) string {
	s := fmt.Sprint(l)
	return s[:min(len(s), 200)]
}

// is holds an error.
func is(t *testing.T, what string, got, want api.Errno) {
	t.Helper()
	if got != want {
		t.Fatalf("%s: %d; want %d", what, int(got), int(want))
	}
}

// says holds a message, all of its fields.
func says(t *testing.T, got, want api.Msg) {
	t.Helper()
	if !message.Same(got, want) {
		t.Fatalf("%s; want %s", brief(got), brief(want))
	}
}

// made tells a new replica with edits pending.
func made(t *testing.T, client, rev, seq int, text string, ops ...[]api.Run) *replica.Replica {
	t.Helper()
	r := replica.New(client, rev, seq, text)
	if r == nil {
		t.Fatalf("New(%d, %d, %d) of %d bytes: nil", client, rev, seq, len(text))
	}
	for _, op := range ops {
		is(t, "Edit", r.Edit(op), api.OK)
	}
	return r
}

// client is all that a replica tells, but for Next.
type client struct {
	text, base, pending string
	rev, seq            int
}

// all asks a replica for all that it tells.
func all(r *replica.Replica) client {
	return client{text: r.Text(), base: r.Base(), pending: fmt.Sprint(r.Pending()), rev: r.Rev(), seq: r.Seq()}
}

// unchanged holds that a replica tells what it told.
func unchanged(t *testing.T, r *replica.Replica, was client) {
	t.Helper()
	if now := all(r); now != was {
		t.Fatalf("changed: it was %s; it is %s", brief(was), brief(now))
	}
}

// holds holds all that a replica tells.
func holds(t *testing.T, r *replica.Replica, rev, seq int, base, text string, pending ...[]api.Run) {
	t.Helper()
	if r.Rev() != rev || r.Seq() != seq || r.Base() != base || r.Text() != text {
		t.Fatalf("Rev %d, Seq %d, Base %.80q, Text %.80q; want %d, %d, %.80q, %.80q", r.Rev(), r.Seq(), r.Base(), r.Text(), rev, seq, base, text)
	}
	if l := r.Pending(); !slices.EqualFunc(l, pending, edit.Same) {
		t.Fatalf("Pending %s; want %s", brief(l), brief(pending))
	}
}

// sends holds what Next tells, and that it tells nothing then.
func sends(t *testing.T, r *replica.Replica, client, rev, seq int, op []api.Run) {
	t.Helper()
	m, ok := r.Next()
	if !ok {
		t.Fatalf("Next: nothing; want %s", brief(op))
	}
	says(t, m, api.Msg{Kind: api.MsgOp, Client: client, Rev: rev, Seq: seq, Op: op})
	silent(t, r)
}

// silent holds that Next tells nothing.
func silent(t *testing.T, r *replica.Replica) {
	t.Helper()
	if m, ok := r.Next(); ok {
		t.Fatalf("Next: %s", brief(m))
	}
}

// catches holds that a message is caught, and what is told of it.
func catches(t *testing.T, r *replica.Replica, x api.Msg, want []api.Run) {
	t.Helper()
	was := r.Text()
	op, e := rejoin.Catch(r, x)
	is(t, "Catch of "+brief(x), e, api.OK)
	if !edit.Same(op, want) {
		t.Fatalf("Catch of %s: %s; want %s", brief(x), brief(op), brief(want))
	}
	if len(op) == 0 && was == r.Text() {
		return
	}
	if text, e := run.Apply(op, was); e != api.OK || text != r.Text() {
		t.Fatalf("%s makes %.80q of %.80q, %d; the text is %.80q", brief(op), text, was, int(e), r.Text())
	}
}

// refuses holds that a message is not caught, and changes nothing.
func refuses(t *testing.T, r *replica.Replica, x api.Msg, want api.Errno) {
	t.Helper()
	was := all(r)
	if op, e := rejoin.Catch(r, x); e != want || len(op) != 0 {
		t.Fatalf("Catch of %s: %s, %d; want %d", brief(x), brief(op), int(e), int(want))
	}
	unchanged(t, r, was)
}

// takenOf tells the message of an entry.
func takenOf(client, seq, rev int, op []api.Run) api.Msg {
	return api.Msg{Kind: api.MsgOp, Client: client, Seq: seq, Rev: rev, Op: op}
}

// ack tells the message that all is told.
func ack(rev, seq int) api.Msg { return api.Msg{Kind: api.MsgAck, Rev: rev, Seq: seq} }

// snapshot tells the message of a whole text.
func snapshot(rev, seq int, text string) api.Msg {
	return api.Msg{Kind: api.MsgSnapshot, Rev: rev, Seq: seq, Text: text}
}

// hello tells what a client says.
func hello(client, epoch, rev, seq int) api.Msg {
	return api.Msg{Kind: api.MsgHello, Client: client, Epoch: epoch, Rev: rev, Seq: seq}
}

// nones are replicas that no call made.
func nones() map[string]*replica.Replica {
	return map[string]*replica.Replica{"nil": nil, "plain": {}}
}

// P21.1

func TestHello(t *testing.T) {
	forgetful := made(t, 2, 9, 4, "ab", insert(2, 1, "x"))
	sends(t, forgetful, 2, 9, 5, insert(2, 1, "x"))
	forgetful.Drop()
	under := made(t, 3, api.MaxNum, math.MaxInt-1, "ab", insert(2, 0, "x"), insert(3, 0, "y"))
	sends(t, under, 3, api.MaxNum, math.MaxInt, insert(2, 0, "x"))
	for name, r := range map[string]*replica.Replica{
		"new":       made(t, 0, 0, 0, ""),
		"pending":   made(t, 63, 5, 3, "ab", insert(2, 1, "x"), runs(drop(3))),
		"greatest":  made(t, 1, math.MaxInt, math.MaxInt, long),
		"under way": under,
		"forgotten": forgetful,
	} {
		was := all(r)
		for _, client := range anywhere {
			for _, epoch := range anywhere {
				says(t, rejoin.Hello(r, client, epoch), hello(client, epoch, r.Rev(), r.Seq()))
			}
		}
		unchanged(t, r, was)
		if name == "pending" {
			sends(t, r, 63, 5, 4, insert(2, 1, "x"))
			continue
		}
		silent(t, r)
	}
	// What was under way is so still, and what was forgotten too.
	catches(t, forgetful, takenOf(2, 5, 10, insert(2, 1, "x")), insert(2, 1, "x"))
	catches(t, under, ack(api.MaxNum, math.MaxInt-1), nil)
	sends(t, under, 3, api.MaxNum, math.MaxInt, insert(2, 0, "x"))
}

// TestHelloFollows: it tells the Rev and Seq that are, as more comes.
func TestHelloFollows(t *testing.T) {
	r := made(t, 1, 0, 0, "")
	says(t, rejoin.Hello(r, 1, 1), hello(1, 1, 0, 0))
	catches(t, r, takenOf(0, 7, 1, runs(add("a"))), runs(add("a")))
	says(t, rejoin.Hello(r, 1, 2), hello(1, 2, 1, 0))
	is(t, "Edit", r.Edit(insert(1, 1, "b")), api.OK)
	says(t, rejoin.Hello(r, 1, 3), hello(1, 3, 1, 0))
	catches(t, r, takenOf(1, 1, 2, insert(1, 1, "b")), nil)
	says(t, rejoin.Hello(r, 1, 4), hello(1, 4, 2, 1))
	catches(t, r, snapshot(12, 1, "x"), runs(add("x"), drop(2)))
	says(t, rejoin.Hello(r, 1, 4), hello(1, 4, 12, 1))
	r.Drop()
	says(t, rejoin.Hello(r, 1, 5), hello(1, 5, 12, 1))
}

func TestHelloOfNone(t *testing.T) {
	for name, r := range nones() {
		for _, client := range anywhere {
			for _, epoch := range anywhere {
				if m := rejoin.Hello(r, client, epoch); !message.Same(m, api.Msg{}) {
					t.Errorf("%s: %s", name, brief(m))
				}
			}
		}
	}
}

// P21.3

func TestCatchOfNone(t *testing.T) {
	for _, r := range nones() {
		for _, kind := range kinds {
			for _, n := range anywhere {
				refuses(t, r, api.Msg{Kind: kind, Client: n, Rev: n, Seq: n, Op: runs(add("a")), Text: "a"}, api.ErrNil)
			}
			refuses(t, r, api.Msg{Kind: kind}, api.ErrNil)
		}
	}
}

// TestCatchOfOtherKinds: what is no Op, Ack or Snapshot is refused, whatever else it has.
func TestCatchOfOtherKinds(t *testing.T) {
	r := made(t, 1, 4, 2, "ab", insert(2, 1, "x"))
	sends(t, r, 1, 4, 3, insert(2, 1, "x"))
	for _, kind := range kinds {
		if kind == api.MsgOp || kind == api.MsgAck || kind == api.MsgSnapshot {
			continue
		}
		refuses(t, r, api.Msg{Kind: kind}, api.ErrArg)
		refuses(t, r, api.Msg{Kind: kind, Rev: 4, Seq: 2}, api.ErrArg)
		refuses(t, r, api.Msg{Kind: kind, Rev: 5, Op: insert(2, 0, "y")}, api.ErrArg)
		refuses(t, r, api.Msg{Kind: kind, Client: 1, Rev: 5, Seq: 3, Op: insert(2, 1, "x"), Text: "ab"}, api.ErrArg)
		refuses(t, r, api.Msg{Kind: kind, Client: 1, Epoch: 1, Rev: 4, Seq: 2, Code: 1, Text: long + "a"}, api.ErrArg)
	}
	silent(t, r)
}

func TestCatchOfOp(t *testing.T) {
	x, y := insert(2, 1, "x"), insert(3, 3, "y")
	r := made(t, 1, 4, 2, "ab", x, y)
	sends(t, r, 1, 4, 3, x)
	// Another one's, of whatever Seq: it stands first.
	catches(t, r, takenOf(0, 9, 5, insert(2, 1, "o")), runs(keep(1), add("o"), keep(3)))
	holds(t, r, 5, 2, "aob", "aoxby", insert(3, 2, "x"), insert(4, 4, "y"))
	silent(t, r)
	// One's own: nothing is told, and nothing is under way.
	catches(t, r, takenOf(1, 3, 6, insert(3, 2, "x")), nil)
	holds(t, r, 6, 3, "aoxb", "aoxby", insert(4, 4, "y"))
	sends(t, r, 1, 6, 4, insert(4, 4, "y"))
	catches(t, r, takenOf(63, 1, 7, runs(drop(4))), runs(drop(4), keep(1)))
	catches(t, r, takenOf(1, 4, 8, runs(add("y"))), nil)
	holds(t, r, 8, 4, "y", "y")
}

// TestCatchOfOpForgotten: one's own that was dropped comes as another one's does.
func TestCatchOfOpForgotten(t *testing.T) {
	r := made(t, 1, 4, 2, "ab", insert(2, 1, "x"))
	sends(t, r, 1, 4, 3, insert(2, 1, "x"))
	r.Drop()
	is(t, "Edit", r.Edit(insert(2, 1, "z")), api.OK)
	catches(t, r, takenOf(1, 3, 5, insert(2, 1, "x")), runs(keep(1), add("x"), keep(2)))
	holds(t, r, 5, 3, "axb", "axzb", insert(3, 2, "z"))
	sends(t, r, 1, 5, 4, insert(3, 2, "z"))
}

func TestRefusedOps(t *testing.T) {
	x := insert(2, 1, "x")
	r := made(t, 1, 4, 2, "ab", x, insert(3, 3, "y"))
	sends(t, r, 1, 4, 3, x)
	for _, rev := range []int{math.MinInt, -1, 0, 3, 4, 6, math.MaxInt} {
		refuses(t, r, takenOf(0, 1, rev, insert(2, 0, "o")), api.ErrSeq)
		refuses(t, r, takenOf(1, 3, rev, x), api.ErrSeq)
		refuses(t, r, takenOf(0, 1, rev, nil), api.ErrSeq)
	}
	for _, seq := range []int{math.MinInt, -1, 0, 2, 4, math.MaxInt} {
		refuses(t, r, takenOf(1, seq, 5, x), api.ErrSeq)
	}
	for _, op := range [][]api.Run{nil, insert(3, 1, "x"), runs(keep(2), keep(0)), runs(keep(-2)), runs(drop(3))} {
		refuses(t, r, takenOf(0, 1, 5, op), api.ErrOp)
		refuses(t, r, takenOf(1, 3, 5, op), api.ErrOp)
	}
	refuses(t, r, takenOf(1, 3, 5, insert(2, 1, "z")), api.ErrOp)
	silent(t, r)
	catches(t, r, takenOf(1, 3, 5, x), nil)
	// With nothing pending there is none of one's own.
	refuses(t, made(t, 1, 4, 2, "ab"), takenOf(1, 3, 5, x), api.ErrSeq)
}

// TestCatchOfAck: it must be of just what the replica has; then nothing is under way any more.
func TestCatchOfAck(t *testing.T) {
	x, y := insert(2, 1, "x"), insert(3, 3, "y")
	r := made(t, 1, 4, 2, "ab", x, y)
	sends(t, r, 1, 4, 3, x)
	was := all(r)
	for _, rev := range []int{math.MinInt, -1, 0, 2, 3, 4, 5, math.MaxInt} {
		for _, seq := range []int{math.MinInt, -1, 0, 1, 2, 3, 4, math.MaxInt} {
			if rev != 4 || seq != 2 {
				refuses(t, r, ack(rev, seq), api.ErrSeq)
			}
		}
	}
	silent(t, r)
	for range 2 {
		catches(t, r, ack(4, 2), nil)
		unchanged(t, r, was)
	}
	sends(t, r, 1, 4, 3, x)
	// It is the Rev and Seq that are by now.
	catches(t, r, takenOf(0, 1, 5, insert(2, 0, "o")), insert(4, 0, "o"))
	catches(t, r, takenOf(1, 3, 6, insert(3, 2, "x")), nil)
	refuses(t, r, ack(4, 2), api.ErrSeq)
	refuses(t, r, ack(6, 2), api.ErrSeq)
	refuses(t, r, ack(5, 3), api.ErrSeq)
	catches(t, r, ack(6, 3), nil)
	sends(t, r, 1, 6, 4, insert(4, 4, "y"))
	// Of nothing pending, and of a new one.
	catches(t, made(t, 0, 0, 0, ""), ack(0, 0), nil)
	catches(t, made(t, 63, math.MaxInt, math.MaxInt, "a"), ack(math.MaxInt, math.MaxInt), nil)
}

// TestCatchOfAckForgotten: what was dropped while it was under way is forgotten no more.
func TestCatchOfAckForgotten(t *testing.T) {
	x, z := insert(2, 1, "x"), insert(2, 1, "z")
	r := made(t, 1, 4, 2, "ab", x)
	sends(t, r, 1, 4, 3, x)
	r.Drop()
	is(t, "Edit", r.Edit(z), api.OK)
	refuses(t, r, ack(4, 3), api.ErrSeq)
	silent(t, r)
	catches(t, r, ack(4, 2), nil)
	holds(t, r, 4, 2, "ab", "azb", z)
	refuses(t, r, takenOf(1, 3, 5, x), api.ErrOp)
	sends(t, r, 1, 4, 3, z)
	r = made(t, 1, 4, 2, "ab", x)
	sends(t, r, 1, 4, 3, x)
	r.Drop()
	catches(t, r, ack(4, 2), nil)
	refuses(t, r, takenOf(1, 3, 5, x), api.ErrSeq)
	refuses(t, r, snapshot(5, 3, "axb"), api.ErrSeq)
}

// TestCatchOfSnapshot: with edits pending of which none, some and all were taken.
func TestCatchOfSnapshot(t *testing.T) {
	ops := [][]api.Run{insert(2, 1, "x"), insert(3, 3, "y"), runs(keep(2), drop(2))}
	for _, under := range []bool{false, true} {
		start := func() *replica.Replica {
			r := made(t, 1, 4, 2, "ab", ops...)
			if under {
				sends(t, r, 1, 4, 3, ops[0])
			}
			return r
		}
		for taken, text := range []string{"Zab", "Zaxb", "Zaxby", "Zax"} {
			r := start()
			catches(t, r, snapshot(7, 2+taken, text), runs(add("Z"), keep(2)))
			var left [][]api.Run
			for _, op := range ops[taken:] {
				left = append(left, edit.Norm(append(runs(keep(1)), op...)))
			}
			holds(t, r, 7, 2+taken, text, "Zax", left...)
			if taken < len(ops) {
				sends(t, r, 1, 7, 3+taken, left[0])
			}
			silent(t, r)
		}
		r := start()
		refuses(t, r, snapshot(7, 6, "Zax"), api.ErrSeq)
		if under {
			silent(t, r)
		}
	}
	r := made(t, 1, 4, 2, "ab")
	catches(t, r, snapshot(4, 2, "ab"), runs(keep(2)))
	catches(t, r, snapshot(5, 2, ""), runs(drop(2)))
	catches(t, r, snapshot(5, 2, ""), nil)
	catches(t, r, snapshot(math.MaxInt, 2, long), runs(add(long)))
	holds(t, r, math.MaxInt, 2, long, long)
}

// TestCatchOfSnapshotForgotten: the one that was dropped counts first.
func TestCatchOfSnapshotForgotten(t *testing.T) {
	for seq, want := range map[int]struct {
		text string
		told []api.Run
		left [][]api.Run
	}{
		2: {"ab", runs(keep(3)), [][]api.Run{insert(2, 2, "z")}},
		3: {"axb", insert(3, 1, "x"), [][]api.Run{insert(3, 3, "z")}},
		4: {"axbz", insert(3, 1, "x"), nil},
	} {
		r := made(t, 1, 4, 2, "ab", insert(2, 1, "x"))
		sends(t, r, 1, 4, 3, insert(2, 1, "x"))
		r.Drop()
		is(t, "Edit", r.Edit(insert(2, 2, "z")), api.OK)
		refuses(t, r, snapshot(9, 5, "axbz"), api.ErrSeq)
		silent(t, r)
		catches(t, r, snapshot(9, seq, want.text), want.told)
		refuses(t, r, snapshot(9, seq+len(want.left)+1, want.text), api.ErrSeq)
		if len(want.left) > 0 {
			sends(t, r, 1, 9, seq+1, want.left[0])
		}
		silent(t, r)
	}
}

// TestRefusedSnapshots: what the replica's Jump refuses, in its order.
func TestRefusedSnapshots(t *testing.T) {
	r := made(t, 1, 4, 2, "ab", insert(2, 1, "x"))
	sends(t, r, 1, 4, 3, insert(2, 1, "x"))
	for _, rev := range []int{math.MinInt, -1, 0, 3, 4, 9, math.MaxInt} {
		for _, seq := range []int{math.MinInt, -1, 0, 1, 2, 3, 4, math.MaxInt} {
			for _, text := range []string{"ab", long + "a"} {
				switch {
				case rev < 4 || seq < 2:
					refuses(t, r, snapshot(rev, seq, text), api.ErrOld)
				case seq > 3:
					refuses(t, r, snapshot(rev, seq, text), api.ErrSeq)
				case len(text) > api.MaxText:
					refuses(t, r, snapshot(rev, seq, text), api.ErrFull)
				}
			}
		}
	}
	silent(t, r)
	// A text that has no room for what is pending.
	refuses(t, r, snapshot(5, 2, long), api.ErrFull)
	silent(t, r)
	catches(t, r, snapshot(5, 3, "b"), runs(drop(2), keep(1)))
}

// TestCatchTellsWhatTheReplicaTells: of a twin that is asked itself.
func TestCatchTellsWhatTheReplicaTells(t *testing.T) {
	for rev := 3; rev <= 6; rev++ {
		for seq := 1; seq <= 4; seq++ {
			for client := range 3 {
				for _, op := range [][]api.Run{nil, insert(2, 1, "x"), insert(2, 1, "y"), insert(3, 0, "y")} {
					r, twin := made(t, 1, 4, 2, "ab", insert(2, 1, "x")), made(t, 1, 4, 2, "ab", insert(2, 1, "x"))
					got, e := rejoin.Catch(r, takenOf(client, seq, rev, op))
					want, wantE := twin.Come(rev, api.Entry{Client: client, Seq: seq, Op: op})
					if e != wantE || !edit.Same(got, want) || all(r) != all(twin) {
						t.Fatalf("of an Op of %d, %d, %d, %s: %s, %d; want %s, %d", client, seq, rev, brief(op), brief(got), int(e), brief(want), int(wantE))
					}
					text := fmt.Sprint("t", client, op)
					got, e = rejoin.Catch(r, snapshot(rev, seq, text))
					want, wantE = twin.Jump(rev, seq, text)
					if e != wantE || !edit.Same(got, want) || all(r) != all(twin) {
						t.Fatalf("of a Snapshot of %d, %d: %s, %d; want %s, %d", rev, seq, brief(got), int(e), brief(want), int(wantE))
					}
				}
			}
		}
	}
}

// Shared lists

// TestCaughtStays: what was handed in, its spare room, and what was told, is as it was while more comes.
func TestCaughtStays(t *testing.T) {
	room := append(insert(2, 1, "o"), keep(7), add("room"))
	handed := slices.Clone(room)
	own := append(insert(3, 2, "x"), drop(9))
	handedOwn := slices.Clone(own)
	r := made(t, 1, 4, 2, "ab", insert(2, 1, "x"), insert(3, 3, "y"))
	var told [][]api.Run
	var kept []string
	catch := func(x api.Msg) {
		t.Helper()
		op, e := rejoin.Catch(r, x)
		is(t, "Catch", e, api.OK)
		told, kept = append(told, op), append(kept, fmt.Sprint(op))
	}
	catch(takenOf(0, 1, 5, room[:3]))
	catch(takenOf(1, 3, 6, own[:3]))
	catch(ack(6, 3))
	catch(snapshot(7, 3, "Zaoxb"))
	is(t, "Edit", r.Edit(runs(add("q"), drop(6))), api.OK)
	catch(takenOf(5, 1, 8, runs(drop(5))))
	catch(snapshot(9, 5, "other"))
	if !slices.Equal(room, handed) || !slices.Equal(own, handedOwn) {
		t.Errorf("handed in: %v, %v", room, own)
	}
	for i, op := range told {
		if fmt.Sprint(op) != kept[i] {
			t.Errorf("told %d: %v; it was %s", i, op, kept[i])
		}
	}
	holds(t, r, 9, 5, "other", "other")
}

// TestCaughtOpIsNotKept: who changes an edit that was handed in, or told, changes no replica.
func TestCaughtOpIsNotKept(t *testing.T) {
	r := made(t, 1, 4, 2, "ab", insert(2, 1, "x"))
	op := insert(2, 1, "o")
	got, e := rejoin.Catch(r, takenOf(0, 1, 5, op))
	is(t, "Catch", e, api.OK)
	was := all(r)
	clear(got)
	if !slices.Equal(op, insert(2, 1, "o")) {
		t.Errorf("%v", op)
	}
	clear(op)
	unchanged(t, r, was)
	own := insert(3, 2, "x")
	catches(t, r, takenOf(1, 3, 6, own), nil)
	clear(own)
	holds(t, r, 6, 3, "aoxb", "aoxb")
}

// Of a master that no call made

func TestWelcomeOfNone(t *testing.T) {
	for name, m := range map[string]*master.Master{"nil": nil, "plain": {}} {
		for _, kind := range kinds {
			for _, n := range anywhere {
				for _, h := range []api.Msg{{Kind: kind}, {Kind: kind, Client: n}, {Kind: kind, Rev: n}, {Kind: kind, Seq: n}, {Kind: kind, Client: n, Rev: n, Seq: n, Epoch: n}} {
					if l, e := rejoin.Welcome(m, h); e != api.ErrNil || len(l) != 0 {
						t.Errorf("%s: %s: %s, %d", name, brief(h), brief(l), int(e))
					}
				}
			}
		}
		if len(m.Members()) != 0 {
			t.Errorf("%s: %v", name, m.Members())
		}
	}
}
