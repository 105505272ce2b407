package room_test

import (
	"fmt"
	"math"
	"slices"
	"strings"
	"testing"

	"variorum/api"
	"variorum/edit"
	"variorum/room"
	"variorum/run"
)

func keep(n int) api.Run   { return api.Run{Keep: n} }
func add(s string) api.Run { return api.Run{Add: s} }
func drop(n int) api.Run   { return api.Run{Drop: n} }

func runs(l ...api.Run) []api.Run { return l }

// insert tells the edit of n bytes that adds a text at a place.
func insert(n, at int, s string) []api.Run {
	return edit.Norm(runs(keep(at), add(s), keep(n-at)))
}

// long is a text of MaxText bytes.
var long = strings.Repeat("a", api.MaxText)

// outside are numbers of no client, in a room of so many.
func outside(clients int) []int {
	return []int{math.MinInt, -clients, -1, clients, clients + 1, api.MaxClients, api.MaxClients + 1, math.MaxInt}
}

// brief tells anything in words, of great things the beginning.
func brief(l any) string {
	s := fmt.Sprint(l)
	return s[:min(len(s), 200)]
}

// made tells a new room.
func made(t *testing.T, text string, clients, most int) *room.Room {
	t.Helper()
	r := room.New(text, clients, most)
	if r == nil {
		t.Fatalf("New of %d bytes, %d, %d: nil", len(text), clients, most)
	}
	return r
}

// is holds an error.
func is(t *testing.T, what string, got, want api.Errno) {
	t.Helper()
	if got != want {
		t.Fatalf("%s: %d; want %d", what, int(got), int(want))
	}
}

// edits holds that a client does an edit, and how much is up then.
func edits(t *testing.T, r *room.Room, client int, op []api.Run, up int) {
	t.Helper()
	text, ok := r.Text(client)
	want, e := run.Apply(op, text)
	_, down := r.Queued(client)
	if got := r.Edit(client, op); got != api.OK || e != api.OK || !ok {
		t.Fatalf("Edit(%d, %s): %d", client, brief(op), int(got))
	}
	shows(t, r, client, want)
	queued(t, r, client, up, down)
	if r.Quiet() {
		t.Fatal("quiet behind an edit")
	}
}

// shows holds a client's text.
func shows(t *testing.T, r *room.Room, client int, want string) {
	t.Helper()
	if text, ok := r.Text(client); text != want || !ok {
		t.Fatalf("Text(%d): %.80q, %t; want %.80q", client, text, ok, want)
	}
}

// queued holds how much is on a client's ways.
func queued(t *testing.T, r *room.Room, client, up, down int) {
	t.Helper()
	if u, d := r.Queued(client); u != up || d != down {
		t.Fatalf("Queued(%d): %d, %d; want %d, %d", client, u, d, up, down)
	}
}

// serves holds the master's text, and whose entries are in the log, by their Seqs.
func serves(t *testing.T, r *room.Room, text string, entries ...[2]int) {
	t.Helper()
	var got [][2]int
	for _, x := range r.Log() {
		got = append(got, [2]int{x.Client, x.Seq})
	}
	if r.Server() != text || !slices.Equal(got, entries) {
		t.Fatalf("%.80q, %v; want %.80q, %v", r.Server(), got, text, entries)
	}
}

// told is all that a room tells.
type told struct {
	server, log string
	clients     string
	quiet       bool
}

// all asks a room for all that it tells.
func all(r *room.Room) told {
	x := told{server: r.Server(), log: fmt.Sprint(r.Log()), quiet: r.Quiet()}
	for n := range api.MaxClients {
		text, ok := r.Text(n)
		up, down := r.Queued(n)
		x.clients += fmt.Sprint(text, ok, up, down, "; ")
	}
	return x
}

// unchanged holds that a room tells what it told.
func unchanged(t *testing.T, r *room.Room, was told) {
	t.Helper()
	if now := all(r); now != was {
		t.Fatalf("changed: it was %s; it is %s", brief(was), brief(now))
	}
}

// bars holds that a call has an error, and changes nothing.
func bars(t *testing.T, r *room.Room, what string, call func() api.Errno, want api.Errno) {
	t.Helper()
	was := all(r)
	is(t, what, call(), want)
	unchanged(t, r, was)
}

func TestExample(t *testing.T) {
	for first, want := range []string{"axyb", "ayxb"} {
		r := made(t, "ab", 2, 10)
		edits(t, r, 0, insert(2, 1, "x"), 1)
		edits(t, r, 1, insert(2, 1, "y"), 1)
		is(t, "Up", r.Up(first), api.OK)
		settles(t, r)
		serves(t, r, want, [2]int{first, 1}, [2]int{1 - first, 1})
		shows(t, r, 0, want)
		shows(t, r, 1, want)
	}
	r := made(t, "ab", 2, 10)
	edits(t, r, 0, insert(2, 1, "x"), 1)
	edits(t, r, 1, insert(2, 1, "y"), 1)
	settles(t, r)
	serves(t, r, "axyb", [2]int{0, 1}, [2]int{1, 1})
}

// P20.1

func TestNew(t *testing.T) {
	for clients, some := range map[int]bool{math.MinInt: false, -1: false, 0: false, 1: true, 2: true, api.MaxClients - 1: true, api.MaxClients: true, api.MaxClients + 1: false, math.MaxInt: false} {
		for most, keeps := range map[int]bool{math.MinInt: false, -1: false, 0: false, 1: true, api.MaxHistory: true, api.MaxHistory + 1: false, math.MaxInt: false} {
			for text, fits := range map[string]bool{"": true, "ab": true, long: true, long + "a": false} {
				r := room.New(text, clients, most)
				if (r != nil) != (some && keeps && fits) {
					t.Fatalf("New of %d bytes, %d, %d: %t", len(text), clients, most, r != nil)
				}
				if r == nil {
					continue
				}
				serves(t, r, text)
				for _, n := range []int{0, clients - 1} {
					shows(t, r, n, text)
					queued(t, r, n, 0, 0)
				}
				if s, ok := r.Text(clients); s != "" || ok || !r.Quiet() {
					t.Errorf("Text(%d): %.20q, %t; Quiet %t", clients, s, ok, r.Quiet())
				}
			}
		}
	}
}

func TestEdit(t *testing.T) {
	r := made(t, "abc", 3, 10)
	op := runs(keep(1), add("x"), drop(1), keep(1))
	for _, n := range outside(3) {
		for _, op := range [][]api.Run{op, nil, runs(keep(9))} {
			bars(t, r, "Edit of none", func() api.Errno { return r.Edit(n, op) }, api.ErrClient)
		}
	}
	// What is no edit goes nowhere.
	for _, op := range [][]api.Run{nil, runs(keep(2)), runs(keep(4)), runs(keep(3), add("")), runs(drop(1), add("x"), keep(2)), runs(drop(-3)), runs(keep(math.MaxInt), keep(4))} {
		bars(t, r, "Edit of no edit", func() api.Errno { return r.Edit(2, op) }, api.ErrOp)
	}
	// The first one goes up; the others wait until it comes back.
	edits(t, r, 2, op, 1)
	edits(t, r, 2, runs(keep(3), add("y")), 1)
	edits(t, r, 2, runs(drop(4)), 1)
	bars(t, r, "Edit of no edit", func() api.Errno { return r.Edit(2, op) }, api.ErrOp)
	edits(t, r, 0, runs(keep(3), add("z")), 1)
	shows(t, r, 0, "abcz")
	shows(t, r, 1, "abc")
	shows(t, r, 2, "")
	queued(t, r, 1, 0, 0)
	serves(t, r, "abc")
}

// TestEditWithWindow: MaxWindow edits, one more, and one when the first was taken.
func TestEditWithWindow(t *testing.T) {
	r := made(t, "", 2, api.MaxHistory)
	for i := range api.MaxWindow {
		edits(t, r, 1, insert(i, i, "x"), 1)
	}
	more := func() api.Errno { return r.Edit(1, insert(api.MaxWindow, 0, "y")) }
	bars(t, r, "Edit of one more", more, api.ErrWindow)
	bars(t, r, "Edit of no edit", func() api.Errno { return r.Edit(1, nil) }, api.ErrOp)
	is(t, "Up", r.Up(1), api.OK)
	bars(t, r, "Edit of one more", more, api.ErrWindow)
	edits(t, r, 0, runs(add("z")), 1)
	is(t, "Down", r.Down(1), api.OK)
	queued(t, r, 1, 2, 0)
	edits(t, r, 1, insert(api.MaxWindow, 0, "y"), 2)
	bars(t, r, "Edit of one more", more, api.ErrOp)
	bars(t, r, "Edit of one more", func() api.Errno { return r.Edit(1, runs(drop(api.MaxWindow+1))) }, api.ErrWindow)
	settles(t, r)
	if len(r.Log()) != api.MaxWindow+2 {
		t.Errorf("%d entries", len(r.Log()))
	}
}

// P20.2

func TestUp(t *testing.T) {
	r := made(t, "ab", 3, 10)
	for _, n := range outside(3) {
		bars(t, r, "Up of none", func() api.Errno { return r.Up(n) }, api.ErrClient)
	}
	for n := range 3 {
		bars(t, r, "Up of nothing", func() api.Errno { return r.Up(n) }, api.ErrEnd)
	}
	edits(t, r, 1, insert(2, 1, "x"), 1)
	edits(t, r, 2, insert(2, 1, "y"), 1)
	bars(t, r, "Up of nothing", func() api.Errno { return r.Up(0) }, api.ErrEnd)
	// What the master takes goes down to all, also to the one whose it is.
	is(t, "Up", r.Up(2), api.OK)
	serves(t, r, "ayb", [2]int{2, 1})
	queued(t, r, 0, 0, 1)
	queued(t, r, 1, 1, 1)
	queued(t, r, 2, 0, 1)
	shows(t, r, 0, "ab")
	shows(t, r, 1, "axb")
	shows(t, r, 2, "ayb")
	bars(t, r, "Up of nothing", func() api.Errno { return r.Up(2) }, api.ErrEnd)
	// What was sent ahead of that goes behind it.
	is(t, "Up", r.Up(1), api.OK)
	serves(t, r, "ayxb", [2]int{2, 1}, [2]int{1, 1})
	if op := r.Log()[1].Op; !slices.Equal(op, insert(3, 2, "x")) {
		t.Errorf("%v", op)
	}
	for n := range 3 {
		queued(t, r, n, 0, 2)
	}
}

// TestUpOfAck: the master knows then what was seen, and nothing goes down.
func TestUpOfAck(t *testing.T) {
	r := made(t, "", 2, 1)
	edits(t, r, 0, runs(add("a")), 1)
	is(t, "Up", r.Up(0), api.OK)
	is(t, "Down", r.Down(0), api.OK)
	is(t, "Down", r.Down(1), api.OK)
	queued(t, r, 0, 1, 0)
	queued(t, r, 1, 1, 0)
	edits(t, r, 0, runs(keep(1), add("b")), 2)
	is(t, "Up of an acknowledgement", r.Up(0), api.OK)
	queued(t, r, 0, 1, 0)
	// The other one's is not there yet.
	is(t, "Up without room", r.Up(0), api.ErrFull)
	is(t, "Up of an acknowledgement", r.Up(1), api.OK)
	queued(t, r, 1, 0, 0)
	serves(t, r, "a", [2]int{0, 1})
	is(t, "Up", r.Up(0), api.OK)
	serves(t, r, "ab", [2]int{0, 1}, [2]int{0, 2})
	queued(t, r, 0, 0, 1)
	queued(t, r, 1, 0, 1)
}

// TestUpWithoutRoom: what the journal has no room for is sent again, behind what is up, as it is by then.
func TestUpWithoutRoom(t *testing.T) {
	r := made(t, "ab", 2, 1)
	edits(t, r, 0, insert(2, 1, "x"), 1)
	edits(t, r, 1, insert(2, 1, "y"), 1)
	edits(t, r, 1, insert(3, 2, "z"), 1)
	is(t, "Up", r.Up(0), api.OK)
	was := all(r)
	for range 3 {
		is(t, "Up without room", r.Up(1), api.ErrFull)
		unchanged(t, r, was)
	}
	is(t, "Down", r.Down(0), api.OK)
	is(t, "Up of an acknowledgement", r.Up(0), api.OK)
	is(t, "Down", r.Down(1), api.OK)
	shows(t, r, 1, "axyzb")
	queued(t, r, 1, 2, 0)
	// The edit was up ahead of the acknowledgement; it is behind it then.
	is(t, "Up without room", r.Up(1), api.ErrFull)
	queued(t, r, 1, 2, 0)
	serves(t, r, "axb", [2]int{0, 1})
	is(t, "Up of an acknowledgement", r.Up(1), api.OK)
	queued(t, r, 1, 1, 0)
	serves(t, r, "axb", [2]int{0, 1})
	is(t, "Up", r.Up(1), api.OK)
	serves(t, r, "axyb", [2]int{0, 1}, [2]int{1, 1})
	queued(t, r, 0, 0, 1)
	queued(t, r, 1, 0, 1)
	if op := r.Log()[1].Op; !slices.Equal(op, insert(3, 2, "y")) {
		t.Errorf("%v", op)
	}
	settles(t, r)
	serves(t, r, "axyzb", [2]int{0, 1}, [2]int{1, 1}, [2]int{1, 2})
}

// P20.3

func TestDown(t *testing.T) {
	r := made(t, "ab", 3, 10)
	for _, n := range outside(3) {
		bars(t, r, "Down of none", func() api.Errno { return r.Down(n) }, api.ErrClient)
	}
	for n := range 3 {
		bars(t, r, "Down of nothing", func() api.Errno { return r.Down(n) }, api.ErrEnd)
	}
	edits(t, r, 0, insert(2, 1, "x"), 1)
	edits(t, r, 1, insert(2, 1, "y"), 1)
	edits(t, r, 1, insert(3, 2, "z"), 1)
	bars(t, r, "Down of nothing", func() api.Errno { return r.Down(1) }, api.ErrEnd)
	is(t, "Up", r.Up(1), api.OK)
	serves(t, r, "ayb", [2]int{1, 1})
	// Of its own: behind the acknowledgement goes what waited.
	is(t, "Down of its own", r.Down(1), api.OK)
	shows(t, r, 1, "ayzb")
	queued(t, r, 1, 2, 0)
	is(t, "Up of an acknowledgement", r.Up(1), api.OK)
	serves(t, r, "ayb", [2]int{1, 1})
	is(t, "Up", r.Up(1), api.OK)
	serves(t, r, "ayzb", [2]int{1, 1}, [2]int{1, 2})
	queued(t, r, 1, 0, 1)
	is(t, "Down of its own", r.Down(1), api.OK)
	queued(t, r, 1, 1, 0)
	// Of another one's: its own is under way still.
	queued(t, r, 0, 1, 2)
	is(t, "Down of another one's", r.Down(0), api.OK)
	shows(t, r, 0, "ayxb")
	queued(t, r, 0, 2, 1)
	is(t, "Down of another one's", r.Down(0), api.OK)
	shows(t, r, 0, "ayzxb")
	queued(t, r, 0, 3, 0)
	// Of one that did nothing: the acknowledgement alone.
	is(t, "Down", r.Down(2), api.OK)
	shows(t, r, 2, "ayb")
	queued(t, r, 2, 1, 1)
	bars(t, r, "Down of nothing", func() api.Errno { return r.Down(1) }, api.ErrEnd)
	settles(t, r)
	serves(t, r, "ayzxb", [2]int{1, 1}, [2]int{1, 2}, [2]int{0, 1})
}

// P20.4

func TestTextAndQueuedOfNone(t *testing.T) {
	r := made(t, "ab", 3, 10)
	edits(t, r, 0, insert(2, 1, "x"), 1)
	edits(t, r, 2, insert(2, 1, "y"), 1)
	is(t, "Up", r.Up(0), api.OK)
	for _, n := range outside(3) {
		if s, ok := r.Text(n); s != "" || ok {
			t.Errorf("Text(%d): %q, %t", n, s, ok)
		}
		queued(t, r, n, 0, 0)
	}
	queued(t, r, 2, 1, 1)
}

// TestLog: also of entries that the master keeps no more.
func TestLog(t *testing.T) {
	r := made(t, "ab", 2, 1)
	var want []api.Entry
	for i := range 20 {
		op := insert(2+i, 1+i, string(rune('a'+i)))
		edits(t, r, i%2, op, 1)
		settles(t, r)
		want = append(want, api.Entry{Client: i % 2, Seq: 1 + i/2, Op: op})
		if got := r.Log(); fmt.Sprint(got) != fmt.Sprint(want) {
			t.Fatalf("%v; want %v", got, want)
		}
	}
}

// TestQuiet: it is not, while anything is up, down or pending.
func TestQuiet(t *testing.T) {
	r := made(t, "ab", 2, 1)
	quiet := func(want bool) {
		t.Helper()
		if r.Quiet() != want {
			t.Fatalf("Quiet: %t", !want)
		}
	}
	quiet(true)
	r.Edit(1, insert(2, 1, "x"))
	quiet(false)
	r.Up(1)
	quiet(false)
	r.Down(1)
	quiet(false)
	r.Up(1)
	quiet(false) // down to 0
	r.Down(0)
	quiet(false) // up from 0
	r.Up(0)
	quiet(true)
	r.Edit(0, insert(3, 1, "y"))
	r.Up(0)
	r.Down(1)
	r.Up(1)
	quiet(false) // its own, down to 0
	r.Down(0)
	quiet(false)
	r.Up(0)
	quiet(true)
}

// Shared lists

// TestSharedStays: what is handed in stays as it is, and who writes into it, or into what is told, changes nothing.
func TestSharedStays(t *testing.T) {
	l := runs(keep(1), add("x"), keep(1), keep(7), add("spare"))
	was := slices.Clone(l)
	r := made(t, "ab", 2, 10)
	is(t, "Edit", r.Edit(0, l[:3]), api.OK)
	is(t, "Edit", r.Edit(1, l[:3]), api.OK)
	if !slices.Equal(l, was) {
		t.Fatalf("handed in: %v", l)
	}
	clear(l)
	is(t, "Up", r.Up(0), api.OK)
	spoil := func() {
		t.Helper()
		state := all(r)
		log := r.Log()
		for _, x := range log[:cap(log)] {
			clear(x.Op[:cap(x.Op)])
		}
		clear(log[:cap(log)])
		unchanged(t, r, state)
	}
	spoil()
	log := r.Log()
	told := fmt.Sprint(log)
	settles(t, r)
	spoil()
	serves(t, r, "axxb", [2]int{0, 1}, [2]int{1, 1})
	edits(t, r, 1, runs(drop(4)), 1)
	settles(t, r)
	if fmt.Sprint(log) != told {
		t.Errorf("told: %v; want %s", log, told)
	}
}

func TestRoomsAreApart(t *testing.T) {
	one, other := made(t, "ab", 2, 2), made(t, "ab", 2, 2)
	was := all(other)
	edits(t, one, 0, insert(2, 1, "x"), 1)
	settles(t, one)
	unchanged(t, other, was)
}

// Of one that no call made

func TestMadeByNoCall(t *testing.T) {
	var none *room.Room
	for name, r := range map[string]*room.Room{"nil": none, "plain": {}} {
		for _, n := range []int{math.MinInt, -1, 0, 1, api.MaxClients, math.MaxInt} {
			for _, op := range [][]api.Run{nil, runs(add("a")), runs(drop(1))} {
				is(t, name+" Edit", r.Edit(n, op), api.ErrNil)
			}
			is(t, name+" Up", r.Up(n), api.ErrNil)
			is(t, name+" Down", r.Down(n), api.ErrNil)
			if s, ok := r.Text(n); s != "" || ok {
				t.Errorf("%s: Text: %q, %t", name, s, ok)
			}
			queued(t, r, n, 0, 0)
		}
		serves(t, r, "")
		if r.Quiet() || r.Settle() != 0 {
			t.Errorf("%s: Quiet %t, Settle %d", name, r.Quiet(), r.Settle())
		}
	}
}
