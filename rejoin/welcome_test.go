package rejoin_test

import (
	"fmt"
	"math"
	"slices"
	"testing"

	"variorum/api"
	"variorum/master"
	"variorum/message"
	"variorum/rejoin"
)

// P21.2

// server is all that a master tells.
type server struct {
	text                 string
	rev, base            int
	seqs, members, since string
}

// asked asks a master for all that it tells.
func asked(m *master.Master) server {
	x := server{text: m.Text(), rev: m.Rev(), base: m.Base(), members: fmt.Sprint(m.Members())}
	for c := -1; c <= api.MaxClients; c++ {
		x.seqs += fmt.Sprint(m.Seq(c), " ")
	}
	l, e := m.Since(m.Base())
	x.since = fmt.Sprint(l, int(e))
	return x
}

// served tells a master at revision 6 with Base 2, of whose members 0 and 1 took edits, as 2 did, which left; and all entries.
func served(t *testing.T) (*master.Master, []api.Entry) {
	t.Helper()
	m := master.New("--", 10)
	var log []api.Entry
	take := func(client, rev int, op ...api.Run) {
		t.Helper()
		x, e := m.Take(client, m.Seq(client)+1, rev, op)
		is(t, "Take", e, api.OK)
		log = append(log, x)
	}
	for c := range 3 {
		is(t, "Join", m.Join(c), api.OK)
	}
	take(0, 0, add("a"), keep(2))
	take(2, 1, keep(3), add("b"))
	is(t, "Saw", m.Saw(0, 2), api.OK)
	is(t, "Leave", m.Leave(2), api.OK)
	take(1, 2, keep(1), drop(2), keep(1))
	take(0, 2, keep(2), add("c"), keep(2))
	take(0, 4, keep(1), add("d"), keep(2))
	take(1, 2, keep(4), add("e"))
	if m.Rev() != 6 || m.Base() != 2 || m.Text() != "adcbe" || fmt.Sprint(m.Members()) != "[0 1]" || m.Seq(0) != 3 || m.Seq(2) != 1 {
		t.Fatal(asked(m))
	}
	return m, log
}

// welcomes holds what a master tells of a hello, and that the client is a member then, and nothing else has changed.
func welcomes(t *testing.T, m *master.Master, h api.Msg, want []api.Msg) {
	t.Helper()
	was := asked(m)
	members := append(m.Members(), h.Client)
	slices.Sort(members)
	l, e := rejoin.Welcome(m, h)
	is(t, "Welcome of "+brief(h), e, api.OK)
	if !slices.EqualFunc(l, want, message.Same) {
		t.Fatalf("Welcome of %s: %s; want %s", brief(h), brief(l), brief(want))
	}
	for _, x := range l {
		if !message.Good(x) {
			t.Fatalf("Welcome of %s tells what is not right: %s", brief(h), brief(x))
		}
	}
	was.members = fmt.Sprint(members)
	if now := asked(m); now != was {
		t.Fatalf("behind Welcome of %s: %s; want %s", brief(h), brief(now), brief(was))
	}
	// Who joins saw Rev.
	is(t, "Saw below Rev", m.Saw(h.Client, m.Rev()-1), api.ErrOld)
}

// notWelcome holds that a hello is refused, and changes nothing.
func notWelcome(t *testing.T, m *master.Master, h api.Msg, want api.Errno) {
	t.Helper()
	was := asked(m)
	if l, e := rejoin.Welcome(m, h); e != want || len(l) != 0 {
		t.Fatalf("Welcome of %s: %s, %d; want %d", brief(h), brief(l), int(e), int(want))
	}
	if now := asked(m); now != was {
		t.Fatalf("Welcome of %s changed it: it was %s; it is %s", brief(h), brief(was), brief(now))
	}
}

// missed tells the messages of the entries behind a revision, and an ack.
func missed(log []api.Entry, rev, seq int) (l []api.Msg) {
	for i, x := range log {
		if i >= rev {
			l = append(l, takenOf(x.Client, x.Seq, i+1, x.Op))
		}
	}
	return append(l, ack(len(log), seq))
}

func TestExample(t *testing.T) {
	m := master.New("", 10)
	is(t, "Join", m.Join(0), api.OK)
	is(t, "Join", m.Join(5), api.OK)
	for n := range 5 {
		_, e := m.Take(0, n+1, n, insert(n, n, "a"))
		is(t, "Take", e, api.OK)
	}
	is(t, "Saw", m.Saw(5, 2), api.OK)
	welcomes(t, m, hello(1, 1, 3, 0), []api.Msg{takenOf(0, 4, 4, insert(3, 3, "a")), takenOf(0, 5, 5, insert(4, 4, "a")), ack(5, 0)})
}

// TestWelcome: of each revision, by clients that were members once, and never.
func TestWelcome(t *testing.T) {
	for client, seq := range map[int]int{2: 1, 3: 0, api.MaxClients - 1: 0} {
		for _, of := range []int{math.MinInt, -1, 0, 1} {
			if of > seq {
				continue
			}
			for rev := 2; rev <= 6; rev++ {
				m, log := served(t)
				welcomes(t, m, hello(client, rev, rev, of), missed(log, rev, seq))
			}
			for _, rev := range []int{math.MinInt, -1, 0, 1} {
				m, _ := served(t)
				welcomes(t, m, hello(client, 1, rev, of), []api.Msg{snapshot(6, seq, "adcbe")})
			}
			for _, rev := range []int{7, 8, math.MaxInt} {
				m, _ := served(t)
				notWelcome(t, m, hello(client, 1, rev, of), api.ErrAhead)
			}
		}
	}
}

// TestWelcomeInWords: the messages of one hello, one by one.
func TestWelcomeInWords(t *testing.T) {
	m, _ := served(t)
	l, e := rejoin.Welcome(m, hello(2, 5, 3, 1))
	is(t, "Welcome", e, api.OK)
	want := []api.Msg{
		{Kind: api.MsgOp, Client: 0, Rev: 4, Seq: 2, Op: runs(keep(1), add("c"), keep(1))},
		{Kind: api.MsgOp, Client: 0, Rev: 5, Seq: 3, Op: runs(keep(1), add("d"), keep(2))},
		{Kind: api.MsgOp, Client: 1, Rev: 6, Seq: 2, Op: runs(keep(4), add("e"))},
		{Kind: api.MsgAck, Rev: 6, Seq: 1},
	}
	if !slices.EqualFunc(l, want, message.Same) {
		t.Errorf("%s", brief(l))
	}
}

// TestWelcomeOfNoEntries: of a new master, and of one whose journal keeps nothing.
func TestWelcomeOfNoEntries(t *testing.T) {
	m := master.New("ab", 1)
	welcomes(t, m, hello(0, 0, 0, 0), []api.Msg{ack(0, 0)})
	welcomes(t, m, hello(63, math.MaxInt, -1, math.MinInt), []api.Msg{snapshot(0, 0, "ab")})
	m = master.New("", 1)
	welcomes(t, m, hello(7, 1, -1, 0), []api.Msg{snapshot(0, 0, "")})
	for n := range 3 {
		_, e := m.Take(7, n+1, n, insert(n, n, "a"))
		is(t, "Take", e, api.OK)
		is(t, "Saw", m.Saw(7, n+1), api.OK)
	}
	is(t, "Leave", m.Leave(7), api.OK)
	welcomes(t, m, hello(8, 1, 3, 0), []api.Msg{ack(3, 0)})
	welcomes(t, m, hello(7, 1, 2, 3), []api.Msg{snapshot(3, 3, "aaa")})
	is(t, "Leave", m.Leave(7), api.OK)
	welcomes(t, m, hello(7, 1, 3, 3), []api.Msg{ack(3, 3)})
}

// TestWelcomeTrimsNothing: what nobody waits for any more is kept, since Join alone does not trim.
func TestWelcomeTrimsNothing(t *testing.T) {
	m := master.New("", 3)
	is(t, "Join", m.Join(0), api.OK)
	var log []api.Entry
	for n := range 3 {
		x, e := m.Take(0, n+1, 0, insert(0, 0, "a"))
		is(t, "Take", e, api.OK)
		log = append(log, x)
	}
	is(t, "Leave", m.Leave(0), api.OK)
	welcomes(t, m, hello(1, 1, 1, 0), missed(log, 1, 0))
	welcomes(t, m, hello(0, 1, 0, 1), missed(log, 0, 3))
	if m.Base() != 0 {
		t.Errorf("Base %d", m.Base())
	}
}

// TestWelcomeOfAll: as many clients as there may be, and one more; who left may come again.
func TestWelcomeOfAll(t *testing.T) {
	m, log := served(t)
	for c := 2; c < api.MaxClients; c++ {
		welcomes(t, m, hello(c, c, 4, 0), missed(log, 4, m.Seq(c)))
	}
	for c := range api.MaxClients {
		notWelcome(t, m, hello(c, 1, 4, 0), api.ErrClient)
	}
	notWelcome(t, m, hello(api.MaxClients, 1, 4, 0), api.ErrClient)
	notWelcome(t, m, hello(-1, 1, 4, 0), api.ErrClient)
	is(t, "Leave", m.Leave(40), api.OK)
	welcomes(t, m, hello(40, 1, 4, 0), missed(log, 4, 0))
}

// TestLongWelcome: of as many entries as a journal keeps.
func TestLongWelcome(t *testing.T) {
	m := master.New("", api.MaxHistory)
	is(t, "Join", m.Join(0), api.OK)
	is(t, "Join", m.Join(5), api.OK)
	var log []api.Entry
	for n := range api.MaxHistory {
		x, e := m.Take(0, n+1, n, insert(n, n/2, "a"))
		is(t, "Take", e, api.OK)
		log = append(log, x)
	}
	welcomes(t, m, hello(1, 1, 0, 0), missed(log, 0, 0))
	is(t, "Leave", m.Leave(1), api.OK)
	is(t, "Saw", m.Saw(5, 1), api.OK)
	welcomes(t, m, hello(1, 1, 0, 0), []api.Msg{snapshot(api.MaxHistory, 0, m.Text())})
	welcomes(t, m, hello(2, 1, 1, 0), missed(log, 1, 0))
}

// TestOrderOfWelcomesErrors: of all that stands in the way the first one is told.
func TestOrderOfWelcomesErrors(t *testing.T) {
	m, _ := served(t)
	clients := []int{math.MinInt, -1, 0, 1, 2, 3, api.MaxClients - 1, api.MaxClients, api.MaxClients + 1, math.MaxInt}
	for _, kind := range kinds {
		for _, client := range clients {
			for _, rev := range []int{math.MinInt, -1, 0, 1, 2, 5, 6, 7, math.MaxInt} {
				for _, seq := range []int{math.MinInt, -1, 0, 1, 2, 3, 4, math.MaxInt} {
					h := api.Msg{Kind: kind, Client: client, Epoch: 1, Rev: rev, Seq: seq}
					seqs := map[int]int{0: 3, 1: 2, 2: 1}
					switch {
					case kind != api.MsgHello:
						notWelcome(t, m, h, api.ErrArg)
					case rev > 6 || seq > seqs[client]:
						notWelcome(t, m, h, api.ErrAhead)
					case client < 2 || client >= api.MaxClients:
						notWelcome(t, m, h, api.ErrClient)
					default:
						if l, e := rejoin.Welcome(m, h); e != api.OK || len(l) == 0 {
							t.Fatalf("Welcome of %s: %s, %d", brief(h), brief(l), int(e))
						}
						is(t, "Leave", m.Leave(client), api.OK)
					}
				}
			}
		}
	}
}

// TestSeqOfAMember: a Seq above the master's is told ahead of being a member.
func TestSeqOfAMember(t *testing.T) {
	m, _ := served(t)
	notWelcome(t, m, hello(0, 1, 6, 4), api.ErrAhead)
	notWelcome(t, m, hello(0, 1, 6, 3), api.ErrClient)
	notWelcome(t, m, hello(0, 1, 7, 3), api.ErrAhead)
	notWelcome(t, m, hello(api.MaxClients, 1, 6, 1), api.ErrAhead)
	notWelcome(t, m, hello(-1, 1, 7, 0), api.ErrAhead)
	is(t, "Leave", m.Leave(0), api.OK)
	notWelcome(t, m, hello(0, 1, 6, 4), api.ErrAhead)
	l, e := rejoin.Welcome(m, hello(0, 1, 6, 3))
	if is(t, "Welcome", e, api.OK); len(l) != 1 {
		t.Errorf("%s", brief(l))
	}
}

// TestToldStays: what was told is as it was while more is taken, and who changes it changes no master.
func TestToldStays(t *testing.T) {
	m, log := served(t)
	h := api.Msg{Kind: api.MsgHello, Client: 2, Epoch: 1, Rev: 2, Seq: 1}
	l, e := rejoin.Welcome(m, h)
	is(t, "Welcome", e, api.OK)
	says(t, h, hello(2, 1, 2, 1))
	was := fmt.Sprint(l)
	_, e = m.Take(2, 2, 6, runs(drop(5)))
	is(t, "Take", e, api.OK)
	for c := range 3 {
		is(t, "Saw", m.Saw(c, 7), api.OK)
	}
	other, e := rejoin.Welcome(m, hello(3, 1, 6, 0))
	is(t, "Welcome", e, api.OK)
	if fmt.Sprint(l) != was || len(other) != 1 || m.Base() != 7 {
		t.Fatalf("%s; it was %s", brief(l), was)
	}
	m, log = served(t)
	l, e = rejoin.Welcome(m, h)
	is(t, "Welcome", e, api.OK)
	for _, x := range l {
		clear(x.Op[:cap(x.Op)])
	}
	clear(l[:cap(l)])
	is(t, "Leave", m.Leave(2), api.OK)
	welcomes(t, m, h, missed(log, 2, 1))
}
