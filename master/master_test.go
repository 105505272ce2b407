package master_test

import (
	"fmt"
	"math"
	"slices"
	"strings"
	"testing"

	"variorum/api"
	"variorum/edit"
	"variorum/master"
	"variorum/run"
)

func keep(n int) api.Run   { return api.Run{Keep: n} }
func add(s string) api.Run { return api.Run{Add: s} }
func drop(n int) api.Run   { return api.Run{Drop: n} }

func runs(l ...api.Run) []api.Run { return l }

// atEnd tells the edit of n bytes that adds a text behind them.
func atEnd(n int, s string) []api.Run { return edit.Norm(runs(keep(n), add(s))) }

// long is a text of MaxText bytes.
var long = strings.Repeat("a", api.MaxText)

// brief tells anything in words, of great things the beginning.
func brief(l any) string {
	s := fmt.Sprint(l)
	return s[:min(len(s), 200)]
}

// made tells a new master with members.
func made(t *testing.T, text string, most int, members ...int) *master.Master {
	t.Helper()
	m := master.New(text, most)
	if m == nil {
		t.Fatalf("New of %d bytes, %d: nil", len(text), most)
	}
	for _, c := range members {
		is(t, "Join", m.Join(c), api.OK)
	}
	return m
}

// is holds an error.
func is(t *testing.T, what string, got, want api.Errno) {
	t.Helper()
	if got != want {
		t.Fatalf("%s: %d; want %d", what, int(got), int(want))
	}
}

// takes holds that an edit is taken, and what its entry does.
func takes(t *testing.T, m *master.Master, client, seq, rev int, op, want []api.Run) {
	t.Helper()
	was, made := m.Text(), m.Rev()+1
	x, e := m.Take(client, seq, rev, op)
	if e != api.OK || x.Client != client || x.Seq != seq || !slices.Equal(x.Op, want) {
		t.Fatalf("Take(%d, %d, %d, %s): %s, %d; want %s", client, seq, rev, brief(op), brief(x), int(e), brief(want))
	}
	text, e := run.Apply(want, was)
	if e != api.OK || m.Text() != text || m.Len() != len(text) || m.Rev() != made || m.Seq(client) != seq {
		t.Fatalf("behind Take of %s: %.80q, %d bytes, Rev %d, Seq %d; want %.80q, %d, %d", brief(x), m.Text(), m.Len(), m.Rev(), m.Seq(client), text, made, seq)
	}
	if l, e := m.Since(made - 1); m.Base() < made && (e != api.OK || len(l) != 1 || !alike(l[0], x)) {
		t.Fatalf("Since(%d): %s, %d; want %s", made-1, brief(l), int(e), brief(x))
	}
}

// alike tells whether two entries are the same.
func alike(x, y api.Entry) bool {
	return x.Client == y.Client && x.Seq == y.Seq && slices.Equal(x.Op, y.Op)
}

// refuses holds that an edit is refused, and that this changes nothing.
func refuses(t *testing.T, m *master.Master, client, seq, rev int, op []api.Run, want api.Errno) {
	t.Helper()
	was := all(m)
	x, e := m.Take(client, seq, rev, op)
	if e != want || x.Client != 0 || x.Seq != 0 || len(x.Op) != 0 {
		t.Fatalf("Take(%d, %d, %d, %s): %s, %d; want %d", client, seq, rev, brief(op), brief(x), int(e), int(want))
	}
	unchanged(t, m, was)
}

// told is all that a master tells.
type told struct {
	text           string
	len, rev, base int
	seqs           string
	members        string
	since          string
}

// all asks a master for all that it tells.
func all(m *master.Master) told {
	x := told{text: m.Text(), len: m.Len(), rev: m.Rev(), base: m.Base(), members: fmt.Sprint(m.Members())}
	var seqs []int
	for c := -1; c <= api.MaxClients; c++ {
		seqs = append(seqs, m.Seq(c))
	}
	x.seqs = fmt.Sprint(seqs)
	for rev := m.Base() - 1; rev <= m.Rev()+1; rev++ {
		l, e := m.Since(rev)
		if len(l) > 20 {
			l = l[:20]
		}
		x.since += brief(l) + " " + fmt.Sprint(int(e)) + ", "
	}
	return x
}

// unchanged holds that a master tells what it told.
func unchanged(t *testing.T, m *master.Master, was told) {
	t.Helper()
	if now := all(m); now != was {
		t.Fatalf("changed: it was %s; it is %s", brief(was), brief(now))
	}
}

// numbers holds a master's Rev and Base, and who its members are.
func numbers(t *testing.T, m *master.Master, rev, base int, members ...int) {
	t.Helper()
	if m.Rev() != rev || m.Base() != base || !slices.Equal(m.Members(), members) {
		t.Fatalf("Rev %d, Base %d, Members %v; want %d, %d, %v", m.Rev(), m.Base(), m.Members(), rev, base, members)
	}
}

// tells holds what Since tells, by the clients and Seqs of its entries.
func tells(t *testing.T, m *master.Master, rev int, want api.Errno, entries ...[2]int) {
	t.Helper()
	l, e := m.Since(rev)
	var got [][2]int
	for _, x := range l {
		got = append(got, [2]int{x.Client, x.Seq})
	}
	if e != want || !slices.Equal(got, entries) {
		t.Fatalf("Since(%d): %v, %d; want %v, %d", rev, got, int(e), entries, int(want))
	}
}

func TestExample(t *testing.T) {
	m := made(t, "ab", 10, 0, 1)
	takes(t, m, 0, 1, 0, runs(keep(1), add("x"), keep(1)), runs(keep(1), add("x"), keep(1)))
	takes(t, m, 1, 1, 0, runs(keep(1), add("y"), keep(1)), runs(keep(2), add("y"), keep(1)))
	if m.Text() != "axyb" {
		t.Errorf("%q", m.Text())
	}
}

// P17.1

func TestNew(t *testing.T) {
	for most, ok := range map[int]bool{math.MinInt: false, -1: false, 0: false, 1: true, 2: true, api.MaxHistory - 1: true, api.MaxHistory: true, api.MaxHistory + 1: false, 1 << 16: false, math.MaxInt: false} {
		for text, fits := range map[string]bool{"": true, "ab": true, long[1:]: true, long: true, long + "a": false} {
			m := master.New(text, most)
			if (m != nil) != (ok && fits) {
				t.Fatalf("New of %d bytes, %d: %t", len(text), most, m != nil)
			}
			if m == nil {
				continue
			}
			if m.Text() != text || m.Len() != len(text) || m.Seq(0) != 0 {
				t.Errorf("New of %d bytes: %d bytes, Seq %d", len(text), m.Len(), m.Seq(0))
			}
			numbers(t, m, 0, 0)
			tells(t, m, 0, api.OK)
		}
	}
}

func TestJoin(t *testing.T) {
	m := made(t, "ab", 10)
	for _, c := range []int{math.MinInt, -64, -1, api.MaxClients, api.MaxClients + 1, math.MaxInt} {
		is(t, "Join", m.Join(c), api.ErrClient)
		numbers(t, m, 0, 0)
	}
	is(t, "Join", m.Join(api.MaxClients-1), api.OK)
	is(t, "Join", m.Join(0), api.OK)
	numbers(t, m, 0, 0, 0, api.MaxClients-1)
	is(t, "Join again", m.Join(0), api.ErrClient)
	is(t, "Join again", m.Join(api.MaxClients-1), api.ErrClient)
	numbers(t, m, 0, 0, 0, api.MaxClients-1)
	for c := api.MaxClients - 2; c > 0; c-- {
		is(t, "Join", m.Join(c), api.OK)
	}
	members := make([]int, api.MaxClients)
	for c := range members {
		members[c] = c
		is(t, "Join again", m.Join(c), api.ErrClient)
	}
	numbers(t, m, 0, 0, members...)
	is(t, "Join", m.Join(api.MaxClients), api.ErrClient)
}

// TestJoinAgainChangesNothing: who is a member and is refused has seen what it saw.
func TestJoinAgainChangesNothing(t *testing.T) {
	m := made(t, "", 10, 3)
	takes(t, m, 3, 1, 0, runs(add("a")), runs(add("a")))
	was := all(m)
	is(t, "Join again", m.Join(3), api.ErrClient)
	unchanged(t, m, was)
	takes(t, m, 3, 2, 0, runs(add("b")), runs(keep(1), add("b")))
}

// TestJoinSaw: who joins saw the revision that is then.
func TestJoinSaw(t *testing.T) {
	m := made(t, "", 10, 0)
	takes(t, m, 0, 1, 0, runs(add("a")), runs(add("a")))
	takes(t, m, 0, 2, 0, runs(add("b")), runs(keep(1), add("b")))
	is(t, "Join", m.Join(1), api.OK)
	numbers(t, m, 2, 0, 0, 1)
	refuses(t, m, 1, 1, 1, runs(keep(1)), api.ErrOld)
	is(t, "Saw below what it saw", m.Saw(1, 1), api.ErrOld)
	is(t, "Saw of what it saw", m.Saw(1, 2), api.OK)
	takes(t, m, 1, 1, 2, runs(keep(2), add("c")), runs(keep(2), add("c")))
	numbers(t, m, 3, 0, 0, 1)
}

func TestLeave(t *testing.T) {
	m := made(t, "ab", 10, 0, 5)
	for _, c := range []int{math.MinInt, -1, 1, 4, 6, api.MaxClients - 1, api.MaxClients, math.MaxInt} {
		is(t, "Leave of no member", m.Leave(c), api.ErrClient)
		numbers(t, m, 0, 0, 0, 5)
	}
	is(t, "Leave", m.Leave(5), api.OK)
	numbers(t, m, 0, 0, 0)
	is(t, "Leave again", m.Leave(5), api.ErrClient)
	is(t, "Saw behind Leave", m.Saw(5, 0), api.ErrClient)
	refuses(t, m, 5, 1, 0, runs(keep(2)), api.ErrClient)
	is(t, "Leave", m.Leave(0), api.OK)
	numbers(t, m, 0, 0)
	is(t, "Leave again", m.Leave(0), api.ErrClient)
	if m.Text() != "ab" {
		t.Errorf("%q", m.Text())
	}
}

// TestJoinBehindLeave: the Seq stays; what it saw is what is then.
func TestJoinBehindLeave(t *testing.T) {
	m := made(t, "", 10, 0, 1)
	takes(t, m, 0, 1, 0, runs(add("a")), runs(add("a")))
	takes(t, m, 0, 2, 1, runs(keep(1), add("b")), runs(keep(1), add("b")))
	is(t, "Leave", m.Leave(0), api.OK)
	if m.Seq(0) != 2 {
		t.Errorf("Seq %d", m.Seq(0))
	}
	takes(t, m, 1, 1, 0, runs(add("c")), runs(keep(2), add("c")))
	is(t, "Join", m.Join(0), api.OK)
	numbers(t, m, 3, 0, 0, 1)
	if m.Seq(0) != 2 {
		t.Errorf("Seq %d", m.Seq(0))
	}
	refuses(t, m, 0, 1, 3, runs(keep(3)), api.ErrSeq)
	refuses(t, m, 0, 3, 2, runs(keep(2)), api.ErrOld)
	is(t, "Saw", m.Saw(0, 2), api.ErrOld)
	takes(t, m, 0, 3, 3, runs(drop(3)), runs(drop(3)))
}

// P17.2

// TestOrderOfErrors: of all that stands in an edit's way the first one is told. The journal is full where that is asked.
func TestOrderOfErrors(t *testing.T) {
	type number struct {
		n int
		e api.Errno
	}
	clients := []number{{1, api.OK}, {2, api.ErrClient}, {-1, api.ErrClient}, {api.MaxClients, api.ErrClient}, {math.MinInt, api.ErrClient}, {math.MaxInt, api.ErrClient}}
	seqs := []number{{2, api.OK}, {1, api.ErrSeq}, {3, api.ErrSeq}, {0, api.ErrSeq}, {-2, api.ErrSeq}, {math.MinInt, api.ErrSeq}, {math.MaxInt, api.ErrSeq}}
	revs := []number{{3, api.OK}, {5, api.OK}, {2, api.ErrOld}, {1, api.ErrOld}, {0, api.ErrOld}, {-1, api.ErrOld}, {math.MinInt, api.ErrOld}, {6, api.ErrAhead}, {7, api.ErrAhead}, {math.MaxInt, api.ErrAhead}}
	for _, full := range []bool{false, true} {
		for _, client := range clients {
			for _, seq := range seqs {
				for _, rev := range revs {
					ops := map[api.Errno][]api.Run{api.OK: edit.Nothing(max(1, min(rev.n, 5))), api.ErrOp: runs(keep(9))}
					for wrong, op := range ops {
						want := api.OK
						for _, e := range []api.Errno{client.e, seq.e, rev.e, wrong} {
							if want == api.OK {
								want = e
							}
						}
						m := toFive(t, full)
						switch {
						case want == api.OK && full:
							refuses(t, m, client.n, seq.n, rev.n, op, api.ErrFull)
						case want == api.OK:
							takes(t, m, client.n, seq.n, rev.n, op, edit.Nothing(5))
						default:
							refuses(t, m, client.n, seq.n, rev.n, op, want)
						}
					}
				}
			}
		}
	}
}

// toFive tells a master at revision 5, with so many bytes, of which 1 and the one that trims it are members: Base is 2; 1 saw 3, with Seq 1.
func toFive(t *testing.T, full bool) *master.Master {
	t.Helper()
	most := 4
	if full {
		most = 3
	}
	m := made(t, "", most, 0, 1)
	takes(t, m, 1, 1, 0, runs(add("a")), runs(add("a")))
	takes(t, m, 0, 1, 1, runs(keep(1), add("b")), runs(keep(1), add("b")))
	is(t, "Saw", m.Saw(1, 2), api.OK)
	is(t, "Saw", m.Saw(0, 2), api.OK)
	for n := 2; n < 5; n++ {
		takes(t, m, 0, n, 2, runs(keep(2), add("c")), runs(keep(n), add("c")))
	}
	is(t, "Saw", m.Saw(1, 3), api.OK)
	numbers(t, m, 5, 2, 0, 1)
	return m
}

// TestBelowBase: a revision below the journal's Base is too old.
func TestBelowBase(t *testing.T) {
	m := made(t, "", 10, 0)
	for n := range 3 {
		takes(t, m, 0, n+1, n, atEnd(n, "a"), atEnd(n, "a"))
	}
	numbers(t, m, 3, 2, 0)
	is(t, "Saw", m.Saw(0, 3), api.OK)
	numbers(t, m, 3, 3, 0)
	refuses(t, m, 0, 4, 2, runs(keep(2)), api.ErrOld)
	is(t, "Join", m.Join(1), api.OK)
	refuses(t, m, 1, 1, 2, runs(keep(2)), api.ErrOld)
	takes(t, m, 1, 1, 3, runs(keep(3)), runs(keep(3)))
}

// TestNoEdit: what is no edit, and what is one of another length than the text had at that revision.
func TestNoEdit(t *testing.T) {
	m := made(t, "abcd", 10, 0, 1)
	wrong := [][]api.Run{
		nil, {}, {{}}, runs(keep(0)), runs(keep(-4)), runs(keep(3)), runs(keep(5)), runs(keep(2), keep(2)), runs(drop(2), drop(2)),
		runs(keep(2), drop(2), add("x")), runs(add("x"), add("y"), keep(4)), {{Keep: 2, Drop: 2}}, {{Keep: 4, Add: "x"}}, runs(keep(4), add("")),
		runs(keep(3), drop(2)), runs(drop(3)), runs(add("abcd")), runs(keep(math.MaxInt), drop(math.MaxInt), keep(6)), runs(keep(math.MinInt)),
		runs(keep(4), add(long)), runs(keep(4), add(long[3:])), slices.Repeat(runs(keep(1), add("x")), api.MaxRuns),
	}
	for _, op := range wrong {
		refuses(t, m, 0, 1, 0, op, api.ErrOp)
	}
	takes(t, m, 1, 1, 0, runs(drop(3), keep(1)), runs(drop(3), keep(1)))
	for _, op := range append(wrong, runs(keep(1)), runs(drop(1)), runs(keep(1), add("x")), nil) {
		refuses(t, m, 0, 1, 0, op, api.ErrOp)
	}
	refuses(t, m, 0, 1, 1, runs(keep(4)), api.ErrOp)
	takes(t, m, 0, 1, 0, runs(keep(4), add("x")), runs(keep(1), add("x")))
	// Of the empty text, into a journal that is full: of what is no edit edit's In is 0, too.
	m = made(t, "", 1, 0)
	for seq := range 2 {
		for _, op := range wrong[2:] {
			if !slices.Equal(op, runs(add("abcd"))) {
				refuses(t, m, 0, seq+1, 0, op, api.ErrOp)
			}
		}
		if seq == 0 {
			takes(t, m, 0, 1, 0, nil, nil)
		}
	}
	refuses(t, m, 0, 2, 0, nil, api.ErrFull)
}

// TestBehindOthers: an edit of an older revision, behind entries of others and of its own client; these stand first between the same two bytes.
func TestBehindOthers(t *testing.T) {
	m := made(t, "abc", 10, 0, 1, 2)
	takes(t, m, 2, 1, 0, runs(keep(1), add("2"), keep(2)), runs(keep(1), add("2"), keep(2)))
	takes(t, m, 1, 1, 0, runs(keep(1), add("1"), keep(2)), runs(keep(2), add("1"), keep(2)))
	takes(t, m, 0, 1, 0, runs(keep(1), add("0"), keep(2)), runs(keep(3), add("0"), keep(2)))
	// Its own one is an entry like the others.
	takes(t, m, 0, 2, 0, runs(keep(1), add("z"), drop(2)), runs(keep(4), add("z"), drop(2)))
	if m.Text() != "a210z" {
		t.Errorf("%q", m.Text())
	}
	// One of revision 1, which has a2bc: b and c are out since.
	takes(t, m, 1, 2, 1, runs(add("y"), drop(1), keep(1), drop(2)), runs(add("y"), drop(1), keep(4)))
	// One of revision 4, behind the one of revision 5 alone.
	takes(t, m, 2, 2, 4, runs(keep(5), add("!")), runs(keep(5), add("!")))
	if m.Text() != "y210z!" {
		t.Errorf("%q", m.Text())
	}
	refuses(t, m, 2, 3, 3, runs(keep(6)), api.ErrOld)
	refuses(t, m, 2, 3, 6, runs(keep(5)), api.ErrOp)
	tells(t, m, 2, api.OK, [2]int{0, 1}, [2]int{0, 2}, [2]int{1, 2}, [2]int{2, 2})
}

// TestIdle: an edit that changes nothing is taken like the others, also of the empty text.
func TestIdle(t *testing.T) {
	m := made(t, "ab", 10, 0, 1)
	takes(t, m, 0, 1, 0, runs(keep(2)), runs(keep(2)))
	takes(t, m, 1, 1, 0, runs(drop(2)), runs(drop(2)))
	takes(t, m, 0, 2, 1, runs(keep(2)), nil)
	takes(t, m, 0, 3, 2, nil, nil)
	takes(t, m, 0, 4, 2, []api.Run{}, nil)
	numbers(t, m, 5, 0, 0, 1)
	if m.Text() != "" || m.Len() != 0 {
		t.Errorf("%q", m.Text())
	}
}

// TestTakeSaw: who has an edit taken saw its revision, and the journal is trimmed up to the least one.
func TestTakeSaw(t *testing.T) {
	m := made(t, "", 10, 0, 1)
	takes(t, m, 0, 1, 0, runs(add("a")), runs(add("a")))
	takes(t, m, 0, 2, 1, runs(keep(1), add("b")), runs(keep(1), add("b")))
	numbers(t, m, 2, 0, 0, 1)
	refuses(t, m, 0, 3, 0, nil, api.ErrOld)
	is(t, "Saw", m.Saw(0, 0), api.ErrOld)
	takes(t, m, 1, 1, 2, runs(keep(2), add("c")), runs(keep(2), add("c")))
	numbers(t, m, 3, 1, 0, 1)
	takes(t, m, 0, 3, 3, runs(keep(3)), runs(keep(3)))
	numbers(t, m, 4, 2, 0, 1)
	is(t, "Saw", m.Saw(0, 2), api.ErrOld)
	is(t, "Saw", m.Saw(0, 3), api.OK)
}

// TestFullJournal: what would make room when it is taken makes none for itself.
func TestFullJournal(t *testing.T) {
	for _, most := range []int{1, 2, 3, api.MaxHistory} {
		m := made(t, "", most, 0)
		for n := range most {
			takes(t, m, 0, n+1, 0, runs(add("a")), atEnd(n, "a"))
		}
		numbers(t, m, most, 0, 0)
		refuses(t, m, 0, most+1, 0, runs(add("b")), api.ErrFull)
		refuses(t, m, 0, most+1, most, runs(keep(most), add("b")), api.ErrFull)
		refuses(t, m, 0, most+1, most, runs(keep(most+1), add("b")), api.ErrOp)
		// The refused one saw nothing.
		is(t, "Saw", m.Saw(0, 0), api.OK)
		numbers(t, m, most, 0, 0)
		is(t, "Saw", m.Saw(0, 1), api.OK)
		numbers(t, m, most, 1, 0)
		takes(t, m, 0, most+1, most, runs(keep(most), add("b")), runs(keep(most), add("b")))
		numbers(t, m, most+1, most, 0)
	}
}

// TestFullJournalWithoutMembers: who leaves last trims nothing; who joins then makes no room, but by Saw.
func TestFullJournalWithoutMembers(t *testing.T) {
	m := made(t, "", 2, 0)
	takes(t, m, 0, 1, 0, runs(add("a")), runs(add("a")))
	takes(t, m, 0, 2, 0, runs(add("b")), runs(keep(1), add("b")))
	is(t, "Leave", m.Leave(0), api.OK)
	numbers(t, m, 2, 0)
	tells(t, m, 0, api.OK, [2]int{0, 1}, [2]int{0, 2})
	is(t, "Join", m.Join(1), api.OK)
	numbers(t, m, 2, 0, 1)
	refuses(t, m, 1, 1, 2, runs(keep(2)), api.ErrFull)
	is(t, "Saw", m.Saw(1, 2), api.OK)
	numbers(t, m, 2, 2, 1)
	takes(t, m, 1, 1, 2, runs(keep(2)), runs(keep(2)))
}

// TestMaxText: a text may come to be MaxText bytes long, and not one longer.
func TestMaxText(t *testing.T) {
	n := api.MaxText - 2
	m := made(t, long[2:], 10, 0, 1)
	// What alone makes too much of it is no edit.
	refuses(t, m, 0, 1, 0, runs(keep(n), add("xyz")), api.ErrOp)
	takes(t, m, 0, 1, 0, runs(keep(n), add("x")), runs(keep(n), add("x")))
	refuses(t, m, 1, 1, 0, runs(add("yz"), keep(n)), api.ErrFull)
	refuses(t, m, 1, 1, 0, runs(keep(n), add("yz")), api.ErrFull)
	takes(t, m, 1, 1, 0, runs(add("y"), keep(n)), runs(add("y"), keep(n+1)))
	if m.Len() != api.MaxText || m.Text() != "y"+long[2:]+"x" {
		t.Fatalf("%d bytes", m.Len())
	}
	refuses(t, m, 1, 2, 0, runs(add("y"), keep(n)), api.ErrFull)
	refuses(t, m, 1, 2, 2, runs(add("y"), keep(n+2)), api.ErrOp)
	takes(t, m, 1, 2, 2, runs(add("z"), drop(1), keep(n+1)), runs(add("z"), drop(1), keep(n+1)))
	takes(t, m, 0, 2, 3, runs(drop(api.MaxText)), runs(drop(api.MaxText)))
	takes(t, m, 0, 3, 4, runs(add(long)), runs(add(long)))
	takes(t, m, 1, 3, 4, nil, runs(keep(api.MaxText)))
	refuses(t, m, 1, 4, 4, runs(add("b")), api.ErrFull)
}

// TestMaxRuns: an edit that has too many runs behind what was taken, or behind which that has.
func TestMaxRuns(t *testing.T) {
	most := slices.Repeat(runs(keep(2), drop(2)), api.MaxRuns/2)
	n := edit.In(most)
	split := runs(keep(3), add("x"), keep(n-3))
	for _, ops := range [][2][]api.Run{{split, most}, {most, split}} {
		m := made(t, long[:n], 10, 0, 1)
		takes(t, m, 0, 1, 0, ops[0], ops[0])
		refuses(t, m, 1, 1, 0, ops[1], api.ErrFull)
		takes(t, m, 1, 1, 0, edit.Nothing(n), edit.Nothing(edit.Out(ops[0])))
		refuses(t, m, 1, 2, 0, ops[1], api.ErrFull)
	}
	// With two runs less it has just MaxRuns behind what was taken.
	fewer := slices.Concat(most[:len(most)-4], runs(keep(4), drop(4)))
	m := made(t, long[:n], 10, 0, 1)
	takes(t, m, 0, 1, 0, split, split)
	takes(t, m, 1, 1, 0, fewer, slices.Concat(runs(keep(2), drop(1), keep(1), drop(1)), fewer[2:]))
}

// TestSharedStays: what is handed in and what is told stays as it is, and who writes into it changes nothing.
func TestSharedStays(t *testing.T) {
	m := made(t, "ab", 10, 0, 1)
	room := runs(keep(1), add("x"), keep(1), keep(7), add("room"))
	was := slices.Clone(room)
	first, _ := m.Take(0, 1, 0, room[:3])
	second, _ := m.Take(1, 1, 0, room[:3:3])
	if !slices.Equal(room, was) {
		t.Errorf("handed in: %v", room)
	}
	state := all(m)
	since, _ := m.Since(0)
	again, _ := m.Since(0)
	clear(room)
	for _, op := range [][]api.Run{first.Op, second.Op, since[0].Op, since[1].Op} {
		clear(op[:cap(op)])
	}
	clear(since)
	unchanged(t, m, state)
	kept := fmt.Sprint(again)
	members := m.Members()
	clear(members)
	takes(t, m, 0, 2, 2, runs(drop(4)), runs(drop(4)))
	is(t, "Saw", m.Saw(1, 3), api.OK)
	is(t, "Saw", m.Saw(0, 3), api.OK)
	takes(t, m, 0, 3, 3, runs(add("new")), runs(add("new")))
	if fmt.Sprint(again) != kept {
		t.Errorf("told: %v; want %s", again, kept)
	}
	numbers(t, m, 4, 3, 0, 1)
}
