package master_test

import (
	"math"
	"math/rand"
	"slices"
	"strings"
	"testing"

	"variorum/api"
	"variorum/cross"
	"variorum/edit"
	"variorum/master"
	"variorum/run"
)

// grown tells a master at a revision, of one byte a revision, all edits done by 0, which saw nothing of them, as the other members.
func grown(t *testing.T, rev, most int, others ...int) *master.Master {
	t.Helper()
	m := made(t, "", most, append([]int{0}, others...)...)
	for n := range rev {
		takes(t, m, 0, n+1, 0, runs(add("a")), atEnd(n, "a"))
	}
	numbers(t, m, rev, 0, m.Members()...)
	return m
}

// P17.3

func TestSaw(t *testing.T) {
	m := grown(t, 5, 10, 1)
	is(t, "Saw", m.Saw(1, 2), api.OK)
	numbers(t, m, 5, 0, 0, 1)
	was := all(m)
	for client, e := range map[int]api.Errno{2: api.ErrClient, -1: api.ErrClient, api.MaxClients: api.ErrClient, math.MinInt: api.ErrClient, math.MaxInt: api.ErrClient} {
		for _, rev := range []int{math.MinInt, -1, 0, 2, 5, 6, math.MaxInt} {
			is(t, "Saw of no member", m.Saw(client, rev), e)
		}
	}
	for _, rev := range []int{math.MinInt, -1, 0, 1} {
		is(t, "Saw below what it saw", m.Saw(1, rev), api.ErrOld)
	}
	for _, rev := range []int{6, 7, math.MaxInt} {
		is(t, "Saw above Rev", m.Saw(1, rev), api.ErrAhead)
	}
	unchanged(t, m, was)
	is(t, "Saw of what it saw", m.Saw(1, 2), api.OK)
	unchanged(t, m, was)
	is(t, "Saw of Rev", m.Saw(0, 5), api.OK)
	numbers(t, m, 5, 2, 0, 1)
	is(t, "Saw of Rev", m.Saw(1, 5), api.OK)
	numbers(t, m, 5, 5, 0, 1)
	is(t, "Saw", m.Saw(1, 4), api.ErrOld)
	is(t, "Saw", m.Saw(1, 5), api.OK)
	is(t, "Saw", m.Saw(1, 6), api.ErrAhead)
	numbers(t, m, 5, 5, 0, 1)
}

// TestTrimUpToTheLeast: the journal keeps what is behind the least revision that a member saw, whoever it is, and however it saw it.
func TestTrimUpToTheLeast(t *testing.T) {
	m := grown(t, 6, 20, 1, 2, 63)
	for _, x := range []struct{ client, rev, base int }{{1, 3, 0}, {2, 5, 0}, {0, 2, 0}, {63, 1, 1}, {63, 4, 2}, {0, 6, 3}, {1, 6, 4}, {63, 5, 5}, {2, 6, 5}} {
		is(t, "Saw", m.Saw(x.client, x.rev), api.OK)
		numbers(t, m, 6, x.base, 0, 1, 2, 63)
	}
	takes(t, m, 63, 1, 6, runs(keep(6), add("b")), runs(keep(6), add("b")))
	numbers(t, m, 7, 6, 0, 1, 2, 63)
	if m.Text() != "aaaaaab" {
		t.Errorf("%q", m.Text())
	}
}

// TestTrimBehindLeave: who leaves holds nothing any more; who leaves last trims nothing.
func TestTrimBehindLeave(t *testing.T) {
	m := grown(t, 6, 20, 1, 2)
	is(t, "Saw", m.Saw(1, 2), api.OK)
	is(t, "Saw", m.Saw(2, 4), api.OK)
	numbers(t, m, 6, 0, 0, 1, 2)
	is(t, "Leave", m.Leave(0), api.OK)
	numbers(t, m, 6, 2, 1, 2)
	is(t, "Leave", m.Leave(2), api.OK)
	numbers(t, m, 6, 2, 1)
	is(t, "Leave", m.Leave(2), api.ErrClient)
	is(t, "Saw", m.Saw(1, 3), api.OK)
	numbers(t, m, 6, 3, 1)
	is(t, "Leave", m.Leave(1), api.OK)
	numbers(t, m, 6, 3)
	// Join alone trims nothing either.
	is(t, "Join", m.Join(7), api.OK)
	numbers(t, m, 6, 3, 7)
	is(t, "Join", m.Join(8), api.OK)
	is(t, "Leave", m.Leave(8), api.OK)
	numbers(t, m, 6, 6, 7)
}

func TestSince(t *testing.T) {
	m := made(t, "", 10, 0, 1)
	takes(t, m, 0, 1, 0, runs(add("a")), runs(add("a")))
	takes(t, m, 1, 1, 1, runs(keep(1), add("b")), runs(keep(1), add("b")))
	takes(t, m, 0, 2, 1, runs(add("c"), drop(1)), runs(add("c"), drop(1), keep(1)))
	takes(t, m, 1, 2, 3, runs(keep(2)), runs(keep(2)))
	numbers(t, m, 4, 1, 0, 1)
	for _, rev := range []int{math.MinInt, -1, 0} {
		tells(t, m, rev, api.ErrOld)
	}
	tells(t, m, 1, api.OK, [2]int{1, 1}, [2]int{0, 2}, [2]int{1, 2})
	tells(t, m, 2, api.OK, [2]int{0, 2}, [2]int{1, 2})
	tells(t, m, 3, api.OK, [2]int{1, 2})
	tells(t, m, 4, api.OK)
	for _, rev := range []int{5, 6, math.MaxInt} {
		tells(t, m, rev, api.ErrAhead)
	}
	l, _ := m.Since(1)
	for i, want := range []api.Entry{{Client: 1, Seq: 1, Op: runs(keep(1), add("b"))}, {Seq: 2, Op: runs(add("c"), drop(1), keep(1))}, {Client: 1, Seq: 2, Op: runs(keep(2))}} {
		if !alike(l[i], want) {
			t.Errorf("%v; want %v", l[i], want)
		}
	}
}

func TestMembersRise(t *testing.T) {
	chance := rand.New(rand.NewSource(17))
	m := made(t, "", 1)
	in := map[int]bool{}
	for range 2000 {
		c := chance.Intn(api.MaxClients+4) - 2
		if chance.Intn(2) == 0 {
			ok := c >= 0 && c < api.MaxClients && !in[c]
			if (m.Join(c) == api.OK) != ok {
				t.Fatalf("Join(%d): %t", c, !ok)
			}
			in[c] = in[c] || ok
		} else {
			if (m.Leave(c) == api.OK) != in[c] {
				t.Fatalf("Leave(%d): %t", c, !in[c])
			}
			in[c] = false
		}
		var want []int
		for c := range api.MaxClients {
			if in[c] {
				want = append(want, c)
			}
		}
		numbers(t, m, 0, 0, want...)
	}
}

// TestSeqOfNone: of who was never a member it is 0.
func TestSeqOfNone(t *testing.T) {
	m := grown(t, 3, 10, 1)
	for c, want := range map[int]int{0: 3, 1: 0, 2: 0, -1: 0, api.MaxClients: 0, math.MinInt: 0, math.MaxInt: 0} {
		if m.Seq(c) != want {
			t.Errorf("Seq(%d): %d; want %d", c, m.Seq(c), want)
		}
	}
}

// P17.5, P17.6, P17.7, against a model

// model is a master as lists, of which nothing is trimmed, and the least revision that is told.
type model struct {
	most  int
	many  int      // of how many clients there is something to do
	texts []string // at each revision
	log   []api.Entry
	base  int
	seq   map[int]int
	saw   map[int]int // of members alone
}

// bars tells what stands in an edit's way, and what it is behind all that was taken since.
func (d *model) bars(client, seq, rev int, op []api.Run) ([]api.Run, api.Errno) {
	saw, member := d.saw[client]
	switch {
	case !member:
		return nil, api.ErrClient
	case seq != d.seq[client]+1:
		return nil, api.ErrSeq
	case rev < saw || rev < d.base:
		return nil, api.ErrOld
	case rev >= len(d.texts):
		return nil, api.ErrAhead
	case !edit.Good(op) || edit.In(op) != len(d.texts[rev]):
		return nil, api.ErrOp
	}
	var l [][]api.Run
	for _, x := range d.log[rev:] {
		l = append(l, x.Op)
	}
	behind, _, e := cross.Over(op, l, false)
	if e == api.OK && len(d.log)-d.base == d.most {
		e = api.ErrFull
	}
	return behind, e
}

// trim trims the model.
func (d *model) trim() {
	least := len(d.log)
	for _, rev := range d.saw {
		least = min(least, rev)
	}
	if len(d.saw) > 0 {
		d.base = max(d.base, least)
	}
}

// take takes an edit both ways.
func (d *model) take(t *testing.T, m *master.Master, client, seq, rev int, op []api.Run) {
	t.Helper()
	want, wantE := d.bars(client, seq, rev, op)
	x, e := m.Take(client, seq, rev, op)
	if e != wantE {
		t.Fatalf("Take(%d, %d, %d, %s): %d; want %d", client, seq, rev, brief(op), int(e), int(wantE))
	}
	if e != api.OK {
		if x.Client != 0 || x.Seq != 0 || len(x.Op) != 0 {
			t.Fatalf("Take: %v, %d", x, int(e))
		}
		return
	}
	entry := api.Entry{Client: client, Seq: seq, Op: want}
	if !alike(x, entry) {
		t.Fatalf("Take(%d, %d, %d, %s): %s; want %s", client, seq, rev, brief(op), brief(x), brief(entry))
	}
	text, e := run.Apply(want, d.texts[len(d.log)])
	is(t, "Apply", e, api.OK)
	d.texts, d.log = append(d.texts, text), append(d.log, entry)
	d.seq[client], d.saw[client] = seq, rev
	d.trim()
}

// holds holds all that a master tells against the model.
func (d *model) holds(t *testing.T, m *master.Master) {
	t.Helper()
	var members []int
	for c := range d.saw {
		members = append(members, c)
	}
	slices.Sort(members)
	numbers(t, m, len(d.log), d.base, members...)
	text := d.texts[len(d.log)]
	if m.Text() != text || m.Len() != len(text) {
		t.Fatalf("%.80q, %d; want %.80q", m.Text(), m.Len(), text)
	}
	for c := range 8 {
		if m.Seq(c) != d.seq[c] {
			t.Fatalf("Seq(%d): %d; want %d", c, m.Seq(c), d.seq[c])
		}
	}
	l, e := m.Since(d.base)
	if e != api.OK || !slices.EqualFunc(l, d.log[d.base:], alike) {
		t.Fatalf("Since(%d): %s, %d; want %s", d.base, brief(l), int(e), brief(d.log[d.base:]))
	}
	if d.base > 0 {
		tells(t, m, d.base-1, api.ErrOld)
	}
	tells(t, m, len(d.log)+1, api.ErrAhead)
}

// anEdit tells an edit of n bytes, or at times one of another number.
func anEdit(chance *rand.Rand, n int) []api.Run {
	if chance.Intn(12) == 0 {
		n = max(0, n+chance.Intn(3)-1)
	}
	var l []api.Run
	for left := n; left > 0; {
		many := 1 + chance.Intn(min(left, 1+n/3))
		switch chance.Intn(4) {
		case 0:
			l = append(l, drop(many))
		case 1:
			l = append(l, add(strings.Repeat(string(rune('a'+chance.Intn(26))), 1+chance.Intn(3))))
			many = 0
		default:
			l = append(l, keep(many))
		}
		left -= many
	}
	if chance.Intn(3) == 0 {
		l = append(l, add("z"))
	}
	return edit.Norm(l)
}

// near tells a number that is at times a little off.
func near(chance *rand.Rand, n int) int {
	if chance.Intn(15) == 0 {
		return n + chance.Intn(5) - 2
	}
	return n
}

func TestAsAModel(t *testing.T) {
	for seed := range 60 {
		chance := rand.New(rand.NewSource(int64(seed)))
		most := []int{1, 2, 5, 20, api.MaxHistory}[seed%5]
		first := strings.Repeat("-", chance.Intn(20))
		m := made(t, first, most)
		// With many clients a small journal would be full at most times.
		d := &model{most: most, many: min(8, most+1), texts: []string{first}, seq: map[int]int{}, saw: map[int]int{}}
		for range 600 {
			d.step(t, m, chance)
			d.holds(t, m)
		}
		d.ends(t, m)
	}
}

// step does anything of a master and of the model.
func (d *model) step(t *testing.T, m *master.Master, chance *rand.Rand) {
	t.Helper()
	client := chance.Intn(d.many)
	saw, member := d.saw[client]
	rev := len(d.log)
	switch what := chance.Intn(20); {
	case what == 0 && member:
		is(t, "Leave", m.Leave(client), api.OK)
		delete(d.saw, client)
		d.trim()
	case what == 0:
		is(t, "Leave", m.Leave(client), api.ErrClient)
	case what <= 2 && member:
		is(t, "Join", m.Join(client), api.ErrClient)
	case what <= 2:
		is(t, "Join", m.Join(client), api.OK)
		d.saw[client] = rev
	case what <= 8:
		seen := near(chance, saw+chance.Intn(rev-saw+1))
		e := m.Saw(client, seen)
		switch {
		case !member:
			is(t, "Saw", e, api.ErrClient)
		case seen < saw:
			is(t, "Saw", e, api.ErrOld)
		case seen > rev:
			is(t, "Saw", e, api.ErrAhead)
		default:
			is(t, "Saw", e, api.OK)
			d.saw[client] = seen
			d.trim()
		}
	default:
		at := saw + chance.Intn(rev-saw+1)
		d.take(t, m, client, near(chance, d.seq[client]+1), near(chance, at), anEdit(chance, len(d.texts[at])))
	}
}

// ends holds what follows, of all entries that were ever taken.
func (d *model) ends(t *testing.T, m *master.Master) {
	t.Helper()
	var l [][]api.Run
	seq := map[int]int{}
	for _, x := range d.log {
		l = append(l, x.Op)
		seq[x.Client]++
		if x.Seq != seq[x.Client] {
			t.Fatalf("entry %d of %d has Seq %d", seq[x.Client], x.Client, x.Seq)
		}
	}
	if text, e := run.Fold(l, d.texts[0]); e != api.OK || text != m.Text() {
		t.Fatalf("%.80q, %d; want %.80q", m.Text(), int(e), text)
	}
	if len(d.log) < 20 {
		t.Errorf("just %d edits were taken", len(d.log))
	}
}

// TestManyPieces: edits of many places, one behind the other, and edits of many places at once.
func TestManyPieces(t *testing.T) {
	chance := rand.New(rand.NewSource(3))
	text := strings.Repeat("0123456789", 500)
	m := made(t, text, 1, 0)
	seq := 0
	takesNext := func(op []api.Run) {
		t.Helper()
		x, e := m.Take(0, seq+1, seq, op)
		if e != api.OK || !slices.Equal(x.Op, op) {
			t.Fatalf("Take(%s): %s, %d", brief(op), brief(x), int(e))
		}
		text, e = run.Apply(op, text)
		is(t, "Apply", e, api.OK)
		seq++
		is(t, "Saw", m.Saw(0, seq), api.OK)
		if m.Text() != text || m.Len() != len(text) {
			t.Fatalf("behind edit %d: %.80q, %d bytes; want %.80q, %d", seq, m.Text(), m.Len(), text, len(text))
		}
	}
	for range 4000 {
		at := chance.Intn(len(text) - 1)
		takesNext(edit.Norm(runs(keep(at), add("x"), drop(1), keep(len(text)-at-1))))
	}
	for range 3 {
		each := len(text) / 2000
		op := slices.Repeat(runs(keep(each-1), add("yy"), drop(1)), 2000)
		takesNext(edit.Norm(append(op, keep(len(text)-2000*each))))
	}
	takesNext(runs(drop(len(text))))
	takesNext(runs(add(long[:1<<16])))
	takesNext(slices.Repeat(runs(keep(1), drop(1)), api.MaxRuns/2))
	takesNext(slices.Repeat(runs(keep(1), add("z")), api.MaxRuns/2))
}

// TestLongHistory: far more edits than the journal ever keeps.
func TestLongHistory(t *testing.T) {
	m := made(t, "", 3, 0, 1)
	for n := range 3 * api.MaxHistory {
		c := n % 2
		takes(t, m, c, n/2+1, n, atEnd(n, "a"), atEnd(n, "a"))
		is(t, "Saw", m.Saw(1-c, n+1), api.OK)
		numbers(t, m, n+1, n, 0, 1)
	}
}

// Of one that no call made

func TestMadeByNoCall(t *testing.T) {
	var none *master.Master
	for name, m := range map[string]*master.Master{"nil": none, "plain": {}} {
		for _, n := range []int{math.MinInt, -1, 0, 1, api.MaxClients, math.MaxInt} {
			is(t, name+" Join", m.Join(n), api.ErrNil)
			is(t, name+" Leave", m.Leave(n), api.ErrNil)
			is(t, name+" Saw", m.Saw(n, n), api.ErrNil)
			for _, op := range [][]api.Run{nil, runs(add("a")), runs(drop(1))} {
				if x, e := m.Take(n, n, n, op); e != api.ErrNil || x.Client != 0 || x.Seq != 0 || len(x.Op) != 0 {
					t.Errorf("%s: Take: %v, %d", name, x, int(e))
				}
			}
			if l, e := m.Since(n); e != api.ErrNil || len(l) != 0 {
				t.Errorf("%s: Since: %v, %d", name, l, int(e))
			}
			if m.Text() != "" || m.Len() != 0 || m.Rev() != 0 || m.Base() != 0 || m.Seq(n) != 0 || len(m.Members()) != 0 {
				t.Errorf("%s: %s", name, brief(all(m)))
			}
		}
	}
}

func TestMastersAreApart(t *testing.T) {
	one, two := grown(t, 3, 10, 1), grown(t, 3, 10, 1)
	was := all(two)
	takes(t, one, 1, 1, 3, runs(drop(3)), runs(drop(3)))
	is(t, "Leave", one.Leave(0), api.OK)
	is(t, "Join", one.Join(5), api.OK)
	unchanged(t, two, was)
}
