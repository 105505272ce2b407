package replica_test

import (
	"math/rand"
	"strconv"
	"strings"
	"testing"

	"variorum/api"
	"variorum/edit"
	"variorum/master"
	"variorum/replica"
	"variorum/run"
)

// What replicas are for: with a master, on ways that keep order, all come to one text.

// site is a replica, and what is on its way from it and to it while it is in.
type site struct {
	r    *replica.Replica
	in   bool
	up   []api.Msg
	down []entry
}

// entry is an edit that the master took, and the revision that it made.
type entry struct {
	rev int
	x   api.Entry
}

// sites are a master and replicas.
type sites struct {
	t      *testing.T
	chance *rand.Rand
	first  string
	m      *master.Master
	log    [][]api.Run
	taken  map[int]int // of each client how many edits
	l      []*site
	made   int // how many edits there were
}

func newSites(t *testing.T, seed int) *sites {
	chance := rand.New(rand.NewSource(int64(seed)))
	s := &sites{t: t, chance: chance, first: strings.Repeat("-", chance.Intn(10)), taken: map[int]int{}}
	s.m = master.New(s.first, 1+chance.Intn(30))
	for c := range 1 + chance.Intn(5) {
		s.l = append(s.l, &site{r: made(t, c, 0, 0, s.first)})
		s.join(c)
	}
	return s
}

// send sends what is next.
func (s *sites) send(c int) {
	x := s.l[c]
	m, ok := x.r.Next()
	if !ok {
		return
	}
	for _, other := range x.up {
		if other.Kind == api.MsgOp {
			s.t.Fatalf("two edits of %d are under way: %v, %v", c, other, m)
		}
	}
	x.up = append(x.up, m)
}

// join lets a client come, by what it missed, or by the whole text.
func (s *sites) join(c int) {
	s.t.Helper()
	x := s.l[c]
	is(s.t, "Join", s.m.Join(c), api.OK)
	missed, e := s.m.Since(x.r.Rev())
	if e == api.OK {
		for _, y := range missed {
			s.come(c, x.r.Rev()+1, y)
		}
		x.r.Resend()
	} else {
		was := x.r.Text()
		op, e := x.r.Jump(s.m.Rev(), s.m.Seq(c), s.m.Text())
		is(s.t, "Jump", e, api.OK)
		makes(s.t, x.r, was, op, op)
	}
	if x.r.Rev() != s.m.Rev() || x.r.Seq() != s.m.Seq(c) || x.r.Base() != s.m.Text() {
		s.t.Fatalf("%d came again to Rev %d, Seq %d, Base %q; want %d, %d, %q", c, x.r.Rev(), x.r.Seq(), x.r.Base(), s.m.Rev(), s.m.Seq(c), s.m.Text())
	}
	x.in = true
	// Join alone trims nothing: if all others say no more, a full journal has no room until this one says what it saw.
	x.up = append(x.up, api.Msg{Kind: api.MsgAck, Rev: x.r.Rev()})
	s.send(c)
}

// come lets an entry come to a replica.
func (s *sites) come(c, rev int, y api.Entry) {
	s.t.Helper()
	r := s.l[c].r
	was := r.Text()
	op, e := r.Come(rev, y)
	is(s.t, "Come", e, api.OK)
	makes(s.t, r, was, op, op)
	sound(s.t, r)
}

// leave lets a client go; what was on its way is lost.
func (s *sites) leave(c int) {
	s.t.Helper()
	is(s.t, "Leave", s.m.Leave(c), api.OK)
	x := s.l[c]
	x.in, x.up, x.down = false, nil, nil
}

// edit lets a client edit: each edit adds a number of its own, and at times takes something out that is no part of one.
func (s *sites) edit(c int) {
	s.t.Helper()
	r := s.l[c].r
	n := len(r.Text())
	at := s.chance.Intn(n + 1)
	s.made++
	op := runs(keep(at), add("<"+strconv.Itoa(s.made)+">"), keep(n-at))
	if many := min(s.chance.Intn(2), n-at); strings.HasPrefix(r.Text()[at:], "-") {
		op = runs(keep(at), add("<"+strconv.Itoa(s.made)+">"), drop(many), keep(n-at-many))
	}
	if e := r.Edit(edit.Norm(op)); len(r.Pending()) < api.MaxWindow {
		is(s.t, "Edit", e, api.OK)
	}
	sound(s.t, r)
	if s.l[c].in {
		s.send(c)
	}
}

// goUp lets the first message of a client come to the master.
func (s *sites) goUp(c int) {
	s.t.Helper()
	x := s.l[c]
	if len(x.up) == 0 {
		return
	}
	m := x.up[0]
	x.up = x.up[1:]
	if m.Kind == api.MsgAck {
		is(s.t, "Saw", s.m.Saw(c, m.Rev), api.OK)
		return
	}
	y, e := s.m.Take(c, m.Seq, m.Rev, m.Op)
	if e == api.ErrFull {
		x.r.Resend()
		s.send(c)
		return
	}
	is(s.t, "Take", e, api.OK)
	s.taken[c]++
	if y.Seq != s.taken[c] {
		s.t.Fatalf("Seq %d of the edit %d of %d", y.Seq, s.taken[c], c)
	}
	s.log = append(s.log, y.Op)
	for _, to := range s.l {
		if to.in {
			to.down = append(to.down, entry{s.m.Rev(), y})
		}
	}
}

// goDown lets the first entry come to a client.
func (s *sites) goDown(c int) {
	s.t.Helper()
	x := s.l[c]
	if len(x.down) == 0 {
		return
	}
	y := x.down[0]
	x.down = x.down[1:]
	s.come(c, y.rev, y.x)
	x.up = append(x.up, api.Msg{Kind: api.MsgAck, Rev: y.rev})
	s.send(c)
}

// step does anything.
func (s *sites) step() {
	s.t.Helper()
	c := s.chance.Intn(len(s.l))
	x := s.l[c]
	switch what := s.chance.Intn(60); {
	case what == 0 && x.in:
		s.leave(c)
	case what == 1 && !x.in:
		x.r.Drop()
		sound(s.t, x.r)
	case what <= 10 && !x.in:
		s.join(c)
	case what <= 20:
		s.edit(c)
	case what <= 40:
		s.goUp(c)
	default:
		s.goDown(c)
	}
}

// settle lets all come that left, and goes on until nothing is on its way.
func (s *sites) settle() {
	s.t.Helper()
	for c, x := range s.l {
		if !x.in {
			s.join(c)
		}
	}
	for range 100000 {
		left := 0
		for c, x := range s.l {
			left += len(x.up) + len(x.down) + len(x.r.Pending())
			s.goUp(c)
			s.goDown(c)
		}
		if left == 0 {
			return
		}
	}
	s.t.Fatal("does not settle")
}

// meet holds that all have one text, which is the first one behind all that was taken, and in which each edit was done once at most.
func (s *sites) meet() {
	s.t.Helper()
	text, e := run.Fold(s.log, s.first)
	if e != api.OK || text != s.m.Text() || s.m.Rev() != len(s.log) {
		s.t.Fatalf("%q, %d; the master has %q, at %d of %d", text, int(e), s.m.Text(), s.m.Rev(), len(s.log))
	}
	for c, x := range s.l {
		if x.r.Text() != text || x.r.Base() != text || x.r.Rev() != s.m.Rev() || x.r.Seq() != s.m.Seq(c) || x.r.Seq() != s.taken[c] {
			s.t.Fatalf("%d: %q, Rev %d, Seq %d; the master has %q, %d, %d", c, x.r.Text(), x.r.Rev(), x.r.Seq(), text, s.m.Rev(), s.m.Seq(c))
		}
	}
	added := 0
	for _, op := range s.log {
		for _, r := range op {
			added += strings.Count(r.Add, "<")
		}
	}
	if added != len(s.log) {
		s.t.Fatalf("%d edits added %d", len(s.log), added)
	}
	for n := range s.made {
		if many := strings.Count(text, "<"+strconv.Itoa(n+1)+">"); many > 1 {
			s.t.Fatalf("edit %d was done %d times", n+1, many)
		}
	}
}

func TestSitesMeet(t *testing.T) {
	for seed := range 150 {
		s := newSites(t, seed)
		for range 3 {
			for range 200 {
				s.step()
			}
			s.settle()
			s.meet()
		}
		if len(s.log) < 10 {
			t.Errorf("just %d edits were taken", len(s.log))
		}
	}
}
