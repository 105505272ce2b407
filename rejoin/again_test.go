package rejoin_test

import (
	"fmt"
	"math/rand"
	"slices"
	"strings"
	"testing"

	"variorum/api"
	"variorum/edit"
	"variorum/master"
	"variorum/message"
	"variorum/rejoin"
	"variorum/replica"
	"variorum/run"
)

// P21.4, P21.5

// world is a master and clients that come, leave at any moment, and come again.
type world struct {
	t         *testing.T
	m         *master.Master
	texts     []string // at each revision
	log       []api.Entry
	l         []*guest
	epoch     int
	ops, alls int // how often who came got what it missed, and the whole text
}

// guest is a client, and what is on its way from it and to it while it is in.
type guest struct {
	r        *replica.Replica
	in, live bool // live: it has caught up
	up, down []api.Msg
	done     []string        // what its edits added, in order
	dropped  map[string]bool // of these, what was pending when it dropped
	never    map[string]bool // of these, what the server had not taken then
}

// newWorld tells a world of clients, none of which is in.
func newWorld(t *testing.T, clients, most int) *world {
	t.Helper()
	w := &world{t: t, m: master.New("-", most), texts: []string{"-"}}
	for c := range clients {
		w.l = append(w.l, &guest{r: made(t, c, 0, 0, "-"), dropped: map[string]bool{}, never: map[string]bool{}})
	}
	return w
}

// added tells what an edit adds.
func added(op []api.Run) string {
	s := ""
	for _, r := range op {
		s += r.Add
	}
	return s
}

// come lets a client come: its Hello comes up, and what it missed is on its way down.
func (w *world) come(c int) {
	w.t.Helper()
	x := w.l[c]
	w.epoch++
	h := rejoin.Hello(x.r, c, w.epoch)
	says(w.t, h, hello(c, w.epoch, x.r.Rev(), x.r.Seq()))
	l, e := rejoin.Welcome(w.m, h)
	is(w.t, "Welcome", e, api.OK)
	for _, m := range append(l, h) {
		if !message.Good(m) {
			w.t.Fatalf("%s is not right", brief(m))
		}
	}
	if l[len(l)-1].Kind == api.MsgSnapshot {
		w.alls++
	} else {
		w.ops++
	}
	x.in, x.live, x.up, x.down = true, false, nil, l
}

// leave lets a client go; what is on its way is lost. With drop nothing of its own is pending any more.
func (w *world) leave(c int, drop bool) {
	w.t.Helper()
	x := w.l[c]
	is(w.t, "Leave", w.m.Leave(c), api.OK)
	x.in, x.live, x.up, x.down = false, false, nil, nil
	if drop {
		w.drop(c)
	}
	w.sound(c)
}

// drop lets a client that is away drop what is pending.
func (w *world) drop(c int) {
	w.t.Helper()
	x := w.l[c]
	for _, op := range x.r.Pending() {
		s := added(op)
		x.dropped[s] = true
		if !slices.ContainsFunc(w.log, func(y api.Entry) bool { return added(y.Op) == s }) {
			x.never[s] = true
		}
	}
	x.r.Drop()
}

// edit lets a client do an edit that adds what no other one adds, at a place, and takes bytes out behind it.
func (w *world) edit(c, at, many int) {
	w.t.Helper()
	x := w.l[c]
	n := len(x.r.Text())
	s := fmt.Sprintf("<%d.%d>", c, len(x.done))
	op := edit.Norm(runs(keep(at), add(s), drop(many), keep(n-at-many)))
	if len(x.r.Pending()) == api.MaxWindow {
		is(w.t, "Edit", x.r.Edit(op), api.ErrWindow)
		return
	}
	is(w.t, "Edit", x.r.Edit(op), api.OK)
	x.done = append(x.done, s)
	x.send()
	w.sound(c)
}

// send lets what is next go up, if the client has caught up.
func (x *guest) send() {
	if !x.live {
		return
	}
	if m, ok := x.r.Next(); ok {
		x.up = append(x.up, m)
	}
}

// goUp lets the first message of a client come to the master.
func (w *world) goUp(c int) {
	w.t.Helper()
	x := w.l[c]
	if len(x.up) == 0 {
		return
	}
	m := x.up[0]
	x.up = x.up[1:]
	if m.Kind == api.MsgAck {
		is(w.t, "Saw", w.m.Saw(c, m.Rev), api.OK)
		return
	}
	y, e := w.m.Take(c, m.Seq, m.Rev, m.Op)
	if e == api.ErrFull {
		x.down = append(x.down, api.Msg{Kind: api.MsgError, Code: int(e)})
		return
	}
	is(w.t, "Take", e, api.OK)
	w.log, w.texts = append(w.log, y), append(w.texts, w.m.Text())
	for _, to := range w.l {
		if to.in {
			to.down = append(to.down, takenOf(c, y.Seq, w.m.Rev(), y.Op))
		}
	}
}

// goDown lets the first message come to a client.
func (w *world) goDown(c int) {
	w.t.Helper()
	x := w.l[c]
	if len(x.down) == 0 {
		return
	}
	m := x.down[0]
	x.down = x.down[1:]
	if m.Kind == api.MsgError {
		x.r.Resend()
		x.send()
		return
	}
	was := x.r.Text()
	op, e := rejoin.Catch(x.r, m)
	is(w.t, "Catch of "+brief(m), e, api.OK)
	if text, e := run.Apply(op, was); (len(op) > 0 || was != x.r.Text()) && (e != api.OK || text != x.r.Text()) {
		w.t.Fatalf("%s makes %.80q of %.80q; the text is %.80q", brief(op), text, was, x.r.Text())
	}
	if m.Kind != api.MsgOp {
		x.live = true
	}
	if x.live {
		x.up = append(x.up, ack(x.r.Rev(), 0))
	}
	x.send()
	w.sound(c)
}

// sound holds what a client has: the server's text at its revision, and behind it each edit that it did, did not drop, and does not know to be taken, in order.
func (w *world) sound(c int) {
	w.t.Helper()
	r := w.l[c].r
	if r.Rev() > len(w.log) || r.Base() != w.texts[r.Rev()] {
		w.t.Fatalf("%d at revision %d has %.80q; want %.80q", c, r.Rev(), r.Base(), w.texts[r.Rev()])
	}
	text, e := run.Fold(r.Pending(), r.Base())
	if e != api.OK || text != r.Text() {
		w.t.Fatalf("%d: Text %.80q; %.80q behind %s is %.80q, %d", c, r.Text(), r.Base(), brief(r.Pending()), text, int(e))
	}
	known := w.taken(c, r.Rev())
	var want, got []string
	for _, s := range w.l[c].done {
		if !w.l[c].dropped[s] && !slices.Contains(known, s) {
			want = append(want, s)
		}
	}
	for _, op := range r.Pending() {
		got = append(got, added(op))
	}
	if !slices.Equal(got, want) || r.Seq() != len(known) {
		w.t.Fatalf("%d at revision %d: Seq %d, pending %v; want %d, %v", c, r.Rev(), r.Seq(), got, len(known), want)
	}
}

// taken tells what the edits of a client added that were taken up to a revision.
func (w *world) taken(c, rev int) (l []string) {
	for _, y := range w.log[:rev] {
		if y.Client == c {
			l = append(l, added(y.Op))
		}
	}
	return l
}

// caught lets all that a client missed come to it, and holds that it has the server's text then, and what it had pending behind it.
func (w *world) caught(c int) {
	w.t.Helper()
	x := w.l[c]
	for len(x.down) > 0 {
		w.goDown(c)
	}
	if !x.live || x.r.Rev() != w.m.Rev() || x.r.Seq() != w.m.Seq(c) || x.r.Base() != w.m.Text() {
		w.t.Fatalf("%d came again to Rev %d, Seq %d, Base %.80q; want %d, %d, %.80q", c, x.r.Rev(), x.r.Seq(), x.r.Base(), w.m.Rev(), w.m.Seq(c), w.m.Text())
	}
	if len(x.r.Pending()) == 0 && x.r.Text() != w.m.Text() {
		w.t.Fatalf("%d has %.80q; want %.80q", c, x.r.Text(), w.m.Text())
	}
}

// settle lets all come that is on its way, and all clients that are away.
func (w *world) settle() {
	w.t.Helper()
	for c, x := range w.l {
		if !x.in {
			w.come(c)
		}
	}
	for range 100000 {
		left := 0
		for c, x := range w.l {
			left += len(x.up) + len(x.down) + len(x.r.Pending())
			w.goUp(c)
			w.goDown(c)
		}
		if left == 0 {
			return
		}
	}
	w.t.Fatal("does not settle")
}

// meet holds that all have one text, and that each client's edits are in the log once, in order, but for those that it dropped ahead of their being taken, which are not.
func (w *world) meet() {
	w.t.Helper()
	var ops [][]api.Run
	for _, y := range w.log {
		ops = append(ops, y.Op)
	}
	if text, e := run.Fold(ops, "-"); e != api.OK || text != w.m.Text() {
		w.t.Fatalf("%.80q, %d; the master has %.80q", text, int(e), w.m.Text())
	}
	for c, x := range w.l {
		if x.r.Text() != w.m.Text() || x.r.Rev() != w.m.Rev() || len(x.r.Pending()) > 0 {
			w.t.Fatalf("%d has %.80q, at %d; want %.80q, at %d", c, x.r.Text(), x.r.Rev(), w.m.Text(), w.m.Rev())
		}
		var want []string
		for _, s := range x.done {
			if !x.never[s] {
				want = append(want, s)
			}
		}
		if got := w.taken(c, len(w.log)); !slices.Equal(got, want) || w.m.Seq(c) != len(want) {
			w.t.Fatalf("of %d were taken %v; want %v", c, got, want)
		}
	}
	for i, y := range w.log {
		if many := len(w.taken(y.Client, i+1)); y.Seq != many {
			w.t.Fatalf("entry %d is the edit %d of %d; its Seq is %d", i+1, many, y.Client, y.Seq)
		}
	}
}

// Where a client stands with its first edits when it leaves.
const (
	unsent  = iota // none was sent
	onItsUp        // the first one is on its way up
	onDown         // the server took it; its entry is on its way down
	came           // its entry came; the acknowledgement, and the second one, are on their way up
	second         // the server took that one too
	moments
)

// scene is how a client leaves, and comes again.
type scene struct {
	pending, moment    int
	ahead, behind      int // edits of another one: taken ahead of what is on its way, and when it is away
	drop, whole        bool
	away               int // edits that it does while it is away, behind dropping
	leavesBehind, more int // of what it missed it catches so many, and leaves once more; -1: it does not
}

// leaves lets client 0 leave as a scene tells.
func (s scene) leaves(w *world) {
	w.t.Helper()
	for c := range 2 {
		w.come(c)
		w.caught(c)
	}
	w.edit(0, 0, 0)
	w.goUp(0)
	w.goUp(0)
	for range 3 {
		w.goDown(0)
		w.goUp(0)
		w.goDown(1)
		w.goUp(1)
	}
	w.l[0].live = s.moment != unsent
	for n := range s.pending {
		w.edit(0, n%3, n%2)
	}
	s.others(w, s.ahead)
	if s.moment >= onDown {
		w.goUp(0)
	}
	if s.moment >= came {
		w.comesDown(0)
	}
	if s.moment >= second {
		w.goesUp(0)
	}
	w.leave(0, s.drop)
	s.others(w, s.behind)
	for range s.away {
		w.edit(0, len(w.l[0].r.Text())/2, 0)
	}
	if s.whole {
		w.comesDown(1)
		w.goesUp(1)
	}
}

// others lets client 1 do edits that are taken.
func (s scene) others(w *world, many int) {
	w.t.Helper()
	for range many {
		w.comesDown(1)
		for len(w.l[1].r.Pending()) > 0 {
			w.goesUp(1)
			w.comesDown(1)
		}
		// At the beginning, where client 0 edits too, and at the end.
		w.edit(1, len(w.l[1].r.Text())*(len(w.l[1].done)%2), 0)
		// Just the edit comes up: what it saw is not said, so that the journal keeps what was taken.
		up := w.l[1].up
		w.l[1].up = up[len(up)-1:]
		w.goUp(1)
	}
}

// comesDown lets all that is on its way down to a client come.
func (w *world) comesDown(c int) {
	w.t.Helper()
	for len(w.l[c].down) > 0 {
		w.goDown(c)
	}
}

// goesUp lets all that is on its way up from a client come.
func (w *world) goesUp(c int) {
	w.t.Helper()
	for len(w.l[c].up) > 0 {
		w.goUp(c)
	}
}

// plays plays a scene, and tells how often somebody came again by what was missed, and by the whole text.
func (s scene) plays(t *testing.T) (ops, alls int) {
	t.Helper()
	w := newWorld(t, 2, 1000)
	s.leaves(w)
	had := len(w.l[0].r.Pending())
	ops, alls = w.ops, w.alls
	w.come(0)
	if s.leavesBehind >= 0 {
		for range min(s.leavesBehind, len(w.l[0].down)) {
			w.goDown(0)
		}
		w.leave(0, false)
		s.others(w, s.more)
		w.come(0)
	}
	w.caught(0)
	if s.drop && s.away == 0 && (had != 0 || w.l[0].r.Text() != w.m.Text()) {
		t.Fatalf("%+v: %d are pending, and the text is %.80q; want %.80q", s, had, w.l[0].r.Text(), w.m.Text())
	}
	ops, alls = w.ops-ops, w.alls-alls
	w.settle()
	w.meet()
	return ops, alls
}

// scenes tells scenes of each kind, in which so many edits are pending.
func scenes(pending int) (l []scene) {
	for moment := range moments {
		for _, others := range [][2]int{{0, 0}, {1, 0}, {0, 1}, {2, 3}} {
			for _, away := range []int{0, 2} {
				for _, drop := range []bool{false, true} {
					for _, whole := range []bool{false, true} {
						l = append(l, scene{pending: pending, moment: moment, ahead: others[0], behind: others[1], away: min(away, api.MaxWindow-pending), drop: drop, whole: whole, leavesBehind: -1})
					}
				}
			}
		}
	}
	return l
}

// TestLeavesAtAnyMoment: with none, some and as many edits pending as there may be; with an edit, its entry and acknowledgements on their way; by what was missed and by the whole text; with what was pending, and without.
func TestLeavesAtAnyMoment(t *testing.T) {
	ops, alls := 0, 0
	for _, pending := range []int{0, 1, 2, 5, api.MaxWindow} {
		for _, s := range scenes(pending) {
			t.Run(fmt.Sprintf("%+v", s), func(t *testing.T) {
				a, b := s.plays(t)
				ops, alls = ops+a, alls+b
			})
		}
	}
	if ops < 200 || alls < 100 {
		t.Errorf("%d came again by what they missed, %d by the whole text", ops, alls)
	}
}

// TestLeavesAmidCatching: who leaves once more behind some of what it missed has all the same.
func TestLeavesAmidCatching(t *testing.T) {
	for _, pending := range []int{0, 1, 3} {
		for _, s := range scenes(pending) {
			for behind := range 6 {
				s.leavesBehind, s.more = behind, behind%3
				t.Run(fmt.Sprintf("%+v", s), func(t *testing.T) { s.plays(t) })
			}
		}
	}
}

// TestDroppedWhileUnderWay: what was dropped is taken at most once, and comes as another one's.
func TestDroppedWhileUnderWay(t *testing.T) {
	for _, taken := range []bool{false, true} {
		for _, whole := range []bool{false, true} {
			w := newWorld(t, 2, 1000)
			s := scene{pending: 2, moment: onItsUp, drop: true, behind: 1, whole: whole}
			if taken {
				s.moment = onDown
			}
			s.leaves(w)
			w.come(0)
			w.caught(0)
			if has := strings.Contains(w.l[0].r.Text(), "<0.1>"); has != taken || strings.Contains(w.l[0].r.Text(), "<0.2>") {
				t.Errorf("taken %t, whole %t: %q", taken, whole, w.l[0].r.Text())
			}
			w.edit(0, 0, 0)
			w.settle()
			w.meet()
			if got := w.taken(0, len(w.log)); got[len(got)-1] != "<0.3>" || slices.Contains(got, "<0.1>") != taken {
				t.Errorf("taken %t, whole %t: %v", taken, whole, got)
			}
		}
	}
}

// TestOverAndOver: a client that leaves behind each single message, again and again, has each of its edits taken once.
func TestOverAndOver(t *testing.T) {
	w := newWorld(t, 1, api.MaxHistory)
	for range api.MaxWindow {
		w.edit(0, 0, 0)
	}
	for range 2 * api.MaxWindow {
		w.come(0)
		w.caught(0)
		w.goesUp(0) // its first edit is taken, and the entry never comes
		w.leave(0, false)
	}
	w.settle()
	w.meet()
	if len(w.log) != api.MaxWindow || w.m.Text()[:7] != "<0.63><" {
		t.Errorf("%d, %.80q", len(w.log), w.m.Text())
	}
}

// step does anything.
func (w *world) step(chance *rand.Rand) {
	w.t.Helper()
	c := chance.Intn(len(w.l))
	x := w.l[c]
	switch what := chance.Intn(60); {
	case what <= 1 && x.in:
		w.leave(c, what == 1)
	case what == 2 && !x.in:
		w.drop(c)
		w.sound(c)
	case what <= 8 && !x.in:
		w.come(c)
	case what <= 20:
		n := len(x.r.Text())
		at := chance.Intn(n + 1)
		w.edit(c, at, min(chance.Intn(4), n-at))
	case what <= 40:
		w.goUp(c)
	default:
		w.goDown(c)
	}
}

// TestAnyOrder: many clients, anything in any order, and journals that keep little and much.
func TestAnyOrder(t *testing.T) {
	ops, alls, never := 0, 0, 0
	for seed := range 150 {
		chance := rand.New(rand.NewSource(int64(seed)))
		w := newWorld(t, 1+chance.Intn(6), []int{1, 3, 20, api.MaxHistory}[seed%4])
		for range 3 {
			for range 300 {
				w.step(chance)
			}
			w.settle()
			w.meet()
		}
		ops, alls = ops+w.ops, alls+w.alls
		for _, x := range w.l {
			never += len(x.never)
		}
	}
	if ops < 500 || alls < 500 || never < 500 {
		t.Errorf("%d came by what they missed, %d by the whole text; %d edits were dropped ahead of being taken", ops, alls, never)
	}
}
