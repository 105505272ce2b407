package session_test

import (
	"math/rand"
	"slices"
	"strconv"
	"testing"

	"variorum/api"
	"variorum/frame"
	"variorum/session"
)

// model is a peer as lists, in the chapter's words.
type model struct {
	epoch, most, wait, clock int
	sent                     []string // all of them; the first one's number is 1
	told                     []bool   // of each of them, whether Flush told it
	acked                    int
	came                     map[int]string // all of them, those that were told by Hear too
	upto                     int
	owed, again              bool
}

func (m *model) send(data string) api.Errno {
	if len(data) > api.MaxFrame {
		return api.ErrLong
	}
	if len(m.sent)-m.acked == m.most {
		return api.ErrWindow
	}
	m.sent, m.told = append(m.sent, data), append(m.told, false)
	return api.OK
}

func (m *model) hear(x api.Packet) ([]string, api.Errno) {
	if !frame.Good(x) || x.Ack > len(m.sent) {
		return nil, api.ErrArg
	}
	if x.Epoch != m.epoch {
		return nil, api.ErrEpoch
	}
	if x.Ack > m.acked {
		m.acked, m.clock = x.Ack, 0
	}
	if x.Seq > m.upto+m.most {
		return nil, api.ErrWindow
	}
	if x.Seq == 0 {
		return nil, api.OK
	}
	m.owed = true
	if _, is := m.came[x.Seq]; !is {
		m.came[x.Seq] = x.Data
	}
	var told []string
	for {
		data, is := m.came[m.upto+1]
		if !is {
			return told, api.OK
		}
		m.upto++
		told = append(told, data)
	}
}

func (m *model) tick() {
	m.clock++
	if m.acked == len(m.sent) {
		m.clock = 0
	}
	if m.clock == m.wait {
		m.again, m.clock = true, 0
	}
}

func (m *model) flush() (l []api.Packet) {
	for i, data := range m.sent {
		if i >= m.acked && (m.again || !m.told[i]) {
			l = append(l, api.Packet{Epoch: m.epoch, Seq: i + 1, Ack: m.upto, Data: data})
		}
		m.told[i] = true
	}
	if len(l) == 0 && m.owed {
		l = append(l, api.Packet{Epoch: m.epoch, Ack: m.upto})
	}
	m.owed, m.again = false, false
	return l
}

func (m *model) reset(epoch int) api.Errno {
	if epoch <= m.epoch || epoch > api.MaxNum {
		return api.ErrEpoch
	}
	*m = model{epoch: epoch, most: m.most, wait: m.wait, came: map[int]string{}}
	return api.OK
}

// anyPacket tells a packet that is near to what a peer hears, if not what it is to hear.
func (m *model) anyPacket(chance *rand.Rand) api.Packet {
	x := api.Packet{Epoch: m.epoch, Seq: m.upto - 2 + chance.Intn(m.most+5), Ack: m.acked - 2 + chance.Intn(len(m.sent)-m.acked+4)}
	if chance.Intn(8) == 0 {
		x.Epoch += chance.Intn(3) - 1
	}
	if x.Seq < 0 || chance.Intn(5) == 0 {
		x.Seq = 0
	}
	if x.Seq > 0 || chance.Intn(8) == 0 {
		x.Data = strconv.Itoa(chance.Intn(1000))
	}
	if chance.Intn(4) > 0 {
		x.Ack = max(0, min(x.Ack, len(m.sent)))
	}
	return x
}

// TestPeerAsLists holds a peer against lists, whatever is done.
func TestPeerAsLists(t *testing.T) {
	for seed := range 60 {
		chance := rand.New(rand.NewSource(int64(seed)))
		m := &model{epoch: seed % 3, most: []int{1, 2, 3, 8, api.MaxWindow}[seed%5], wait: 1 + seed%4, came: map[int]string{}}
		p := fresh(t, m.epoch, m.most, m.wait, "")
		for range 1500 {
			switch what := chance.Intn(100); {
			case what < 25:
				data := strconv.Itoa(chance.Intn(1000))
				if got, want := p.Send(data), m.send(data); got != want {
					t.Fatalf("Send: %d; want %d", got, want)
				}
			case what < 60:
				x := m.anyPacket(chance)
				got, gotE := p.Hear(x)
				want, wantE := m.hear(x)
				if !slices.Equal(got, want) || gotE != wantE {
					t.Fatalf("Hear(%v): %q, %d; want %q, %d", x, got, gotE, want, wantE)
				}
			case what < 80:
				if e := p.Tick(); e != api.OK {
					t.Fatalf("Tick: %d", e)
				}
				m.tick()
			case what < 99:
				if got, want := p.Flush(), m.flush(); !slices.Equal(got, want) {
					t.Fatalf("Flush: %v; want %v", got, want)
				}
			default:
				epoch := m.epoch - 1 + chance.Intn(4)
				if got, want := p.Reset(epoch), m.reset(epoch); got != want {
					t.Fatalf("Reset(%d): %d; want %d", epoch, got, want)
				}
			}
			holds(t, p, m.epoch, m.acked == len(m.sent) && !m.owed, m.most-(len(m.sent)-m.acked))
		}
	}
}

// P15.6, P15.7

// link is two peers, with what is on its way to each of them, and what each of them sent and heard in its epoch.
type link struct {
	peers       [2]*session.Peer
	way         [2][]api.Packet
	sent, heard [2][]string
	all         int // how many texts were sent in all
}

func newLink(t *testing.T, mosts, waits [2]int) *link {
	t.Helper()
	return &link{peers: [2]*session.Peer{fresh(t, 1, mosts[0], waits[0], ""), fresh(t, 1, mosts[1], waits[1], "")}}
}

// send sends one more text, if there is room.
func (l *link) send(t *testing.T, i int) {
	t.Helper()
	data := strconv.Itoa(l.all)
	room := l.peers[i].Room()
	e := l.peers[i].Send(data)
	if (e == api.OK) != (room > 0) || e != api.OK && e != api.ErrWindow {
		t.Fatalf("Send with room %d: %d", room, e)
	}
	if e == api.OK {
		l.sent[i] = append(l.sent[i], data)
		l.all++
	}
}

// let lets a peer hear a packet: what it heard is a beginning of what the other one sent.
func (l *link) let(t *testing.T, i int, x api.Packet) {
	t.Helper()
	told, e := l.peers[i].Hear(x)
	if e != api.OK && (x.Epoch == l.peers[i].Epoch() && e != api.ErrWindow || len(told) > 0) {
		t.Fatalf("Hear(%v): %q, %d", x, told, e)
	}
	l.heard[i] = append(l.heard[i], told...)
	if sent := l.sent[1-i]; len(l.heard[i]) > len(sent) || !slices.Equal(l.heard[i], sent[:len(l.heard[i])]) {
		t.Fatalf("heard %q of %q", l.heard[i], sent)
	}
}

// step sends, ticks, flushes, loses, doubles or lets something be heard, in any order, as chance will have it.
func (l *link) step(t *testing.T, chance *rand.Rand) {
	t.Helper()
	i := chance.Intn(2)
	at := chance.Intn(len(l.way[i]) + 1)
	switch what := chance.Intn(10); {
	case what < 2:
		l.send(t, i)
	case what == 2:
		l.peers[i].Tick()
	case what < 5:
		l.way[1-i] = append(l.way[1-i], l.peers[i].Flush()...)
	case at == len(l.way[i]):
	case what == 5:
		l.way[i] = slices.Delete(l.way[i], at, at+1)
	case what == 6:
		l.way[i] = append(l.way[i], l.way[i][at])
	default:
		x := l.way[i][at]
		l.way[i] = slices.Delete(l.way[i], at, at+1)
		l.let(t, i, x)
	}
	// What is long on its way is lost, so that not all of it is.
	l.way[i] = l.way[i][max(0, len(l.way[i])-200):]
}

// reset begins a new epoch at both ends; what is on its way stays there.
func (l *link) reset(t *testing.T) {
	t.Helper()
	for i, p := range l.peers {
		if e := p.Reset(p.Epoch() + 1); e != api.OK {
			t.Fatalf("Reset: %d", e)
		}
		l.sent[i], l.heard[i] = nil, nil
	}
}

// exchange lets each peer hear all that the other one's Flush tells: of both at once, or of one behind the other.
func (l *link) exchange(t *testing.T, atOnce bool) {
	t.Helper()
	first := l.peers[0].Flush()
	var second []api.Packet
	if atOnce {
		second = l.peers[1].Flush()
	}
	for _, x := range first {
		l.let(t, 1, x)
	}
	if !atOnce {
		second = l.peers[1].Flush()
	}
	for _, x := range second {
		l.let(t, 0, x)
	}
}

// settled tells whether all was heard, and both peers are idle.
func (l *link) settled() bool {
	return slices.Equal(l.heard[0], l.sent[1]) && slices.Equal(l.heard[1], l.sent[0]) && l.peers[0].Idle() && l.peers[1].Idle()
}

// settles holds that all is heard within twice the greater wait and two more ticks.
func (l *link) settles(t *testing.T, wait int, atOnce bool) {
	t.Helper()
	for range 2*wait + 2 {
		for _, p := range l.peers {
			p.Tick()
		}
		l.exchange(t, atOnce)
		l.exchange(t, atOnce)
	}
	if !l.settled() {
		t.Fatalf("heard %d of %d, and %d of %d; Idle: %t, %t", len(l.heard[1]), len(l.sent[0]), len(l.heard[0]), len(l.sent[1]), l.peers[0].Idle(), l.peers[1].Idle())
	}
}

func TestOnceAndAll(t *testing.T) {
	for _, mosts := range [][2]int{{1, 1}, {2, 2}, {4, 4}, {api.MaxWindow, api.MaxWindow}, {8, 2}, {1, api.MaxWindow}} {
		for seed := range 24 {
			chance := rand.New(rand.NewSource(int64(seed)))
			waits := [2]int{1 + seed%4, 1 + seed%3}
			l := newLink(t, mosts, waits)
			for round := range 4 {
				for range 1500 {
					l.step(t, chance)
				}
				for i := range l.way {
					// What is on its way still: lost, or heard late, in any order.
					chance.Shuffle(len(l.way[i]), func(a, b int) { l.way[i][a], l.way[i][b] = l.way[i][b], l.way[i][a] })
					for _, x := range l.way[i][:len(l.way[i])*(round%3)/2] {
						l.let(t, i, x)
					}
				}
				l.way = [2][]api.Packet{}
				l.settles(t, max(waits[0], waits[1]), seed%2 == 0)
				if len(l.sent[0]) < 10*(round+1) {
					t.Fatalf("windows of %v: only %d were sent", mosts, len(l.sent[0]))
				}
			}
		}
	}
}

// TestOnceOverEpochs: what comes late from an epoch that is over is not heard.
func TestOnceOverEpochs(t *testing.T) {
	for seed := range 24 {
		chance := rand.New(rand.NewSource(int64(seed)))
		l := newLink(t, [2]int{8, 8}, [2]int{3, 3})
		for range 12 {
			for range 300 {
				l.step(t, chance)
			}
			l.reset(t)
			holds(t, l.peers[0], l.peers[1].Epoch(), true, 8)
		}
		for range 300 {
			l.step(t, chance)
		}
		l.settles(t, 3, seed%2 == 0)
	}
}

// TestAllBehindAnyLoss loses, of all that goes to and fro in three rounds, each set of packets, and then nothing any more.
func TestAllBehindAnyLoss(t *testing.T) {
	for lost := range 1 << 10 {
		for wait := 1; wait <= 3; wait++ {
			l := newLink(t, [2]int{4, 4}, [2]int{wait, wait})
			gone := 0
			for range 3 {
				l.send(t, 0)
				l.send(t, 1)
				for i, p := range l.peers {
					p.Tick()
					for _, x := range p.Flush() {
						if gone++; lost>>(gone%10)&1 == 0 {
							l.let(t, 1-i, x)
						}
					}
				}
			}
			l.settles(t, wait, lost%2 == 0)
		}
	}
}

// TestNothingIsToldAgainOverAGoodLink: as long as all is heard at once, each text is told once.
func TestNothingIsToldAgainOverAGoodLink(t *testing.T) {
	l := newLink(t, [2]int{4, 4}, [2]int{2, 2})
	told := 0
	for n := range 50 {
		l.send(t, n%2)
		for i, p := range l.peers {
			p.Tick()
			for _, x := range p.Flush() {
				if x.Seq > 0 {
					told++
				}
				l.let(t, 1-i, x)
			}
		}
	}
	if told != 50 {
		t.Errorf("told %d times", told)
	}
	l.settles(t, 2, false)
}
