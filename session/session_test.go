package session_test

import (
	"math"
	"slices"
	"strings"
	"testing"

	"variorum/api"
	"variorum/frame"
	"variorum/session"
)

// long is a text of one byte more than MaxFrame.
var long = strings.Repeat("d", api.MaxFrame+1)

// letters are texts to send: each is one letter.
const letters = "abcdefghijklmnopqrstuvwxyzABCDEFGHIJKLMNOPQRSTUVWXYZ0123456789-+"

// fresh tells a new peer that has sent the letters of a text.
func fresh(t *testing.T, epoch, most, wait int, text string) *session.Peer {
	t.Helper()
	p := session.New(epoch, most, wait)
	if p == nil {
		t.Fatalf("New(%d, %d, %d): nil", epoch, most, wait)
	}
	sends(t, p, text)
	return p
}

// sends sends each letter of a text.
func sends(t *testing.T, p *session.Peer, text string) {
	t.Helper()
	for i := range len(text) {
		if e := p.Send(text[i : i+1]); e != api.OK {
			t.Fatalf("Send(%s): %d", text[i:i+1], e)
		}
	}
}

// refuses holds that a text is not sent.
func refuses(t *testing.T, p *session.Peer, data string, e api.Errno) {
	t.Helper()
	if got := p.Send(data); got != e {
		t.Fatalf("Send of %d bytes: %d; want %d", len(data), got, e)
	}
}

// hears holds that a packet tells the letters of a text, each as a text of its own, and an error.
func hears(t *testing.T, p *session.Peer, x api.Packet, text string, e api.Errno) {
	t.Helper()
	got, gotE := p.Hear(x)
	if gotE != e || len(got) != len(text) || strings.Join(got, "") != text {
		t.Fatalf("Hear(%d, %d, %d): %q, %d; want %q, %d", x.Epoch, x.Seq, x.Ack, got, gotE, text, e)
	}
}

// flushes holds what Flush tells, and that it then tells nothing.
func flushes(t *testing.T, p *session.Peer, want ...api.Packet) {
	t.Helper()
	if got := p.Flush(); !slices.Equal(got, want) {
		t.Fatalf("Flush: %v; want %v", got, want)
	}
	if got := p.Flush(); len(got) != 0 {
		t.Fatalf("Flush again: %v", got)
	}
}

// packets tells packets of the letters of a text, numbered from a number on.
func packets(epoch, from, ack int, text string) (l []api.Packet) {
	for i := range len(text) {
		l = append(l, api.Packet{Epoch: epoch, Seq: from + i, Ack: ack, Data: text[i : i+1]})
	}
	return l
}

// holds holds all that a peer tells of itself.
func holds(t *testing.T, p *session.Peer, epoch int, idle bool, room int) {
	t.Helper()
	if p.Epoch() != epoch || p.Idle() != idle || p.Room() != room {
		t.Fatalf("Epoch %d, Idle %t, Room %d; want %d, %t, %d", p.Epoch(), p.Idle(), p.Room(), epoch, idle, room)
	}
}

// ticks lets time go on, with nothing to be told behind each tick.
func ticks(t *testing.T, p *session.Peer, many int) {
	t.Helper()
	for n := range many {
		if e := p.Tick(); e != api.OK {
			t.Fatalf("Tick: %d", e)
		}
		if l := p.Flush(); len(l) != 0 {
			t.Fatalf("behind tick %d of %d: %v", n+1, many, l)
		}
	}
}

// tellsAgainIn holds that a peer, whose packets were told, tells these again at the tick of that number, not ahead of it.
func tellsAgainIn(t *testing.T, p *session.Peer, many int, want ...api.Packet) {
	t.Helper()
	ticks(t, p, many-1)
	if e := p.Tick(); e != api.OK {
		t.Fatalf("Tick: %d", e)
	}
	flushes(t, p, want...)
}

// P15.1

func TestNew(t *testing.T) {
	epochs := map[int]bool{0: true, 1: true, api.MaxNum - 1: true, api.MaxNum: true, -1: false, math.MinInt: false, api.MaxNum + 1: false, math.MaxInt: false}
	mosts := map[int]bool{1: true, 2: true, api.MaxWindow - 1: true, api.MaxWindow: true, 0: false, -1: false, math.MinInt: false, api.MaxWindow + 1: false, math.MaxInt: false}
	waits := map[int]bool{1: true, 2: true, 999: true, 1000: true, 0: false, -1: false, math.MinInt: false, 1001: false, math.MaxInt: false}
	for epoch, okEpoch := range epochs {
		for most, okMost := range mosts {
			for wait, okWait := range waits {
				p := session.New(epoch, most, wait)
				if (p != nil) != (okEpoch && okMost && okWait) {
					t.Fatalf("New(%d, %d, %d): %v", epoch, most, wait, p)
				}
				if p != nil {
					holds(t, p, epoch, true, most)
					flushes(t, p)
				}
			}
		}
	}
}

func TestSendOfManyBytes(t *testing.T) {
	p := fresh(t, 3, 2, 5, "")
	refuses(t, p, long, api.ErrLong)
	holds(t, p, 3, true, 2)
	refuses(t, p, long[1:], api.OK)
	holds(t, p, 3, false, 1)
	refuses(t, p, long, api.ErrLong)
	refuses(t, p, "", api.OK)
	holds(t, p, 3, false, 0)
	// Of a window that is full too, the length is asked first.
	refuses(t, p, long, api.ErrLong)
	refuses(t, p, long[1:], api.ErrWindow)
	refuses(t, p, "", api.ErrWindow)
	flushes(t, p, api.Packet{Epoch: 3, Seq: 1, Data: long[1:]}, api.Packet{Epoch: 3, Seq: 2})
}

func TestSendUntilTheWindowIsFull(t *testing.T) {
	for most := 1; most <= api.MaxWindow; most++ {
		p := fresh(t, 0, most, 1, "")
		for n := range most {
			holds(t, p, 0, n == 0, most-n)
			sends(t, p, letters[n:n+1])
		}
		for range 2 {
			refuses(t, p, "no", api.ErrWindow)
			holds(t, p, 0, false, 0)
		}
		flushes(t, p, packets(0, 1, 0, letters[:most])...)
		refuses(t, p, "no", api.ErrWindow)
		hears(t, p, api.Packet{Ack: 1}, "", api.OK)
		holds(t, p, 0, most == 1, 1)
		sends(t, p, "x")
		refuses(t, p, "no", api.ErrWindow)
		flushes(t, p, api.Packet{Seq: most + 1, Data: "x"})
		hears(t, p, api.Packet{Ack: most + 1}, "", api.OK)
		holds(t, p, 0, true, most)
	}
}

// P15.2

func TestExample(t *testing.T) {
	p, q := fresh(t, 4, 8, 2, "a"), fresh(t, 4, 8, 2, "")
	l := p.Flush()
	if len(l) != 1 || l[0] != (api.Packet{Epoch: 4, Seq: 1, Data: "a"}) {
		t.Fatal(l)
	}
	hears(t, q, l[0], "a", api.OK)
	flushes(t, q, api.Packet{Epoch: 4, Ack: 1})
	hears(t, p, api.Packet{Epoch: 4, Ack: 1}, "", api.OK)
	holds(t, p, 4, true, 8)
	holds(t, q, 4, true, 8)
}

// notGood tells packets of an epoch that are not right.
func notGood(epoch int) []api.Packet {
	return []api.Packet{
		{Epoch: epoch, Data: "x"},
		{Epoch: epoch, Seq: 1, Data: long},
		{Epoch: epoch, Seq: -1}, {Epoch: epoch, Seq: -1, Data: "x"}, {Epoch: epoch, Seq: math.MinInt}, {Epoch: epoch, Seq: api.MaxNum + 1}, {Epoch: epoch, Seq: math.MaxInt},
		{Epoch: epoch, Ack: -1}, {Epoch: epoch, Seq: 1, Ack: -1}, {Epoch: epoch, Seq: 1, Ack: math.MinInt}, {Epoch: epoch, Ack: api.MaxNum + 1}, {Epoch: epoch, Ack: math.MaxInt},
		{Epoch: -1}, {Epoch: math.MinInt, Seq: 1}, {Epoch: api.MaxNum + 1, Seq: 1, Data: "x"}, {Epoch: math.MaxInt},
	}
}

func TestHearOfWhatIsNotGood(t *testing.T) {
	for _, epoch := range []int{0, 7, api.MaxNum} {
		p := fresh(t, epoch, 3, 2, "ab")
		flushes(t, p, packets(epoch, 1, 0, "ab")...)
		for _, x := range notGood(epoch) {
			if frame.Good(x) {
				t.Fatalf("Good: %v", x)
			}
			hears(t, p, x, "", api.ErrArg)
			if x.Ack == 0 {
				// What the Ack would tell does not count.
				x.Ack = 2
				hears(t, p, x, "", api.ErrArg)
			}
			holds(t, p, epoch, false, 1)
			flushes(t, p)
		}
		tellsAgainIn(t, p, 2, packets(epoch, 1, 0, "ab")...)
	}
}

func TestHearOfAckAboveWhatWasSent(t *testing.T) {
	for _, x := range []struct {
		sent string
		ack  int
		e    api.Errno
		room int
	}{
		{"", 0, api.OK, 4}, {"", 1, api.ErrArg, 4}, {"", 2, api.ErrArg, 4}, {"", api.MaxNum, api.ErrArg, 4},
		{"a", 0, api.OK, 3}, {"a", 1, api.OK, 4}, {"a", 2, api.ErrArg, 3},
		{"abc", 0, api.OK, 1}, {"abc", 1, api.OK, 2}, {"abc", 2, api.OK, 3}, {"abc", 3, api.OK, 4}, {"abc", 4, api.ErrArg, 1}, {"abc", 5, api.ErrArg, 1},
		{"abcd", 4, api.OK, 4}, {"abcd", 5, api.ErrArg, 0}, {"abcd", api.MaxNum, api.ErrArg, 0},
	} {
		p := fresh(t, 2, 4, 3, x.sent)
		flushes(t, p, packets(2, 1, 0, x.sent)...)
		hears(t, p, api.Packet{Epoch: 2, Ack: x.ack}, "", x.e)
		holds(t, p, 2, x.room == 4, x.room)
		flushes(t, p)
		// With data the Ack is asked first, too.
		p = fresh(t, 2, 4, 3, x.sent)
		told := "z"
		if x.e != api.OK {
			told = ""
		}
		hears(t, p, api.Packet{Epoch: 2, Seq: 1, Ack: x.ack, Data: "z"}, told, x.e)
		holds(t, p, 2, x.room == 4 && x.e != api.OK, x.room)
	}
}

func TestHearOrderOfErrors(t *testing.T) {
	p := fresh(t, 5, 2, 3, "ab")
	flushes(t, p, packets(5, 1, 0, "ab")...)
	for _, x := range []struct {
		x api.Packet
		e api.Errno
	}{
		{api.Packet{Epoch: 4, Seq: 3, Ack: 3, Data: "x"}, api.ErrArg},   // the Ack, the Epoch and the Seq
		{api.Packet{Epoch: 4, Seq: 1, Ack: 3, Data: "x"}, api.ErrArg},   // the Ack and the Epoch
		{api.Packet{Epoch: 5, Seq: 3, Ack: 3, Data: "x"}, api.ErrArg},   // the Ack and the Seq
		{api.Packet{Epoch: 6, Seq: 3, Ack: 2, Data: long}, api.ErrArg},  // not Good, the Epoch and the Seq
		{api.Packet{Epoch: 6, Ack: 2, Data: "x"}, api.ErrArg},           // not Good and the Epoch
		{api.Packet{Epoch: 5, Seq: 3, Ack: 2, Data: long}, api.ErrArg},  // not Good and the Seq
		{api.Packet{Epoch: 4, Seq: 3, Ack: 2, Data: "x"}, api.ErrEpoch}, // the Epoch and the Seq
		{api.Packet{Epoch: 6, Seq: 9, Ack: 2, Data: "x"}, api.ErrEpoch}, // the Epoch and the Seq
		{api.Packet{Epoch: 4, Ack: 2}, api.ErrEpoch},                    // the Epoch alone: the Ack does not count
		{api.Packet{Epoch: 6, Ack: 1}, api.ErrEpoch},
		{api.Packet{Epoch: 0, Seq: 1, Ack: 1, Data: "x"}, api.ErrEpoch},
		{api.Packet{Epoch: api.MaxNum, Seq: 1, Ack: 2}, api.ErrEpoch},
		{api.Packet{Epoch: 5, Seq: 3, Data: "x"}, api.ErrWindow}, // the Seq alone
		{api.Packet{Epoch: 5, Seq: api.MaxNum, Data: ""}, api.ErrWindow},
	} {
		hears(t, p, x.x, "", x.e)
		holds(t, p, 5, false, 0)
		flushes(t, p)
	}
	tellsAgainIn(t, p, 3, packets(5, 1, 0, "ab")...)
}

// TestHearOfTooEarlyOnes: the Ack counts all the same, and the clock begins anew; but nothing is owed, and nothing came.
func TestHearOfTooEarlyOnes(t *testing.T) {
	p := fresh(t, 1, 2, 4, "ab")
	flushes(t, p, packets(1, 1, 0, "ab")...)
	ticks(t, p, 3)
	hears(t, p, api.Packet{Epoch: 1, Seq: 3, Ack: 1, Data: "x"}, "", api.ErrWindow)
	holds(t, p, 1, false, 1)
	flushes(t, p)
	tellsAgainIn(t, p, 4, packets(1, 2, 0, "b")...)
	hears(t, p, api.Packet{Epoch: 1, Seq: 4, Ack: 2, Data: "x"}, "", api.ErrWindow)
	holds(t, p, 1, true, 2)
	flushes(t, p)
	hears(t, p, api.Packet{Epoch: 1, Seq: 1, Ack: 2, Data: "u"}, "u", api.OK)
	hears(t, p, api.Packet{Epoch: 1, Seq: 2, Ack: 2, Data: "v"}, "v", api.OK)
	hears(t, p, api.Packet{Epoch: 1, Seq: 3, Ack: 2, Data: "w"}, "w", api.OK)
	flushes(t, p, api.Packet{Epoch: 1, Ack: 3})
	for most := 1; most <= api.MaxWindow; most++ {
		p := fresh(t, 1, most, 4, "")
		hears(t, p, api.Packet{Epoch: 1, Seq: most + 1}, "", api.ErrWindow)
		holds(t, p, 1, true, most)
		if most > 1 {
			hears(t, p, api.Packet{Epoch: 1, Seq: most}, "", api.OK)
			holds(t, p, 1, false, most)
		}
	}
}

func TestHearInAnyOrder(t *testing.T) {
	p := fresh(t, 9, 4, 3, "")
	for _, x := range []struct {
		seq        int
		data, told string
		upto       int
	}{
		{2, "b", "", 0}, // early
		{2, "?", "", 0}, // early, and again
		{4, "d", "", 0},
		{1, "a", "ab", 2}, // closes a gap
		{1, "?", "", 2},   // came already
		{2, "?", "", 2},
		{6, "f", "", 2},
		{3, "c", "cd", 4},
		{5, "e", "ef", 6},
		{4, "?", "", 6},
		{6, "?", "", 6},
		{7, "g", "g", 7},
	} {
		hears(t, p, api.Packet{Epoch: 9, Seq: x.seq, Data: x.data}, x.told, api.OK)
		holds(t, p, 9, false, 4)
		flushes(t, p, api.Packet{Epoch: 9, Ack: x.upto})
		holds(t, p, 9, true, 4)
	}
}

func TestHearOfNoData(t *testing.T) {
	p := fresh(t, 0, 2, 1, "")
	hears(t, p, api.Packet{}, "", api.OK)
	holds(t, p, 0, true, 2)
	flushes(t, p)
	// A text without a byte is a text.
	if l, e := p.Hear(api.Packet{Seq: 1}); len(l) != 1 || l[0] != "" || e != api.OK {
		t.Fatal(l, e)
	}
	if l, e := p.Hear(api.Packet{Seq: 2, Data: long[1:]}); len(l) != 1 || l[0] != long[1:] || e != api.OK {
		t.Fatal(len(l), e)
	}
	flushes(t, p, api.Packet{Ack: 2})
}

func TestAcksAndTheClock(t *testing.T) {
	for _, x := range []struct {
		ack  int
		anew bool
	}{{0, false}, {1, false}, {2, true}, {3, true}} {
		for _, seq := range []int{0, 1, 2, 9} {
			p := fresh(t, 1, 4, 5, "abcd")
			flushes(t, p, packets(1, 1, 0, "abcd")...)
			hears(t, p, api.Packet{Epoch: 1, Ack: 1}, "", api.OK)
			ticks(t, p, 3)
			_, e := p.Hear(api.Packet{Epoch: 1, Seq: seq, Ack: x.ack})
			if (e == api.ErrWindow) != (seq == 9) || e != api.OK && e != api.ErrWindow {
				t.Fatalf("Seq %d: %d", seq, e)
			}
			p.Flush()
			left, upto, from := 2, 0, max(1, x.ack)
			if x.anew {
				left = 5
			}
			if seq == 1 {
				upto = 1
			}
			tellsAgainIn(t, p, left, packets(1, from+1, upto, "abcd"[from:])...)
			tellsAgainIn(t, p, 5, packets(1, from+1, upto, "abcd"[from:])...)
		}
	}
}

// TestAckOfWhatWasNotTold: it was sent, so it may be acknowledged; then it is not told any more.
func TestAckOfWhatWasNotTold(t *testing.T) {
	p := fresh(t, 1, 4, 5, "abc")
	hears(t, p, api.Packet{Epoch: 1, Ack: 2}, "", api.OK)
	flushes(t, p, packets(1, 3, 0, "c")...)
	sends(t, p, "d")
	hears(t, p, api.Packet{Epoch: 1, Ack: 4}, "", api.OK)
	flushes(t, p)
	holds(t, p, 1, true, 4)
	sends(t, p, "e")
	flushes(t, p, packets(1, 5, 0, "e")...)
}

// P15.3

func TestTickUntilAllIsToldAgain(t *testing.T) {
	for _, wait := range []int{1, 2, 3, 10, 999, 1000} {
		p := fresh(t, 1, 3, wait, "ab")
		flushes(t, p, packets(1, 1, 0, "ab")...)
		for range 3 {
			tellsAgainIn(t, p, wait, packets(1, 1, 0, "ab")...)
		}
		sends(t, p, "c")
		flushes(t, p, packets(1, 3, 0, "c")...)
		hears(t, p, api.Packet{Epoch: 1, Ack: 1}, "", api.OK)
		tellsAgainIn(t, p, wait, packets(1, 2, 0, "bc")...)
		hears(t, p, api.Packet{Epoch: 1, Ack: 3}, "", api.OK)
		ticks(t, p, 2*wait+1)
		holds(t, p, 1, true, 3)
	}
}

// TestTickOfNothing: as long as all is acknowledged, no time goes by.
func TestTickOfNothing(t *testing.T) {
	for many := range 13 {
		p := fresh(t, 1, 3, 4, "")
		ticks(t, p, many)
		sends(t, p, "a")
		flushes(t, p, packets(1, 1, 0, "a")...)
		tellsAgainIn(t, p, 4, packets(1, 1, 0, "a")...)
		ticks(t, p, many%4)
		hears(t, p, api.Packet{Epoch: 1, Ack: 1}, "", api.OK)
		ticks(t, p, many)
		sends(t, p, "b")
		flushes(t, p, packets(1, 2, 0, "b")...)
		tellsAgainIn(t, p, 4, packets(1, 2, 0, "b")...)
	}
}

// TestTickAheadOfFlush: time goes on from when something was sent, not from when it was told; and a Send does not move the clock.
func TestTickAheadOfFlush(t *testing.T) {
	p := fresh(t, 1, 4, 3, "a")
	p.Tick()
	p.Tick()
	flushes(t, p, packets(1, 1, 0, "a")...)
	sends(t, p, "b")
	flushes(t, p, packets(1, 2, 0, "b")...)
	tellsAgainIn(t, p, 1, packets(1, 1, 0, "ab")...)
	// Ticks do not gather: all is told again once.
	for range 10 {
		p.Tick()
	}
	flushes(t, p, packets(1, 1, 0, "ab")...)
	tellsAgainIn(t, p, 2, packets(1, 1, 0, "ab")...)
	// What is sent behind the tick is told with what is told again.
	p.Tick()
	p.Tick()
	p.Tick()
	sends(t, p, "c")
	hears(t, p, api.Packet{Epoch: 1, Ack: 1}, "", api.OK)
	flushes(t, p, packets(1, 2, 0, "bc")...)
}

// TestAllAcknowledgedAheadOfFlush: then nothing is to be told again, nor what is sent behind that.
func TestAllAcknowledgedAheadOfFlush(t *testing.T) {
	p := fresh(t, 1, 4, 1, "ab")
	flushes(t, p, packets(1, 1, 0, "ab")...)
	p.Tick()
	hears(t, p, api.Packet{Epoch: 1, Ack: 2}, "", api.OK)
	flushes(t, p)
	sends(t, p, "c")
	flushes(t, p, packets(1, 3, 0, "c")...)
}

// P15.4

func TestFlush(t *testing.T) {
	p := fresh(t, 6, 5, 2, "")
	flushes(t, p)
	sends(t, p, "ab")
	flushes(t, p, packets(6, 1, 0, "ab")...)
	sends(t, p, "c")
	flushes(t, p, packets(6, 3, 0, "c")...)
	holds(t, p, 6, false, 2)
	// With packets, an acknowledgement that is owed goes with them.
	hears(t, p, api.Packet{Epoch: 6, Seq: 1, Ack: 1, Data: "u"}, "u", api.OK)
	sends(t, p, "d")
	flushes(t, p, packets(6, 4, 1, "d")...)
	// Without one, it goes alone.
	hears(t, p, api.Packet{Epoch: 6, Seq: 2, Ack: 1, Data: "v"}, "v", api.OK)
	flushes(t, p, api.Packet{Epoch: 6, Ack: 2})
	// When all is told again, it goes with all.
	hears(t, p, api.Packet{Epoch: 6, Seq: 3, Ack: 2, Data: "w"}, "w", api.OK)
	p.Tick()
	p.Tick()
	flushes(t, p, packets(6, 3, 3, "cd")...)
	hears(t, p, api.Packet{Epoch: 6, Ack: 4}, "", api.OK)
	holds(t, p, 6, true, 5)
	flushes(t, p)
}

func TestIdleAndRoom(t *testing.T) {
	p := fresh(t, 6, 2, 2, "")
	holds(t, p, 6, true, 2)
	// An acknowledgement is owed, and nothing else.
	hears(t, p, api.Packet{Epoch: 6, Seq: 1, Data: "u"}, "u", api.OK)
	holds(t, p, 6, false, 2)
	p.Tick()
	p.Tick()
	holds(t, p, 6, false, 2)
	p.Flush()
	holds(t, p, 6, true, 2)
	// Something is sent, and told, and nothing else.
	sends(t, p, "a")
	holds(t, p, 6, false, 1)
	p.Flush()
	holds(t, p, 6, false, 1)
	// Both; then one of the two.
	hears(t, p, api.Packet{Epoch: 6, Seq: 1, Data: "u"}, "", api.OK)
	holds(t, p, 6, false, 1)
	hears(t, p, api.Packet{Epoch: 6, Ack: 1}, "", api.OK)
	holds(t, p, 6, false, 2)
	p.Flush()
	holds(t, p, 6, true, 2)
}

// P15.5

func TestResetRefused(t *testing.T) {
	for _, epoch := range []int{0, 1, 7, api.MaxNum - 1, api.MaxNum} {
		p := fresh(t, epoch, 3, 2, "ab")
		hears(t, p, api.Packet{Epoch: epoch, Seq: 1, Data: "u"}, "u", api.OK)
		for _, to := range []int{math.MinInt, -1, 0, epoch - 1, epoch, api.MaxNum + 1, math.MaxInt} {
			if to > epoch && to <= api.MaxNum {
				continue
			}
			if e := p.Reset(to); e != api.ErrEpoch {
				t.Fatalf("of %d: Reset(%d): %d", epoch, to, e)
			}
			holds(t, p, epoch, false, 1)
		}
		flushes(t, p, packets(epoch, 1, 1, "ab")...)
		tellsAgainIn(t, p, 2, packets(epoch, 1, 1, "ab")...)
	}
}

func TestReset(t *testing.T) {
	for _, to := range []int{8, 9, 1000, api.MaxNum - 1, api.MaxNum} {
		for told := range 3 {
			p := fresh(t, 7, 3, 3, "ab")
			if told > 0 {
				flushes(t, p, packets(7, 1, 0, "ab")...)
			}
			ticks(t, p, 2*min(told, 1))
			hears(t, p, api.Packet{Epoch: 7, Seq: 3, Data: "w"}, "", api.OK)
			hears(t, p, api.Packet{Epoch: 7, Seq: 1, Data: "u"}, "u", api.OK)
			if told > 1 {
				p.Tick() // now all is to be told again
			}
			if e := p.Reset(to); e != api.OK {
				t.Fatalf("Reset(%d): %d", to, e)
			}
			holds(t, p, to, true, 3)
			flushes(t, p)
			ticks(t, p, 4)
			hears(t, p, api.Packet{Epoch: 7, Seq: 1, Data: "u"}, "", api.ErrEpoch)
			hears(t, p, api.Packet{Epoch: to, Ack: 1}, "", api.ErrArg)
			// The numbers begin anew, what came early is forgotten, and wait and most are as they were.
			sends(t, p, "xyz")
			refuses(t, p, "no", api.ErrWindow)
			flushes(t, p, packets(to, 1, 0, "xyz")...)
			tellsAgainIn(t, p, 3, packets(to, 1, 0, "xyz")...)
			hears(t, p, api.Packet{Epoch: to, Seq: 4}, "", api.ErrWindow)
			hears(t, p, api.Packet{Epoch: to, Seq: 2, Data: "q"}, "", api.OK)
			hears(t, p, api.Packet{Epoch: to, Seq: 1, Ack: 3, Data: "p"}, "pq", api.OK)
			flushes(t, p, api.Packet{Epoch: to, Ack: 2})
			if e := p.Reset(to); e != api.ErrEpoch {
				t.Fatalf("Reset(%d) again: %d", to, e)
			}
		}
	}
}

// TestResetAndTheClock: it is 0 then, whatever it was.
func TestResetAndTheClock(t *testing.T) {
	for gone := range 5 {
		p := fresh(t, 0, 3, 5, "a")
		p.Flush()
		ticks(t, p, gone)
		if e := p.Reset(1); e != api.OK {
			t.Fatal(e)
		}
		sends(t, p, "b")
		flushes(t, p, packets(1, 1, 0, "b")...)
		tellsAgainIn(t, p, 5, packets(1, 1, 0, "b")...)
	}
}

// Of one that no call made

func TestMadeByNoCall(t *testing.T) {
	var none *session.Peer
	for name, p := range map[string]*session.Peer{"nil": none, "plain": {}} {
		for range 2 {
			for _, data := range []string{"", "a", long} {
				if e := p.Send(data); e != api.ErrNil {
					t.Errorf("%s: Send: %d", name, e)
				}
			}
			for _, x := range append(notGood(0), api.Packet{}, api.Packet{Seq: 1, Data: "x"}, api.Packet{Ack: 1}, api.Packet{Epoch: 1}) {
				if l, e := p.Hear(x); len(l) != 0 || e != api.ErrNil {
					t.Errorf("%s: Hear(%v): %v, %d", name, x, l, e)
				}
			}
			for _, epoch := range []int{math.MinInt, -1, 0, 1, api.MaxNum, math.MaxInt} {
				if e := p.Reset(epoch); e != api.ErrNil {
					t.Errorf("%s: Reset(%d): %d", name, epoch, e)
				}
			}
			if e := p.Tick(); e != api.ErrNil {
				t.Errorf("%s: Tick: %d", name, e)
			}
			if l := p.Flush(); len(l) != 0 {
				t.Errorf("%s: Flush: %v", name, l)
			}
			holds(t, p, 0, false, 0)
		}
	}
}

// What is handed out

func TestWhatIsToldIsApart(t *testing.T) {
	p := fresh(t, 1, 8, 1, "ab")
	first := p.Flush()
	p.Tick()
	second := p.Flush()
	clear(first)
	_ = append(first[:0], api.Packet{Seq: 9}, api.Packet{Seq: 9})
	if !slices.Equal(second, packets(1, 1, 0, "ab")) {
		t.Error(second)
	}
	p.Tick()
	flushes(t, p, packets(1, 1, 0, "ab")...)
	hears(t, p, api.Packet{Epoch: 1, Seq: 2, Data: "v"}, "", api.OK)
	told, _ := p.Hear(api.Packet{Epoch: 1, Seq: 1, Data: "u"})
	hears(t, p, api.Packet{Epoch: 1, Seq: 4, Data: "x"}, "", api.OK)
	more, _ := p.Hear(api.Packet{Epoch: 1, Seq: 3, Data: "w"})
	clear(told)
	_ = append(told[:0], "9", "9")
	if !slices.Equal(more, []string{"w", "x"}) {
		t.Error(more)
	}
}

func TestPeersAreApart(t *testing.T) {
	p, q := fresh(t, 1, 4, 2, "ab"), fresh(t, 1, 4, 2, "c")
	p.Flush()
	p.Tick()
	p.Tick()
	holds(t, q, 1, false, 3)
	flushes(t, q, packets(1, 1, 0, "c")...)
	p.Reset(2)
	holds(t, q, 1, false, 3)
}
