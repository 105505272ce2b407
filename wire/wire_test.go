package wire_test

import (
	"bytes"
	"math"
	"math/rand"
	"runtime"
	"slices"
	"strings"
	"testing"

	"variorum/api"
	"variorum/sum32"
	"variorum/vary"
	"variorum/wire"
)

const (
	maxBody = api.MaxFrame + 40
	maxNum  = "\x80\x80\x80\x80\x80\x80\x80\x80\x40"
)

// long is a text of one byte more than MaxFrame.
var long = strings.Repeat("d", api.MaxFrame+1)

// part is bytes of a stream that begin where a frame begins, and what is to come of them.
type part struct {
	bytes  []byte
	told   []api.Packet // one, or none
	lost   int
	breaks int  // how many of its bytes break the stream; 0: it does not
	waits  bool // it is not all there, and nothing stands behind it
}

// sealed tells bytes as the frame of a body, whatever that is.
func sealed(body string) []byte {
	return append(vary.Put(nil, len(body)), sum32.Seal([]byte(body))...)
}

// right tells a packet's frame, put together by hand.
func right(p api.Packet) part {
	body := vary.Put(vary.Put(vary.Put(nil, p.Epoch), p.Seq), p.Ack)
	return part{bytes: sealed(string(vary.PutText(body, p.Data))), told: []api.Packet{p}}
}

// spoilt tells a packet's frame of which a byte behind its number is another one, counted from the end on.
func spoilt(p api.Packet, fromEnd int) part {
	b := right(p).bytes
	b[len(b)-1-fromEnd] ^= 0x10
	return part{bytes: b, lost: 1}
}

// noPacket tells a frame that is opened and is no right packet's.
func noPacket(body string) part { return part{bytes: sealed(body), lost: 1} }

// broken tells bytes that break a stream as soon as so many of them are there.
func broken(s string, breaks int) part { return part{bytes: []byte(s), breaks: breaks} }

func packets() []api.Packet {
	return []api.Packet{
		{},
		{Epoch: 1, Seq: 2, Ack: 3, Data: "ab"},
		{Epoch: 1, Ack: 1},
		{Seq: 1, Data: "\x00\xff\x80"},
		{Seq: 1, Data: long[:140]}, // a number of two bytes
		{Epoch: api.MaxNum, Seq: api.MaxNum, Ack: api.MaxNum, Data: "z"},
	}
}

func greatest() api.Packet {
	return api.Packet{Epoch: api.MaxNum, Seq: api.MaxNum, Ack: api.MaxNum, Data: long[1:]}
}

func rights() (l []part) {
	for _, p := range packets() {
		l = append(l, right(p))
	}
	return l
}

func losts() []part {
	l := []part{
		noPacket(""), noPacket("\x00"), noPacket("\x00\x00\x00"), noPacket("\x01\x02\x03\x02a"), // it ends too early
		noPacket("\x00\x00\x00\x00\x00"), noPacket("\x01\x02\x03\x02abc"), // bytes behind it
		noPacket("\x01\x00\x03\x02ab"),                   // Data, and Seq 0
		noPacket("\x81\x00\x02\x03\x02ab"),               // a number that is written longer
		noPacket(strings.Repeat("\x80", 20)),             // no number
		{bytes: []byte("\x00\x01\x00\x00\x00"), lost: 1}, // no body, and no right sum
		{bytes: []byte("\x01\x08\x00\x00\x00\x00"), lost: 1},
	}
	for _, p := range packets() {
		l = append(l, spoilt(p, 0), spoilt(p, 3), spoilt(p, 4), spoilt(p, 7))
	}
	return l
}

// tooGreat tells numbers that no frame has.
func tooGreat() []part {
	return []part{
		broken(string(vary.Put(nil, maxBody+1)), 3), broken("\xff\xff\x7f", 3), broken("\x80\x80\x80\x01", 4),
		broken(string(vary.Put(nil, math.MaxInt32)), 5), broken("\xff\xff\xff\xff\xff\xff\xff\xff\x01", 9), broken(maxNum, 9),
	}
}

// noNumbers tells bytes at whose beginning no number stands.
func noNumbers() []part {
	return []part{
		broken("\x80\x00\x00\x00\x00\x00\x00\x00\x00", 9), broken("\x86\x00\x01\x02\x03\x02ab\x00", 9), broken("\xa9\x80\x84\x00\x01\x01\x01\x01\x01", 9), // longer than it is said
		broken("\x80\x80\x80\x80\x80\x80\x80\x80\x00", 9),
		broken(strings.Repeat("\x80", 9), 9), broken(strings.Repeat("\xff", 9), 9), // without an end
		broken("\x81\x80\x80\x80\x80\x80\x80\x80\x40", 9), broken("\xff\xff\xff\xff\xff\xff\xff\xff\x7f", 9), // above MaxNum
	}
}

func breaks() []part { return append(tooGreat(), noNumbers()...) }

// joined tells the bytes of parts.
func joined(l []part) (b []byte) {
	for _, x := range l {
		b = append(b, x.bytes...)
	}
	return b
}

// state is all that a stream tells, and told.
type state struct {
	told       []api.Packet
	wait, lost int
	broken     bool
}

// behind tells what is to be behind the first n bytes of parts, in whatever pieces they came.
func behind(l []part, n int) (s state) {
	for _, x := range l {
		switch {
		case x.breaks > 0 && n >= x.breaks:
			s.broken = true
			return s
		case n < len(x.bytes) || x.breaks > 0 || x.waits:
			s.wait = n
			return s
		}
		s.told = append(s.told, x.told...)
		s.lost += x.lost
		n -= len(x.bytes)
	}
	s.wait = n
	return s
}

// holds asks all that a stream tells, and holds it, and what it told, against a state.
func holds(t *testing.T, what string, s *wire.Stream, told []api.Packet, want state) {
	t.Helper()
	if !slices.Equal(told, want.told) {
		t.Fatalf("%s: told %.200v; want %.200v", what, told, want.told)
	}
	if s.Wait() != want.wait || s.Lost() != want.lost || s.Broken() != want.broken {
		t.Fatalf("%s: Wait %d, Lost %d, Broken %t; want %d, %d, %t", what, s.Wait(), s.Lost(), s.Broken(), want.wait, want.lost, want.broken)
	}
}

// feed feeds a new stream the bytes of parts in pieces of these sizes, over and over, and holds what is told behind each.
func feed(t *testing.T, what string, l []part, sizes ...int) {
	t.Helper()
	b := joined(l)
	s := wire.New()
	var told []api.Packet
	holds(t, what, s, told, state{})
	for at, i := 0, 0; at < len(b); i++ {
		size := min(sizes[i%len(sizes)], len(b)-at)
		told = append(told, s.Feed(b[at:at+size])...)
		at += size
		holds(t, what, s, told, behind(l, at))
	}
}

// ways feeds parts in one piece, in two at each cut, byte by byte, and in others.
func ways(t *testing.T, what string, l []part) {
	t.Helper()
	many := len(joined(l))
	feed(t, what+" in one piece", l, many)
	feed(t, what+" byte by byte", l, 1)
	feed(t, what+" with empty pieces", l, 0, 3, 0, 0, 1)
	for cut := range min(many, 200) {
		feed(t, what+" in two pieces", l, cut, many)
	}
	for _, size := range []int{2, 3, 7, 8, 9, 10, 64} {
		feed(t, what+" in pieces", l, size)
	}
}

// P13.1

func TestExample(t *testing.T) {
	p := api.Packet{Epoch: 1, Seq: 2, Ack: 3, Data: "ab"}
	b := right(p).bytes
	for cut := 1; cut < len(b); cut++ {
		s := wire.New()
		holds(t, "first piece", s, s.Feed(b[:cut]), state{wait: cut})
		holds(t, "second piece", s, s.Feed(b[cut:]), state{told: []api.Packet{p}})
	}
}

func TestNew(t *testing.T) {
	s, other := wire.New(), wire.New()
	holds(t, "new", s, nil, state{})
	s.Feed([]byte("\x05"))
	holds(t, "another one", other, nil, state{})
}

func TestNoBytes(t *testing.T) {
	for _, none := range [][]byte{nil, {}} {
		s := wire.New()
		holds(t, "new", s, s.Feed(none), state{})
		s.Feed([]byte("\x05abc"))
		holds(t, "waiting", s, s.Feed(none), state{wait: 4})
		s = wire.New()
		s.Feed(joined([]part{noPacket(""), broken("\xff\xff\x7f", 3)}))
		holds(t, "broken", s, s.Feed(none), state{lost: 1, broken: true})
	}
}

func TestOneFrame(t *testing.T) {
	for _, x := range rights() {
		ways(t, "a right one", []part{x})
	}
}

func TestManyFrames(t *testing.T) {
	ways(t, "many", rights())
	ways(t, "the same one", slices.Repeat(rights()[1:2], 30))
}

func TestFrameAndPartOfTheNext(t *testing.T) {
	for _, x := range rights() {
		for _, y := range rights() {
			for cut := range y.bytes {
				s := wire.New()
				told := s.Feed(append(bytes.Clone(x.bytes), y.bytes[:cut]...))
				holds(t, "and a part", s, told, state{told: x.told, wait: cut})
				holds(t, "and the rest", s, s.Feed(y.bytes[cut:]), state{told: y.told})
			}
		}
	}
}

func TestLostFrames(t *testing.T) {
	for _, x := range losts() {
		ways(t, "a lost one", []part{x})
		ways(t, "between right ones", []part{rights()[1], x, rights()[2], x, x, rights()[0]})
	}
	ways(t, "all lost ones", losts())
}

func TestGreatFrames(t *testing.T) {
	full := strings.Repeat("\x00", maxBody)
	l := []part{right(greatest()), noPacket(full), rights()[1], spoilt(greatest(), 3), right(greatest()), noPacket(full[1:]), {bytes: append(vary.Put(nil, maxBody), long[:500]...), waits: true}}
	for _, sizes := range [][]int{{len(joined(l))}, {1000}, {maxBody + 6}, {maxBody + 7}, {maxBody + 8}, {3, 1 << 15}} {
		feed(t, "great ones", l, sizes...)
	}
	feed(t, "a great one, byte by byte", l[:1], 1)
}

func TestNumberThatIsTooGreat(t *testing.T) {
	for _, x := range tooGreat() {
		ways(t, "alone", []part{x})
		ways(t, "behind right ones", []part{rights()[1], rights()[0], x})
		ways(t, "behind a lost one", []part{noPacket("\x00"), x})
		ways(t, "ahead of right ones", append([]part{rights()[1], x}, rights()...))
	}
	ways(t, "the greatest that may be", []part{{bytes: vary.Put(nil, maxBody), waits: true}})
}

func TestNoNumber(t *testing.T) {
	for _, x := range noNumbers() {
		ways(t, "9 bytes", []part{x})
		ways(t, "behind right ones and a lost one", []part{rights()[1], noPacket("\x00"), rights()[0], x})
		ways(t, "and more", append([]part{x}, rights()...))
		s := wire.New()
		holds(t, "8 bytes", s, s.Feed(x.bytes[:8]), state{wait: 8})
		holds(t, "none more", s, s.Feed(nil), state{wait: 8})
		holds(t, "the ninth", s, s.Feed(x.bytes[8:]), state{broken: true})
		s = wire.New()
		holds(t, "8 bytes behind a frame", s, s.Feed(append(right(packets()[1]).bytes, x.bytes[:8]...)), state{told: packets()[1:2], wait: 8})
	}
}

// TestManyBytesWait: 9 bytes and more wait, if a number stands at their beginning.
func TestManyBytesWait(t *testing.T) {
	for _, n := range []int{100, 127, 128, 1000, maxBody - 1, maxBody} {
		b := append(vary.Put(nil, n), bytes.Repeat([]byte{0x80}, n+3)...)
		s := wire.New()
		for at := range min(len(b), 30) {
			holds(t, "waiting", s, s.Feed(b[at:at+1]), state{wait: at + 1})
		}
		holds(t, "all but one", s, s.Feed(b[min(len(b), 30):]), state{wait: len(b)})
		holds(t, "all", s, s.Feed([]byte{0}), state{lost: 1})
	}
}

func TestBrokenIsFedAgain(t *testing.T) {
	for _, x := range breaks() {
		s := wire.New()
		told := s.Feed(joined([]part{rights()[1], noPacket("\x00"), x, rights()[2], noPacket("\x00")}))
		want := state{told: packets()[1:2], lost: 1, broken: true}
		holds(t, "broken", s, told, want)
		want.told = nil
		for _, y := range slices.Concat(rights(), losts(), breaks(), []part{{}}) {
			holds(t, "fed again", s, s.Feed(y.bytes), want)
		}
	}
}

// P13.2

func TestAskingChangesNothing(t *testing.T) {
	s := wire.New()
	s.Feed(joined([]part{noPacket("\x00"), {bytes: []byte("\x05ab")}}))
	for range 3 {
		holds(t, "asked again", s, nil, state{wait: 3, lost: 1})
	}
}

func TestMadeByNoCall(t *testing.T) {
	var none *wire.Stream
	for name, s := range map[string]*wire.Stream{"nil": none, "plain": {}} {
		for _, x := range slices.Concat([]part{{}, {bytes: []byte("\x05")}}, rights(), losts(), breaks()) {
			holds(t, name, s, s.Feed(x.bytes), state{})
		}
	}
}

// P13.3

func TestAll(t *testing.T) {
	for _, none := range [][]api.Packet{nil, {}} {
		if b, e := wire.All(none); len(b) != 0 || e != api.OK {
			t.Errorf("All of none: %x, %d", b, e)
		}
	}
	l := append(packets(), greatest())
	for from := range l {
		for to := from; to <= len(l); to++ {
			var want []byte
			for _, p := range l[from:to] {
				want = append(want, right(p).bytes...)
			}
			if b, e := wire.All(l[from:to]); !bytes.Equal(b, want) || e != api.OK {
				t.Errorf("All from %d to %d: %d bytes, %d; want %d bytes", from, to, len(b), e, len(want))
			}
		}
	}
}

func TestAllOfOneThatIsNotRight(t *testing.T) {
	for _, p := range []api.Packet{
		{Data: "x"}, {Epoch: 1, Ack: 1, Data: "x"}, {Epoch: -1}, {Seq: -1}, {Ack: -1}, {Seq: math.MinInt, Data: "x"},
		{Epoch: api.MaxNum + 1}, {Seq: api.MaxNum + 1}, {Ack: math.MaxInt}, {Seq: 1, Data: long},
	} {
		for at := range len(packets()) + 1 {
			l := slices.Insert(packets(), at, p)
			if b, e := wire.All(l); len(b) != 0 || e != api.ErrArg {
				t.Errorf("All with %.50v at %d: %d bytes, %d", p, at, len(b), e)
			}
		}
		if b, e := wire.All([]api.Packet{p}); len(b) != 0 || e != api.ErrArg {
			t.Errorf("All of %.50v: %d bytes, %d", p, len(b), e)
		}
	}
}

// P13.4

// TestAnyPieces: streams of any parts, in pieces of any sizes.
func TestAnyPieces(t *testing.T) {
	chance := rand.New(rand.NewSource(13))
	usual := slices.Concat(rights(), rights(), losts())
	for range 3000 {
		var l []part
		for range chance.Intn(12) {
			l = append(l, usual[chance.Intn(len(usual))])
		}
		if chance.Intn(3) == 0 {
			l = append(l, breaks()[chance.Intn(len(breaks()))])
			l = append(l, usual[chance.Intn(len(usual))])
		}
		sizes := make([]int, 1+chance.Intn(9))
		for i := range sizes {
			sizes[i] = chance.Intn(1 + 1<<chance.Intn(8))
		}
		feed(t, "any", l, append(sizes, 1)...)
	}
}

// samePieces asks of any bytes: parted at some places they are told as in one piece.
func samePieces(t *testing.T, b []byte, size int) {
	t.Helper()
	one, many := wire.New(), wire.New()
	want := one.Feed(b)
	var told []api.Packet
	for piece := range slices.Chunk(b, size) {
		told = append(told, many.Feed(piece)...)
	}
	holds(t, "parted", many, told, state{told: want, wait: one.Wait(), lost: one.Lost(), broken: one.Broken()})
}

// TestAnyBytes: bytes that are no frames, but small numbers often, so that some stand where a frame could.
func TestAnyBytes(t *testing.T) {
	chance := rand.New(rand.NewSource(31))
	for range 5000 {
		b := make([]byte, chance.Intn(60))
		for i := range b {
			b[i] = []byte{0, 1, 2, 3, 4, 6, 9, 0x80, 0xff, byte(chance.Intn(256))}[chance.Intn(10)]
		}
		samePieces(t, b, 1+chance.Intn(12))
	}
}

func FuzzPieces(f *testing.F) {
	for _, x := range slices.Concat(rights(), losts(), breaks()) {
		f.Add(x.bytes, 1)
	}
	f.Add(joined(slices.Concat(rights(), losts(), breaks())), 7)
	f.Fuzz(func(t *testing.T, b []byte, size int) { samePieces(t, b, max(1, size)) })
}

// P13.5

func TestBack(t *testing.T) {
	chance := rand.New(rand.NewSource(5))
	for range 300 {
		l := make([]api.Packet, chance.Intn(20))
		for i := range l {
			data := make([]byte, chance.Intn(1<<chance.Intn(10)))
			chance.Read(data)
			l[i] = api.Packet{Epoch: 1 << chance.Intn(63), Seq: 1 + chance.Intn(300), Ack: chance.Intn(api.MaxNum), Data: string(data)}
		}
		b, e := wire.All(l)
		if e != api.OK {
			t.Fatal(e)
		}
		s := wire.New()
		var told []api.Packet
		for len(b) > 0 {
			size := min(len(b), chance.Intn(1+1<<chance.Intn(12)))
			told = append(told, s.Feed(b[:size])...)
			b = b[size:]
		}
		holds(t, "back", s, told, state{told: l})
	}
}

// What is handed in and out

func TestBytesThatAreChangedAfterwards(t *testing.T) {
	for _, x := range slices.Concat(rights(), losts()) {
		for cut := range x.bytes {
			s := wire.New()
			b := bytes.Clone(x.bytes)
			s.Feed(b[:cut])
			for i := range cut {
				b[i] = '!'
			}
			told := s.Feed(b[cut:])
			for i := range b {
				b[i] = '?'
			}
			holds(t, "changed", s, told, state{told: x.told, lost: x.lost})
		}
	}
}

func TestHandedInStaysAsItWas(t *testing.T) {
	b := append(joined(slices.Concat(rights(), losts(), []part{{bytes: []byte("\x05ab")}})), "\x00\x00spare room"...)
	was := bytes.Clone(b)
	used := len(b) - len("\x00\x00spare room")
	s := wire.New()
	told := s.Feed(b[:used])
	holds(t, "with spare room", s, told, state{told: packets(), wait: 3, lost: len(losts())})
	s.Feed([]byte("cdefghi"))
	s.Feed(b[:used])
	if !bytes.Equal(b, was) {
		t.Errorf("%x; was %x", b, was)
	}
	l := append(packets(), api.Packet{Epoch: -1})
	wire.All(l[:len(packets())])
	wire.All(l)
	if !slices.Equal(l, append(packets(), api.Packet{Epoch: -1})) {
		t.Errorf("%v", l)
	}
}

func TestAnswersAreApart(t *testing.T) {
	s := wire.New()
	first := s.Feed(joined(rights()))
	was := slices.Clone(first)
	second := s.Feed(joined(rights()))
	clear(second)
	_ = append(second[:0], api.Packet{Epoch: 9})
	if !slices.Equal(first, was) {
		t.Errorf("%v; was %v", first, was)
	}
	one, _ := wire.All(packets())
	two, _ := wire.All(packets())
	clear(one)
	if !bytes.Equal(two, joined(rights())) {
		t.Error("two answers are one memory")
	}
}

// TestPiecesCostLittle: many pieces of one frame make no copy each of what is kept, and what was told is not kept.
func TestPiecesCostLittle(t *testing.T) {
	b := right(greatest()).bytes
	s := wire.New()
	var before, after runtime.MemStats
	runtime.ReadMemStats(&before)
	for i := range b {
		s.Feed(b[i : i+1])
	}
	runtime.ReadMemStats(&after)
	if grown := after.TotalAlloc - before.TotalAlloc; grown > 1<<26 {
		t.Errorf("%d bytes for a frame of %d", grown, len(b))
	}
	runtime.GC()
	runtime.ReadMemStats(&before)
	for range 20 {
		s = wire.New()
		s.Feed(append(bytes.Repeat(b, 100), 1))
	}
	runtime.GC()
	runtime.ReadMemStats(&after)
	if after.HeapAlloc > before.HeapAlloc+1<<21 {
		t.Errorf("%d bytes are held for one that waits", after.HeapAlloc-before.HeapAlloc)
	}
	runtime.KeepAlive(s)
}
