package frame_test

import (
	"bytes"
	"math"
	"math/rand"
	"slices"
	"strings"
	"testing"

	"variorum/api"
	"variorum/frame"
	"variorum/sum32"
	"variorum/vary"
)

const maxNum = "\x80\x80\x80\x80\x80\x80\x80\x80\x40"

// long is a text of one byte more than MaxFrame.
var long = strings.Repeat("d", api.MaxFrame+1)

// sealed tells bytes as the frame of a body, whatever that is.
func sealed(body string) []byte {
	return append(vary.Put(nil, len(body)), sum32.Seal([]byte(body))...)
}

// told is a packet and its body.
type told struct {
	p    api.Packet
	body string
}

// samples are right packets: the least, ordinary ones, the greatest.
func samples() []told {
	return []told{
		{api.Packet{}, "\x00\x00\x00\x00"},
		{api.Packet{Epoch: 5, Ack: 6}, "\x05\x00\x06\x00"},
		{api.Packet{Seq: 1}, "\x00\x01\x00\x00"},
		{api.Packet{Epoch: 1, Seq: 2, Ack: 3, Data: "ab"}, "\x01\x02\x03\x02ab"},
		{api.Packet{Epoch: 300, Seq: 128, Ack: 127, Data: "\x00\xff\x80"}, "\xac\x02\x80\x01\x7f\x03\x00\xff\x80"},
		{api.Packet{Seq: 1, Data: long[:127]}, "\x00\x01\x00\x7f" + long[:127]},
		{api.Packet{Seq: 1, Data: long[:128]}, "\x00\x01\x00\x80\x01" + long[:128]},
		{api.Packet{Epoch: api.MaxNum, Ack: api.MaxNum}, maxNum + "\x00" + maxNum + "\x00"},
		{api.Packet{Epoch: api.MaxNum, Seq: api.MaxNum, Ack: api.MaxNum, Data: long[1:]}, maxNum + maxNum + maxNum + "\x80\x80\x04" + long[1:]},
	}
}

// gets holds what Get tells.
func gets(t *testing.T, b []byte, p api.Packet, size int, e api.Errno) {
	t.Helper()
	gotP, gotSize, gotE := frame.Get(b)
	if gotP != p || gotSize != size || gotE != e {
		t.Errorf("Get(%x): %.50v, %d, %d; want %.50v, %d, %d", b[:min(len(b), 60)], gotP, gotSize, gotE, p, size, e)
	}
}

// refused holds that Get tells no packet, but this error and size.
func refused(t *testing.T, b []byte, size int, e api.Errno) {
	t.Helper()
	gets(t, b, api.Packet{}, size, e)
}

// wrong holds that a packet is not right.
func wrong(t *testing.T, p api.Packet) {
	t.Helper()
	if b, e := frame.Put(p); e != api.ErrArg || len(b) != 0 || frame.Good(p) {
		t.Errorf("%.50v: Good %t, Put %d bytes, %d", p, frame.Good(p), len(b), e)
	}
}

// P12.1

func TestExample(t *testing.T) {
	p := api.Packet{Epoch: 1, Seq: 2, Ack: 3, Data: "ab"}
	b, e := frame.Put(p)
	sum := sum32.Sum([]byte("\x01\x02\x03\x02ab"))
	want := append([]byte("\x06\x01\x02\x03\x02ab"), byte(sum), byte(sum>>8), byte(sum>>16), byte(sum>>24))
	if e != api.OK || !bytes.Equal(b, want) {
		t.Errorf("%x, %d", b, e)
	}
	gets(t, b, p, 11, api.OK)
}

func TestFramesOfRightPackets(t *testing.T) {
	for _, x := range samples() {
		if !frame.Good(x.p) {
			t.Errorf("not Good: %.50v", x.p)
		}
		if b, e := frame.Put(x.p); e != api.OK || !bytes.Equal(b, sealed(x.body)) {
			t.Errorf("%.50v: %x, %d", x.p, b[:min(len(b), 60)], e)
		}
	}
}

func TestNumbersAtTheirEnds(t *testing.T) {
	set := map[string]func(*api.Packet, int){
		"Epoch": func(p *api.Packet, n int) { p.Epoch = n },
		"Seq":   func(p *api.Packet, n int) { p.Seq = n },
		"Ack":   func(p *api.Packet, n int) { p.Ack = n },
	}
	for name, f := range set {
		for _, n := range []int{0, 1, api.MaxNum - 1, api.MaxNum} {
			p := api.Packet{Epoch: 1, Seq: 2, Ack: 3}
			f(&p, n)
			b, e := frame.Put(p)
			if e != api.OK || !frame.Good(p) {
				t.Errorf("%s %d: %d", name, n, e)
			}
			gets(t, b, p, len(b), api.OK)
		}
		for _, n := range []int{-1, api.MaxNum + 1, -api.MaxNum, math.MinInt, math.MaxInt} {
			p := api.Packet{Epoch: 1, Seq: 2, Ack: 3, Data: "ab"}
			f(&p, n)
			wrong(t, p)
			p.Data = ""
			wrong(t, p)
		}
	}
}

func TestDataThatMayNotBe(t *testing.T) {
	wrong(t, api.Packet{Data: "x"})
	wrong(t, api.Packet{Epoch: 1, Ack: 3, Data: "\x00"})
	wrong(t, api.Packet{Data: long[1:]})
	wrong(t, api.Packet{Seq: 1, Data: long})
	wrong(t, api.Packet{Epoch: 1, Seq: api.MaxNum, Ack: 1, Data: long + long})
	wrong(t, api.Packet{Data: long})
}

// P12.2

func TestNoNumberAtTheBeginning(t *testing.T) {
	for _, s := range []string{
		"", "\x80", "\xff\xff", "\x86\x80", "\xff\xff\xff\xff\xff\xff\xff\xff", // it ends too early
		"\x86\x00\x01\x02\x03\x02ab\x00\x00\x00\x00", "\x80\x00\x00\x00\x00\x00\x00", "\xa9\x80\x84\x00", // longer than it is said
		"\x81\x80\x80\x80\x80\x80\x80\x80\x40aaaaaaaaaaaaaa", "\x80\x80\x80\x80\x80\x80\x80\x80\x80\x01aaaaaaaaaaa", strings.Repeat("\x80", 40), strings.Repeat("\xff", 40) + "\x01", // above MaxNum
	} {
		refused(t, []byte(s), 0, api.ErrForm)
	}
	refused(t, nil, 0, api.ErrForm)
}

func TestNumberThatIsTooGreat(t *testing.T) {
	limit := api.MaxFrame + 40
	full := make([]byte, limit+1000)
	for _, n := range []int{limit + 1, limit + 2, limit + 128, 1 << 20, math.MaxInt32, api.MaxNum - 1, api.MaxNum} {
		refused(t, vary.Put(nil, n), 0, api.ErrLong)
		refused(t, append(vary.Put(nil, n), full...), 0, api.ErrLong)
	}
	refused(t, sealed(string(full[:limit+1])), 0, api.ErrLong)
	for _, n := range []int{limit - 1, limit} {
		refused(t, vary.Put(nil, n), 0, api.ErrForm)
		refused(t, append(vary.Put(nil, n), full[:n+3]...), 0, api.ErrForm)
		refused(t, append(vary.Put(nil, n), full[:n+4]...), 3+n+4, api.ErrSum)
		refused(t, sealed(string(full[:n])), 3+n+4, api.ErrForm) // opened, and no packet's
	}
}

func TestBodyThatIsNotAllThere(t *testing.T) {
	for _, x := range samples() {
		b := sealed(x.body)
		cuts := []int{len(b) - 6, len(b) - 5, len(b) - 4, len(b) - 3, len(b) - 2, len(b) - 1}
		for i := range min(len(b), 40) {
			cuts = append(cuts, i)
		}
		for _, i := range cuts {
			refused(t, b[:i], 0, api.ErrForm) // and what lies behind b's length is not read
			refused(t, bytes.Clone(b[:i]), 0, api.ErrForm)
		}
	}
	refused(t, []byte("\x00"), 0, api.ErrForm)
	refused(t, []byte("\x00\x00\x00\x00"), 0, api.ErrForm)
}

func TestSumThatIsNotRight(t *testing.T) {
	for _, x := range samples() {
		b := sealed(x.body)
		for i := range 4 {
			spoilt := bytes.Clone(b)
			spoilt[len(b)-1-i]++
			refused(t, spoilt, len(b), api.ErrSum)
			refused(t, append(spoilt, b...), len(b), api.ErrSum)
		}
	}
	refused(t, []byte("\x00\x01\x00\x00\x00"), 5, api.ErrSum)
	refused(t, []byte("\x01\x08\x00\x00\x00\x00"), 6, api.ErrSum) // no packet's body, but the sum is asked first
}

func TestBodyThatIsNoRightPackets(t *testing.T) {
	for _, body := range []string{
		"", "\x00", "\x00\x00", "\x00\x00\x00", "\x01\x02\x03", "\x01\x02\x03\x02", "\x01\x02\x03\x02a", // it ends too early
		"\x00\x00\x00\x00\x00", "\x01\x02\x03\x02abc", "\x01\x02\x03\x00a", "\x01\x02\x03\x02ab\x01\x02\x03\x02ab", // bytes behind it
		"\x81\x00\x02\x03\x02ab", "\x01\x82\x00\x03\x02ab", "\x01\x02\x83\x00\x02ab", "\x01\x02\x03\x82\x00ab", // numbers that are written longer
		"\x01\x00\x03\x02ab", "\x00\x00\x00\x01\x00", // Data, and Seq 0
		"\x81\x80\x80\x80\x80\x80\x80\x80\x40\x02\x03\x00", "\x01\x81\x80\x80\x80\x80\x80\x80\x80\x40\x03\x00", "\x01\x02\x81\x80\x80\x80\x80\x80\x80\x80\x40\x00", // above MaxNum
		"\x01\x02\x03" + maxNum, "\x01\x02\x03" + maxNum + "ab", "\x80\x80\x80\x80", "\xff\xff\xff\xff\xff",
		"\x01\x02\x03\x81\x80\x04" + long, // above MaxFrame
	} {
		b := sealed(body)
		refused(t, b, len(b), api.ErrForm)
		refused(t, append(b, "\x04\x00\x00"...), len(sealed(body)), api.ErrForm)
	}
}

func TestAllShortBodies(t *testing.T) {
	some := []byte{0, 1, 2, 127, 128, 255}
	many := 0
	for length := range 7 {
		body := make([]byte, length)
		for n := range int(math.Pow(float64(len(some)), float64(length))) {
			for i := range body {
				body[i] = some[n%len(some)]
				n /= len(some)
			}
			b := sealed(string(body))
			p, size, e := frame.Get(b)
			if e == api.OK {
				many++
			}
			again, f := frame.Put(p)
			ok := e == api.OK && f == api.OK && bytes.Equal(again, b) || e == api.ErrForm && p == (api.Packet{})
			if !ok || size != len(b) {
				t.Errorf("%x: %v, %d, %d; again %x, %d", b, p, size, e, again, f)
			}
		}
	}
	if many < 100 {
		t.Error("too few are packets", many)
	}
}

// holds asks of any bytes: what is got of them has just the bytes that are put of it.
func holds(t *testing.T, b []byte) {
	t.Helper()
	p, size, e := frame.Get(b)
	switch e {
	case api.OK:
		if again, f := frame.Put(p); f != api.OK || size != len(again) || !bytes.HasPrefix(b, again) {
			t.Errorf("%x: %v, %d; again %x, %d", b, p, size, again, f)
		}
	case api.ErrLong:
		refused(t, b, 0, e)
	case api.ErrForm, api.ErrSum:
		if p != (api.Packet{}) || size > len(b) || size < 0 || size == 0 && e == api.ErrSum {
			t.Errorf("%x: %v, %d, %d", b, p, size, e)
		}
	default:
		t.Errorf("%x: %d", b, e)
	}
}

func FuzzGet(f *testing.F) {
	for _, x := range samples()[:8] {
		f.Add(sealed(x.body))
		f.Add(append(sealed(x.body), x.body...))
	}
	f.Fuzz(func(t *testing.T, b []byte) { holds(t, b) })
}

// P12.3

func TestBackWhateverStandsBehind(t *testing.T) {
	for _, x := range samples() {
		b, e := frame.Put(x.p)
		if e != api.OK {
			t.Fatal(e)
		}
		for _, behind := range []string{"", "\x00", "\xff", "\x80\x80", string(b), strings.Repeat("\xff", 99), long} {
			gets(t, append(bytes.Clone(b), behind...), x.p, len(b), api.OK)
		}
	}
}

func TestBackOfAny(t *testing.T) {
	chance := rand.New(rand.NewSource(12))
	for range 5000 {
		data := make([]byte, chance.Intn(40))
		chance.Read(data)
		p := api.Packet{Epoch: 1 << chance.Intn(63), Seq: 1 << chance.Intn(63), Ack: chance.Intn(api.MaxNum), Data: string(data)}
		b, e := frame.Put(p)
		if e != api.OK {
			t.Fatal(p, e)
		}
		gets(t, b, p, len(b), api.OK)
		gets(t, append(b, data...), p, len(b), api.OK)
	}
}

func TestFramesOneBehindTheOther(t *testing.T) {
	var b []byte
	for _, x := range samples() {
		b = append(b, sealed(x.body)...)
	}
	for _, x := range samples() {
		p, size, e := frame.Get(b)
		if p != x.p || e != api.OK {
			t.Fatalf("%.50v, %d", p, e)
		}
		b = b[size:]
	}
	refused(t, b, 0, api.ErrForm)
}

// P12.4

// turn turns bits of bytes, behind so many of them; the lowest bit of a byte is its first.
func turn(b []byte, at int, bits uint32) []byte {
	out := bytes.Clone(b)
	for i := range 32 {
		if bits>>i&1 == 1 {
			out[(at+i)/8] ^= 1 << ((at + i) % 8)
		}
	}
	return out
}

// digits tells how many bytes a frame's number has.
func digits(b []byte) int {
	return 1 + slices.IndexFunc(b, func(c byte) bool { return c < 128 })
}

func TestEachSingleBit(t *testing.T) {
	for _, x := range samples()[:8] {
		b := sealed(x.body)
		for at := range 8 * len(b) {
			spoilt := turn(b, at, 1)
			if at >= 8*digits(b) {
				refused(t, spoilt, len(b), api.ErrSum)
			} else if p, _, e := frame.Get(spoilt); e == api.OK || p != (api.Packet{}) {
				t.Errorf("bit %d of the number of %x: %v", at, b, p)
			}
			holds(t, append(spoilt, b...))
		}
	}
}

func TestBursts(t *testing.T) {
	chance := rand.New(rand.NewSource(4))
	for _, x := range samples()[:8] {
		b := sealed(x.body)
		for at := 8 * digits(b); at < 8*len(b); at++ {
			for length := 2; length <= min(32, 8*len(b)-at); length++ {
				ends := uint32(1) | 1<<(length-1)
				within := uint32(1<<length - 1)
				for _, bits := range []uint32{ends, within, ends | chance.Uint32()&within, ends | chance.Uint32()&within} {
					if _, size, e := frame.Get(turn(b, at, bits)); size != len(b) || e != api.ErrSum {
						t.Fatalf("%x, bits %x from %d on: %d, %d", b, bits, at, size, e)
					}
				}
			}
		}
	}
}

func TestBurstsOfAGreatFrame(t *testing.T) {
	chance := rand.New(rand.NewSource(5))
	l := samples()
	b := sealed(l[len(l)-1].body)
	for range 100 {
		at := 8*digits(b) + chance.Intn(8*(len(b)-digits(b))-31)
		refused(t, turn(b, at, 1|chance.Uint32()), len(b), api.ErrSum)
	}
}

// What is handed in and out

func TestHandedInStaysAsItWas(t *testing.T) {
	for _, x := range samples() {
		whole := append(sealed(x.body), "spare"...)
		was := bytes.Clone(whole)
		b := whole[:len(whole)-5]
		p, size, e := frame.Get(b)
		if p != x.p || size != len(b) || e != api.OK || !bytes.Equal(whole, was) {
			t.Errorf("%.50v, %d, %d", p, size, e)
		}
		whole[len(b)-1]++
		was = bytes.Clone(whole)
		if refused(t, b, len(b), api.ErrSum); !bytes.Equal(whole, was) {
			t.Error("bytes that are refused were changed")
		}
		for i := range whole {
			whole[i] = '!'
		}
		if p != x.p {
			t.Errorf("%.50v: what is told is the bytes' memory", p)
		}
		one, _ := frame.Put(x.p)
		two, _ := frame.Put(x.p)
		clear(one)
		if !bytes.Equal(two, sealed(x.body)) {
			t.Error("two answers are one memory")
		}
	}
}
