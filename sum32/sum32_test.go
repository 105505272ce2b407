package sum32_test

import (
	"bytes"
	"hash/crc32"
	"math"
	"math/rand"
	"testing"

	"variorum/sum32"
)

// samples tells bytes of many lengths, the same ones at each call.
func samples() [][]byte {
	chance := rand.New(rand.NewSource(2))
	out := [][]byte{nil, {}, {0}, {255}, []byte("a"), []byte("123456789"), make([]byte, 40), bytes.Repeat([]byte{255}, 40)}
	for length := range 70 {
		b := make([]byte, length)
		chance.Read(b)
		out = append(out, b)
	}
	return out
}

// plainSum is the chapter's words, one by one.
func plainSum(b []byte) uint32 {
	x := uint32(0xFFFFFFFF)
	for _, c := range b {
		x ^= uint32(c)
		for i := 0; i < 8; i++ {
			fell := x & 1
			x >>= 1
			if fell == 1 {
				x ^= 0x82F63B78
			}
		}
	}
	return ^x
}

// P2.1

func TestSumOfExamples(t *testing.T) {
	for s, want := range map[string]uint32{"": 0, "123456789": 0xE3069283, "a": 0xC1D04330, "\x00": 0x527D5351} {
		if got := sum32.Sum([]byte(s)); got != want {
			t.Errorf("%q: %x", s, got)
		}
	}
	if sum32.Sum(nil) != 0 {
		t.Error("of nothing")
	}
}

func TestSumGoesByTheSteps(t *testing.T) {
	table := crc32.MakeTable(crc32.Castagnoli)
	for _, b := range samples() {
		if got := sum32.Sum(b); got != plainSum(b) || got != crc32.Checksum(b, table) {
			t.Errorf("%x: %x", b, got)
		}
	}
	long := bytes.Repeat([]byte("variorum"), 1<<15)
	if got := sum32.Sum(long); got != crc32.Checksum(long, table) {
		t.Errorf("long: %x", got)
	}
}

// P2.2

func TestSealPutsTheSumLowestFirst(t *testing.T) {
	if got := sum32.Seal([]byte("123456789")); string(got) != "123456789\x83\x92\x06\xe3" {
		t.Errorf("%x", got)
	}
	for _, b := range [][]byte{nil, {}} {
		if got := sum32.Seal(b); string(got) != "\x00\x00\x00\x00" {
			t.Errorf("of nothing: %x", got)
		}
	}
	for _, b := range samples() {
		x := sum32.Sum(b)
		want := append(bytes.Clone(b), byte(x), byte(x>>8), byte(x>>16), byte(x>>24))
		if got := sum32.Seal(b); !bytes.Equal(got, want) {
			t.Errorf("%x: %x", b, got)
		}
	}
}

func TestOpenTellsWhatWasSealed(t *testing.T) {
	for _, b := range samples() {
		if got, ok := sum32.Open(sum32.Seal(b)); !ok || !bytes.Equal(got, b) {
			t.Errorf("%x: %x, %v", b, got, ok)
		}
	}
}

func wantShut(t *testing.T, what string, b []byte) {
	t.Helper()
	if got, ok := sum32.Open(b); ok || len(got) != 0 {
		t.Errorf("%s: %x opened: %x, %v", what, b, got, ok)
	}
}

func TestOpenOfWhatIsTooShort(t *testing.T) {
	for _, s := range []string{"", "\x00", "\x00\x00", "\x00\x00\x00", "abc"} {
		wantShut(t, "short", []byte(s))
	}
	wantShut(t, "nil", nil)
	sealed := sum32.Seal([]byte("ab"))
	for length := range len(sealed) {
		wantShut(t, "cut", sealed[:length])
	}
}

func TestOpenOfAnotherSum(t *testing.T) {
	x := sum32.Sum([]byte("ab"))
	wantShut(t, "highest first", []byte{'a', 'b', byte(x >> 24), byte(x >> 16), byte(x >> 8), byte(x)})
	wantShut(t, "other bytes", append([]byte("ac"), sum32.Seal([]byte("ab"))[2:]...))
	for i := range 4 {
		for c := 1; c < 256; c++ {
			b := sum32.Seal([]byte("ab"))
			b[2+i] ^= byte(c)
			wantShut(t, "a byte of the sum", b)
		}
	}
}

func TestNothingHandedInIsWritten(t *testing.T) {
	room := []byte("abcdefghijkl")
	sealed := sum32.Seal(room[:3])
	sealed[0] = '!'
	if string(room) != "abcdefghijkl" {
		t.Errorf("Seal: %q", room)
	}
	sealed = append(sum32.Seal([]byte("abc")), "spare"...)
	kept := string(sealed)
	inner, ok := sum32.Open(sealed[:7])
	if !ok || string(inner) != "abc" || bytes.ContainsAny(inner[len(inner):cap(inner)], "spare") {
		t.Errorf("Open: %q, %v", inner, ok)
	}
	inner[0] = '!'
	if inner = append(inner, "??????"...); string(sealed) != kept {
		t.Errorf("Open's answer is b's memory: %q", sealed)
	}
}

// P2.3

func TestJoinTellsTheSumTogether(t *testing.T) {
	all := samples()
	for _, a := range all {
		for _, b := range all {
			want := sum32.Sum(append(bytes.Clone(a), b...))
			if got := sum32.Join(sum32.Sum(a), sum32.Sum(b), len(b)); got != want {
				t.Fatalf("%x and %x: %x", a, b, got)
			}
		}
	}
}

func TestJoinOfMany(t *testing.T) {
	chance := rand.New(rand.NewSource(3))
	long := make([]byte, 1<<20+3)
	chance.Read(long)
	for _, many := range []int{0, 1, 2, 3, 255, 256, 1000, 65535, 1<<19 + 1, 1<<20 - 1, 1 << 20} {
		for cut := range 4 {
			a, b := long[:cut], long[cut:cut+many]
			if got := sum32.Join(sum32.Sum(a), sum32.Sum(b), many); got != sum32.Sum(long[:cut+many]) {
				t.Errorf("%d behind %d: %x", many, cut, got)
			}
		}
	}
}

func TestJoinOfNothing(t *testing.T) {
	for _, x := range []uint32{0, 1, 7, 0x80000000, math.MaxUint32} {
		if got := sum32.Join(x, 0, 0); got != x {
			t.Errorf("nothing behind %x: %x", x, got)
		}
	}
	x := sum32.Sum([]byte("abc"))
	if got := sum32.Join(0, x, 3); got != x {
		t.Errorf("%x behind nothing: %x", x, got)
	}
}

func TestJoinOfAnotherMany(t *testing.T) {
	for _, many := range []int{-1, -2, math.MinInt, 1<<20 + 1, 1 << 21, math.MaxInt} {
		if got := sum32.Join(1, 2, many); got != 0 {
			t.Errorf("%d: %x", many, got)
		}
	}
}

// P2.4

// turned tells b with the bits of a pattern turned from bit at on, the lowest bit of a byte first.
func turned(b []byte, at int, pattern uint32) []byte {
	out := bytes.Clone(b)
	for i := range 32 {
		if pattern>>i&1 == 1 {
			out[(at+i)/8] ^= 1 << ((at + i) % 8)
		}
	}
	return out
}

func TestBurstsAreNotOpened(t *testing.T) {
	chance := rand.New(rand.NewSource(4))
	patterns := []uint32{1, 3, 5, 0xFF, 0x80000001, 0xFFFFFFFF, 0x82F63B78, 0x05EC76F1, 0x1EDC6F41, 0xAAAAAAAA}
	for range 200 {
		patterns = append(patterns, chance.Uint32())
	}
	for _, b := range samples() {
		sealed := sum32.Seal(b)
		for at := range 8*len(sealed) - 31 {
			for _, p := range patterns {
				if p != 0 {
					wantShut(t, "burst", turned(sealed, at, p))
				}
			}
		}
	}
}

func TestEachShortBurstIsNotOpened(t *testing.T) {
	sealed := sum32.Seal([]byte("ab"))
	for at := range 8*len(sealed) - 31 {
		for p := uint32(1); p < 1<<12; p++ {
			wantShut(t, "low", turned(sealed, at, p))
			wantShut(t, "high", turned(sealed, at, p<<20))
		}
	}
}

// P2.5

func TestSumOfThree(t *testing.T) {
	chance := rand.New(rand.NewSource(5))
	for length := range 100 {
		a, b, c, all := make([]byte, length), make([]byte, length), make([]byte, length), make([]byte, length)
		chance.Read(a)
		chance.Read(b)
		chance.Read(c)
		for i := range all {
			all[i] = a[i] ^ b[i] ^ c[i]
		}
		if got := sum32.Sum(a) ^ sum32.Sum(b) ^ sum32.Sum(c); got != sum32.Sum(all) {
			t.Errorf("%d bytes: %x", length, got)
		}
	}
}
