package piece_test

import (
	"math"
	"math/rand"
	"runtime"
	"strings"
	"testing"

	"variorum/api"
	"variorum/piece"
)

// made tells a buffer of a text.
func made(t *testing.T, s string) *piece.Buffer {
	t.Helper()
	b, e := piece.New(s)
	if e != api.OK || b == nil {
		t.Fatalf("New of %d bytes: %d", len(s), int(e))
	}
	return b
}

// parted tells a buffer of these texts, a piece each.
func parted(t *testing.T, l ...string) *piece.Buffer {
	t.Helper()
	b := made(t, "")
	for _, s := range l {
		if e := b.Insert(b.Len(), s); e != api.OK {
			t.Fatalf("Insert of %q: %d", s, int(e))
		}
	}
	same(t, b, strings.Join(l, ""), len(l))
	return b
}

// same asks all that a buffer tells, and holds it against a text.
func same(t *testing.T, b *piece.Buffer, want string, pieces int) {
	t.Helper()
	if b.Text() != want || b.Len() != len(want) || b.Pieces() != pieces {
		t.Fatalf("%q, Len %d, %d pieces; want %q, %d pieces", b.Text(), b.Len(), b.Pieces(), want, pieces)
	}
	for i := range len(want) {
		if x, ok := b.Byte(i); x != want[i] || !ok {
			t.Fatalf("Byte(%d) of %q: %d, %t", i, want, x, ok)
		}
	}
	for _, i := range []int{math.MinInt, -1, len(want), len(want) + 1, math.MaxInt} {
		if x, ok := b.Byte(i); x != 0 || ok {
			t.Fatalf("Byte(%d) of %q: %d, %t", i, want, x, ok)
		}
	}
}

func TestExample(t *testing.T) {
	b := made(t, "abcd")
	if b.Insert(2, "XY") != api.OK {
		t.Error("Insert")
	}
	same(t, b, "abXYcd", 3)
	if b.Delete(1, 2) != api.OK {
		t.Error("Delete")
	}
	same(t, b, "aYcd", 3)
}

func TestNew(t *testing.T) {
	same(t, made(t, ""), "", 0)
	same(t, made(t, "a"), "a", 1)
	same(t, made(t, "\x00\xff\n"), "\x00\xff\n", 1)
	if b := made(t, strings.Repeat("a", api.MaxText)); b.Len() != api.MaxText || b.Pieces() != 1 {
		t.Error(b.Len(), b.Pieces())
	}
	if b, e := piece.New(strings.Repeat("a", api.MaxText+1)); b != nil || e != api.ErrFull {
		t.Error("New of more than MaxText bytes:", int(e))
	}
}

func TestInsert(t *testing.T) {
	for _, x := range []struct {
		at     int
		s      string
		want   string
		pieces int
	}{
		{0, "X", "Xabcdef", 3},
		{2, "X", "abXcdef", 4}, // parts abc
		{3, "X", "abcXdef", 3}, // between two
		{5, "X", "abcdeXf", 4}, // parts def
		{6, "X", "abcdefX", 3},
		{0, "", "abcdef", 2},
		{2, "", "abcdef", 2},
		{6, "", "abcdef", 2},
	} {
		b := parted(t, "abc", "def")
		if e := b.Insert(x.at, x.s); e != api.OK {
			t.Errorf("Insert(%d, %q): %d", x.at, x.s, int(e))
		}
		same(t, b, x.want, x.pieces)
	}
	b := parted(t, "abc", "def")
	for _, at := range []int{math.MinInt, -1, 7, math.MaxInt} {
		for _, s := range []string{"", "X", strings.Repeat("X", api.MaxText)} {
			if e := b.Insert(at, s); e != api.ErrRange {
				t.Errorf("Insert(%d, %d bytes): %d", at, len(s), int(e))
			}
		}
	}
	same(t, b, "abcdef", 2)
	empty := made(t, "")
	if empty.Insert(1, "X") != api.ErrRange || empty.Insert(0, "X") != api.OK {
		t.Error("Insert into an empty one")
	}
	same(t, empty, "X", 1)
}

func TestFull(t *testing.T) {
	b := made(t, strings.Repeat("a", api.MaxText-2))
	if e := b.Insert(1, "XYZ"); e != api.ErrFull {
		t.Errorf("one above MaxText: %d", int(e))
	}
	if b.Len() != api.MaxText-2 || b.Pieces() != 1 {
		t.Errorf("what was refused changed something: %d bytes, %d pieces", b.Len(), b.Pieces())
	}
	if e := b.Insert(1, "XY"); e != api.OK || b.Len() != api.MaxText || b.Pieces() != 3 {
		t.Errorf("just MaxText: %d", int(e))
	}
	if b.Insert(0, "Z") != api.ErrFull || b.Insert(api.MaxText, "Z") != api.ErrFull {
		t.Error("a full one took more")
	}
	if b.Insert(0, "") != api.OK || b.Insert(api.MaxText+1, "Z") != api.ErrRange {
		t.Error("a full one: nothing, and out of range")
	}
	if b.Delete(0, 1) != api.OK || b.Insert(0, "Z") != api.OK || b.Len() != api.MaxText {
		t.Error("a full one has room again behind a Delete")
	}
	if s, e := b.Slice(0, 4); s != "ZXYa" || e != api.OK {
		t.Errorf("%q, %d", s, int(e))
	}
	if b.Delete(0, api.MaxText) != api.OK {
		t.Error("Delete of all")
	}
	same(t, b, "", 0)
}

func TestDelete(t *testing.T) {
	for _, x := range []struct {
		at, many int
		want     string
		pieces   int
	}{
		{0, 0, "abcdefghi", 3}, // nothing, at a piece's beginning
		{1, 0, "abcdefghi", 3}, // nothing, within a piece
		{9, 0, "abcdefghi", 3},
		{0, 1, "bcdefghi", 3}, // a piece's beginning
		{2, 1, "abdefghi", 3}, // its end
		{4, 1, "abcdfghi", 4}, // within one
		{0, 3, "defghi", 2},   // a whole one
		{3, 3, "abcghi", 2},   // a whole one
		{6, 3, "abcdef", 2},   // a whole one
		{2, 2, "abefghi", 3},  // over two
		{1, 7, "ai", 2},       // over all, the outer two in part
		{0, 4, "efghi", 2},    // a whole one and a part
		{2, 4, "abghi", 2},    // a part and a whole one
		{0, 9, "", 0},         // all
		{0, 8, "i", 1},
		{1, 8, "a", 1},
	} {
		b := parted(t, "abc", "def", "ghi")
		if e := b.Delete(x.at, x.many); e != api.OK {
			t.Errorf("Delete(%d, %d): %d", x.at, x.many, int(e))
		}
		same(t, b, x.want, x.pieces)
	}
	b := parted(t, "abc", "def")
	for _, x := range [][2]int{{-1, 0}, {-1, 1}, {math.MinInt, 0}, {0, -1}, {3, -3}, {0, math.MinInt}, {7, 0}, {7, -1}, {0, 7}, {3, 4}, {6, 1}, {math.MaxInt, 0}, {1, math.MaxInt}, {math.MaxInt, math.MaxInt}, {math.MinInt, math.MinInt}} {
		if e := b.Delete(x[0], x[1]); e != api.ErrRange {
			t.Errorf("Delete(%d, %d): %d", x[0], x[1], int(e))
		}
	}
	same(t, b, "abcdef", 2)
}

func TestSlice(t *testing.T) {
	b := parted(t, "abc", "d", "ef")
	for from := -1; from <= 7; from++ {
		for to := -1; to <= 7; to++ {
			s, e := b.Slice(from, to)
			if 0 <= from && from <= to && to <= 6 {
				if s != "abcdef"[from:to] || e != api.OK {
					t.Errorf("Slice(%d, %d): %q, %d", from, to, s, int(e))
				}
			} else if s != "" || e != api.ErrRange {
				t.Errorf("Slice(%d, %d): %q, %d", from, to, s, int(e))
			}
		}
	}
	for _, x := range [][2]int{{math.MinInt, math.MaxInt}, {0, math.MaxInt}, {math.MinInt, 0}, {math.MaxInt, math.MinInt}} {
		if s, e := b.Slice(x[0], x[1]); s != "" || e != api.ErrRange {
			t.Errorf("Slice(%d, %d): %q, %d", x[0], x[1], s, int(e))
		}
	}
}

// TestEdits: many edits, held against a plain text and a plain list of pieces' lengths; each edit, taken back, leaves the text as it was.
func TestEdits(t *testing.T) {
	for seed := range 20 {
		chance := rand.New(rand.NewSource(int64(seed)))
		first := strings.Repeat("s", chance.Intn(6))
		b := made(t, first)
		text, sizes := first, lengths(len(first))
		for n := range 150 {
			at := chance.Intn(len(text) + 1)
			if chance.Intn(2) == 0 {
				s := strings.Repeat(string(rune('a'+n%26)), chance.Intn(5))
				back(t, b, at, s)
				b.Insert(at, s)
				text = text[:at] + s + text[at:]
				if s != "" {
					sizes = insertSize(sizes, at, len(s))
				}
			} else {
				many := chance.Intn(min(9, len(text)-at+1))
				b.Delete(at, many)
				text = text[:at] + text[at+many:]
				sizes = deleteSize(sizes, at, many)
			}
			same(t, b, text, len(sizes))
		}
	}
}

// back: what was inserted and deleted again, at the same place, leaves the text as it was.
func back(t *testing.T, b *piece.Buffer, at int, s string) {
	t.Helper()
	twin, text := b.Clone(), b.Text()
	if twin.Insert(at, s) != api.OK || twin.Delete(at, len(s)) != api.OK || twin.Text() != text || twin.Len() != len(text) {
		t.Fatalf("Insert and Delete of %q at %d of %q: %q", s, at, text, twin.Text())
	}
	gone, _ := twin.Slice(at, min(at+2, len(text)))
	if twin.Delete(at, len(gone)) != api.OK || twin.Insert(at, gone) != api.OK || twin.Text() != text {
		t.Fatalf("Delete and Insert of %q at %d of %q: %q", gone, at, text, twin.Text())
	}
}

func lengths(n int) []int {
	if n == 0 {
		return nil
	}
	return []int{n}
}

// insertSize tells pieces' lengths behind an Insert, by the chapter's words.
func insertSize(sizes []int, at, n int) []int {
	var l []int
	put := false
	for _, size := range sizes {
		switch {
		case put || at > size || at == size:
			l = append(l, size)
		case at == 0:
			l, put = append(l, n, size), true
		default:
			l, put = append(l, at, n, size-at), true
		}
		at -= size
	}
	if !put {
		l = append(l, n)
	}
	return l
}

// deleteSize tells pieces' lengths behind a Delete, by the chapter's words.
func deleteSize(sizes []int, at, many int) []int {
	var l []int
	begin := 0
	for _, size := range sizes {
		end := begin + size
		from, to := max(begin, at), min(end, at+many)
		if from >= to {
			l = append(l, size)
		} else {
			l = append(append(l, lengths(from-begin)...), lengths(end-to)...)
		}
		begin = end
	}
	return l
}

// TestNotCopied: texts stay where they came from, however often they are parted.
func TestNotCopied(t *testing.T) {
	b, long := made(t, strings.Repeat("a", 1<<20)), strings.Repeat("b", 1<<10)
	var before, behind runtime.MemStats
	runtime.ReadMemStats(&before)
	for i := range 100 {
		b.Insert(i*2000+500, long)
		b.Delete(i*2000+1000, 1)
		b.Clone()
	}
	runtime.ReadMemStats(&behind)
	if grown := behind.TotalAlloc - before.TotalAlloc; grown > 1<<20 {
		t.Errorf("%d bytes for 100 edits", grown)
	}
}

// TestClone: what one does is not seen in the other, whichever is changed first and however often they are cloned.
func TestClone(t *testing.T) {
	a := parted(t, "abc", "def")
	b := a.Clone()
	c := b.Clone()
	same(t, b, "abcdef", 2)
	b.Delete(1, 1)
	same(t, a, "abcdef", 2)
	same(t, c, "abcdef", 2)
	same(t, b, "acdef", 3)
	a.Insert(0, "1")
	c.Insert(6, "2")
	a.Insert(7, "3")
	same(t, a, "1abcdef3", 4)
	same(t, b, "acdef", 3)
	same(t, c, "abcdef2", 3)
	d := a.Clone()
	a.Delete(0, 8)
	same(t, a, "", 0)
	same(t, d, "1abcdef3", 4)
	e := a.Clone()
	e.Insert(0, "new")
	same(t, a, "", 0)
	same(t, e, "new", 1)
}

// TestClonesOnTheirWays: a clone goes its own way through many edits, also such as fit into what room the other's list has.
func TestClonesOnTheirWays(t *testing.T) {
	chance := rand.New(rand.NewSource(4))
	buffers, texts := []*piece.Buffer{made(t, "start")}, []string{"start"}
	for n := range 600 {
		i := chance.Intn(len(buffers))
		b, text := buffers[i], texts[i]
		at := chance.Intn(len(text) + 1)
		switch chance.Intn(5) {
		case 0:
			if len(buffers) < 8 {
				buffers, texts = append(buffers, b.Clone()), append(texts, text)
			}
		case 1, 2:
			s := string(rune('a' + n%26))
			b.Insert(at, s)
			texts[i] = text[:at] + s + text[at:]
		default:
			many := min(2, len(text)-at)
			b.Delete(at, many)
			texts[i] = text[:at] + text[at+many:]
		}
		for i, b := range buffers {
			if b.Text() != texts[i] || b.Len() != len(texts[i]) {
				t.Fatalf("step %d: buffer %d: %q; want %q", n, i, b.Text(), texts[i])
			}
		}
	}
}

func TestMadeByNoCall(t *testing.T) {
	var none *piece.Buffer
	if none.Clone() != nil {
		t.Error("the Clone of nil is not nil")
	}
	plain := &piece.Buffer{}
	twin := plain.Clone()
	if twin == nil || twin == plain {
		t.Fatal("the Clone of a plain one is not another one")
	}
	for name, b := range map[string]*piece.Buffer{"nil": none, "plain": plain, "its clone": twin} {
		for i, e := range []api.Errno{b.Insert(0, ""), b.Insert(0, "a"), b.Insert(-1, "a"), b.Delete(0, 0), b.Delete(-1, 0)} {
			if e != api.ErrNil {
				t.Errorf("%s: %d: %d", name, i, int(e))
			}
		}
		for _, x := range [][2]int{{0, 0}, {0, 1}, {-1, 0}} {
			if s, e := b.Slice(x[0], x[1]); s != "" || e != api.ErrNil {
				t.Errorf("%s: Slice(%d, %d): %q, %d", name, x[0], x[1], s, int(e))
			}
		}
		same(t, b, "", 0)
	}
}
