package lines_test

import (
	"math"
	"math/rand"
	"strings"
	"testing"

	"variorum/api"
	"variorum/lines"
)

// same asks all that an index tells, and holds it against a text.
func same(t *testing.T, x *lines.Index, want string) {
	t.Helper()
	parts := strings.SplitAfter(want, "\n")
	if x.Lines() != len(parts) || x.Len() != len(want) {
		t.Fatalf("%q: %d lines, %d bytes", want, x.Lines(), x.Len())
	}
	start := 0
	for line, part := range parts {
		last := line == len(parts)-1
		sameLine(t, x, line, start, len(part), last)
		start += len(part)
	}
	for _, at := range []int{math.MinInt, -1, len(want) + 1, math.MaxInt} {
		if l, c, ok := x.Pos(at); l != 0 || c != 0 || ok {
			t.Fatalf("Pos(%d) of %q: %d, %d, %t", at, want, l, c, ok)
		}
	}
	for _, line := range []int{math.MinInt, -1, len(parts), len(parts) + 1, math.MaxInt} {
		if s, ok := x.Start(line); s != 0 || ok {
			t.Fatalf("Start(%d) of %q: %d, %t", line, want, s, ok)
		}
		for _, col := range []int{math.MinInt, -1, 0, 1, math.MaxInt} {
			if at, ok := x.Offset(line, col); at != 0 || ok {
				t.Fatalf("Offset(%d, %d) of %q: %d, %t", line, col, want, at, ok)
			}
		}
	}
}

// sameLine asks of a line that begins at start and has so many bytes, its line feed too.
func sameLine(t *testing.T, x *lines.Index, line, start, many int, last bool) {
	t.Helper()
	if s, ok := x.Start(line); s != start || !ok {
		t.Fatalf("Start(%d): %d, %t; want %d", line, s, ok, start)
	}
	cols := many
	if last {
		cols++ // the text's end is a place of the last line
	}
	for col := range cols {
		if l, c, ok := x.Pos(start + col); l != line || c != col || !ok {
			t.Fatalf("Pos(%d): %d, %d, %t; want %d, %d", start+col, l, c, ok, line, col)
		}
		if at, ok := x.Offset(line, col); at != start+col || !ok {
			t.Fatalf("Offset(%d, %d): %d, %t; want %d", line, col, at, ok, start+col)
		}
	}
	for _, col := range []int{math.MinInt, -1, cols, cols + 1, math.MaxInt} {
		if at, ok := x.Offset(line, col); at != 0 || ok {
			t.Fatalf("Offset(%d, %d): %d, %t; want none", line, col, at, ok)
		}
	}
}

func TestExample(t *testing.T) {
	x := lines.New("a\nbc")
	if x.Lines() != 2 {
		t.Error(x.Lines())
	}
	if l, c, ok := x.Pos(3); l != 1 || c != 1 || !ok {
		t.Error(l, c, ok)
	}
	if at, ok := x.Offset(0, 2); at != 0 || ok {
		t.Error(at, ok)
	}
}

func TestNew(t *testing.T) {
	for _, s := range []string{"", "a", "\n", "a\n", "\na", "\n\n", "a\nbc", "a\nbc\n", "\n\na\n\n\nb\n\n", "\r\n\r", "\x00\xff\n\u2028\v\f", "\n\xc3\n"} {
		same(t, lines.New(s), s)
	}
}

// TestPlaces: the places that the words name, each told out.
func TestPlaces(t *testing.T) {
	x := lines.New("ab\n\ncd\n")
	for at, want := range [][2]int{{0, 0}, {0, 1}, {0, 2}, {1, 0}, {2, 0}, {2, 1}, {2, 2}, {3, 0}} {
		if l, c, ok := x.Pos(at); l != want[0] || c != want[1] || !ok {
			t.Errorf("Pos(%d): %d, %d, %t", at, l, c, ok)
		}
	}
	for line, want := range []int{0, 3, 4, 7} {
		if s, ok := x.Start(line); s != want || !ok {
			t.Errorf("Start(%d): %d, %t", line, s, ok)
		}
	}
	for _, p := range []struct {
		line, col, at int
		ok            bool
	}{
		{0, 2, 2, true}, {0, 3, 0, false}, // at the line feed, and behind it
		{1, 0, 3, true}, {1, 1, 0, false}, // an empty line has its line feed alone
		{2, 2, 6, true}, {2, 3, 0, false},
		{3, 0, 7, true}, {3, 1, 0, false}, // behind the last line feed
		{4, 0, 0, false}, {-1, 0, 0, false}, {0, -1, 0, false}, {3, -1, 0, false}, {1, -1, 0, false},
	} {
		if at, ok := x.Offset(p.line, p.col); at != p.at || ok != p.ok {
			t.Errorf("Offset(%d, %d): %d, %t", p.line, p.col, at, ok)
		}
	}
}

// TestEdit: each drop at each place of texts with line feeds side by side and at the ends, with adds of no, one and several line feeds.
func TestEdit(t *testing.T) {
	for _, text := range []string{"", "a", "\n", "ab\n\nc\nd", "\n\nab\n\n"} {
		for at := range len(text) + 1 {
			for drop := range len(text) - at + 1 {
				for _, add := range []string{"", "x", "\n", "x\n", "\nx", "\n\n", "x\ny\n\nz"} {
					x := lines.New(text)
					if e := x.Edit(at, drop, add); e != api.OK {
						t.Fatalf("Edit(%d, %d, %q) of %q: %d", at, drop, add, text, int(e))
					}
					same(t, x, text[:at]+add+text[at+drop:])
				}
			}
		}
	}
}

func TestEditOutOfRange(t *testing.T) {
	const text = "a\nbc\n"
	x := lines.New(text)
	long := strings.Repeat("\n", api.MaxText+1)
	for _, p := range [][2]int{
		{-1, 0}, {-1, 1}, {math.MinInt, 0}, {6, 0}, {7, 0}, {math.MaxInt, 0}, // an at out of the text
		{0, -1}, {5, -1}, {3, -3}, {0, math.MinInt}, // a drop below 0
		{0, 6}, {5, 1}, {2, 4}, {6, -1}, // more than there is
		{1, math.MaxInt}, {math.MaxInt, math.MaxInt}, {math.MinInt, math.MinInt}, {math.MaxInt, math.MinInt}, {math.MinInt, math.MaxInt}, {math.MaxInt, 2},
	} {
		for _, add := range []string{"", "x\n", long} { // ErrRange is told ahead of ErrFull
			if e := x.Edit(p[0], p[1], add); e != api.ErrRange {
				t.Errorf("Edit(%d, %d, %d bytes): %d", p[0], p[1], len(add), int(e))
			}
		}
	}
	same(t, x, text)
}

func TestFull(t *testing.T) {
	x := lines.New(strings.Repeat("a", api.MaxText-3) + "\n")
	if e := x.Edit(1, 0, "\nxy"); e != api.ErrFull {
		t.Errorf("one above MaxText: %d", int(e))
	}
	if x.Len() != api.MaxText-2 || x.Lines() != 2 {
		t.Errorf("what was refused changed something: %d bytes, %d lines", x.Len(), x.Lines())
	}
	if e := x.Edit(1, 0, "\nx"); e != api.OK || x.Len() != api.MaxText || x.Lines() != 3 {
		t.Errorf("just MaxText: %d", int(e))
	}
	if x.Edit(0, 0, "\n") != api.ErrFull || x.Edit(api.MaxText, 0, "\n") != api.ErrFull || x.Edit(0, 1, "\n\n") != api.ErrFull {
		t.Error("a full one took more")
	}
	if x.Edit(api.MaxText+1, 0, "\n") != api.ErrRange || x.Edit(0, 0, "") != api.OK || x.Lines() != 3 {
		t.Error("a full one: out of range, and nothing")
	}
	if x.Edit(0, 1, "\n") != api.OK || x.Lines() != 4 || x.Len() != api.MaxText {
		t.Error("what goes makes room for what comes")
	}
	if l, c, ok := x.Pos(api.MaxText); l != 3 || c != 0 || !ok {
		t.Error(l, c, ok)
	}
	if x.Edit(0, api.MaxText, "") != api.OK {
		t.Error("all out")
	}
	same(t, x, "")
	full := strings.Repeat("\n", api.MaxText)
	if x.Edit(0, 0, full+"\n") != api.ErrFull || x.Edit(0, 0, full) != api.OK || x.Lines() != api.MaxText+1 {
		t.Error("a text of MaxText bytes, and one above it")
	}
	if at, ok := x.Start(api.MaxText); at != api.MaxText || !ok {
		t.Error(at, ok)
	}
}

// TestNewOfMore: New names no limit; an Edit holds the text that comes of it against MaxText.
func TestNewOfMore(t *testing.T) {
	x := lines.New(strings.Repeat("a", api.MaxText+1) + "\n")
	if x.Len() != api.MaxText+2 || x.Lines() != 2 {
		t.Error(x.Len(), x.Lines())
	}
	if x.Edit(0, 0, "") != api.ErrFull || x.Edit(0, 1, "") != api.ErrFull || x.Edit(0, 3, "xy") != api.ErrFull || x.Len() != api.MaxText+2 {
		t.Error("a text that stays longer than MaxText")
	}
	if x.Edit(0, 3, "x") != api.OK || x.Len() != api.MaxText || x.Lines() != 2 {
		t.Error(x.Len(), x.Lines())
	}
}

// chanceText tells a text with many line feeds.
func chanceText(chance *rand.Rand, most int) string {
	b := make([]byte, chance.Intn(most+1))
	for i := range b {
		b[i] = "a\nb\n\xff"[chance.Intn(5)]
	}
	return string(b)
}

// TestEdits: many edits one behind the other, of an index and its clones, each held against a plain text of its own.
func TestEdits(t *testing.T) {
	for seed := range 10 {
		chance := rand.New(rand.NewSource(int64(seed)))
		first := chanceText(chance, 20)
		indexes, texts := []*lines.Index{lines.New(first)}, []string{first}
		for range 150 {
			i := chance.Intn(len(indexes))
			if chance.Intn(10) == 0 && len(indexes) < 5 {
				indexes, texts = append(indexes, indexes[i].Clone()), append(texts, texts[i])
			}
			text := texts[i]
			at := chance.Intn(len(text) + 1)
			drop := chance.Intn(min(len(text)-at, 8) + 1)
			add := chanceText(chance, 6)
			if e := indexes[i].Edit(at, drop, add); e != api.OK {
				t.Fatalf("Edit(%d, %d, %q) of %q: %d", at, drop, add, text, int(e))
			}
			texts[i] = text[:at] + add + text[at+drop:]
			for i, x := range indexes {
				same(t, x, texts[i])
			}
		}
	}
}

// TestBack: Offset of Pos is the place; Start of a line is the Offset of its first byte.
func TestBack(t *testing.T) {
	x := lines.New("\nab\n\n\ncd\ne")
	for at := range x.Len() + 1 {
		l, c, ok := x.Pos(at)
		back, okBack := x.Offset(l, c)
		if !ok || !okBack || back != at {
			t.Errorf("%d: Pos %d, %d; Offset %d", at, l, c, back)
		}
	}
	for line := range x.Lines() {
		s, ok := x.Start(line)
		at, okAt := x.Offset(line, 0)
		if !ok || !okAt || s != at {
			t.Errorf("line %d: Start %d, Offset %d", line, s, at)
		}
	}
}

// TestClone: what one does is not seen in the other, whichever is changed first.
func TestClone(t *testing.T) {
	const text = "a\nb\nc\nd"
	a := lines.New(text)
	b := a.Clone()
	if a == b {
		t.Fatal("the Clone is no other one")
	}
	same(t, b, text)
	a.Edit(0, 0, "x") // moves all starts behind it, and none comes or goes
	same(t, a, "x"+text)
	same(t, b, text)
	b.Edit(1, 2, "") // a line goes
	same(t, a, "x"+text)
	same(t, b, "a\nc\nd")
	a.Edit(8, 0, "\n") // one comes behind all others, as it would in both lists' spare room
	c := a.Clone()
	a.Edit(9, 0, "\n")
	c.Edit(9, 0, "yy\n")
	same(t, a, "x"+text+"\n\n")
	same(t, b, "a\nc\nd")
	same(t, c, "x"+text+"\nyy\n")
	empty := lines.New("")
	twin := empty.Clone()
	twin.Edit(0, 0, "\n")
	same(t, empty, "")
	same(t, twin, "\n")
}

func TestMadeByNoCall(t *testing.T) {
	var none *lines.Index
	if none.Clone() != nil {
		t.Error("the Clone of nil is not nil")
	}
	plain := &lines.Index{}
	twin := plain.Clone()
	if twin == nil || twin == plain {
		t.Fatal("the Clone of a plain one is not another one")
	}
	for name, x := range map[string]*lines.Index{"nil": none, "plain": plain, "its clone": twin} {
		for i, e := range []api.Errno{x.Edit(0, 0, ""), x.Edit(0, 0, "a\n"), x.Edit(-1, 0, ""), x.Edit(0, -1, ""), x.Edit(1, 1, "")} {
			if e != api.ErrNil {
				t.Errorf("%s: %d: %d", name, i, int(e))
			}
		}
		if x.Lines() != 0 || x.Len() != 0 {
			t.Errorf("%s: %d lines, %d bytes", name, x.Lines(), x.Len())
		}
		for _, n := range []int{math.MinInt, -1, 0, 1, math.MaxInt} {
			s, okStart := x.Start(n)
			l, c, okPos := x.Pos(n)
			at, okOffset := x.Offset(n, 0)
			if s != 0 || l != 0 || c != 0 || at != 0 || okStart || okPos || okOffset {
				t.Errorf("%s: %d: Start %d, Pos %d, %d, Offset %d", name, n, s, l, c, at)
			}
		}
	}
}
