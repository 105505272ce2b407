package relex_test

import (
	"fmt"
	"slices"
	"strings"
	"testing"

	"variorum/api"
	"variorum/lexer"
	"variorum/relex"
	"variorum/run"
)

func keep(n int) api.Run   { return api.Run{Keep: n} }
func add(s string) api.Run { return api.Run{Add: s} }
func drop(n int) api.Run   { return api.Run{Drop: n} }

func runs(l ...api.Run) []api.Run { return l }

// brief tells anything in words, of great things the beginning.
func brief(l any) string {
	s := fmt.Sprint(l)
	return s[:min(len(s), 200)]
}

// is holds an error.
func is(t *testing.T, what string, got, want api.Errno) {
	t.Helper()
	if got != want {
		t.Fatalf("%s: %d; want %d", what, int(got), int(want))
	}
}

// made tells a new text.
func made(t *testing.T, s string) *relex.Text {
	t.Helper()
	x := relex.New(s)
	if x == nil {
		t.Fatalf("New of %d bytes: nil", len(s))
	}
	return x
}

// holds holds all that a text tells, twice, since asking changes nothing.
func holds(t *testing.T, x *relex.Text, s string, work int) {
	t.Helper()
	lines := strings.Count(s, "\n") + 1
	for range 2 {
		if x.Text() != s {
			t.Fatalf("Text: %.80q; want %.80q", x.Text(), s)
		}
		if x.Lines() != lines || x.Work() != work {
			t.Fatalf("%.80q: Lines %d, Work %d; want %d, %d", s, x.Lines(), x.Work(), lines, work)
		}
		if l, want := x.Tokens(), lexer.Lex(s); !slices.Equal(l, want) {
			t.Fatalf("%.80q: Tokens %s; want %s", s, brief(l), brief(want))
		}
	}
}

// work tells how many of a text's lines are none that it and one ahead of it both begin, or end, with.
func work(was, now string) int {
	a, b := strings.Split(was, "\n"), strings.Split(now, "\n")
	for len(a) > 0 && len(b) > 0 && a[0] == b[0] {
		a, b = a[1:], b[1:]
	}
	for len(a) > 0 && len(b) > 0 && a[len(a)-1] == b[len(b)-1] {
		a, b = a[:len(a)-1], b[:len(b)-1]
	}
	return len(b)
}

// edits does an edit, and holds what comes of it.
func edits(t *testing.T, x *relex.Text, op []api.Run, s string, work int) {
	t.Helper()
	is(t, "Edit by "+brief(op), x.Edit(op), api.OK)
	holds(t, x, s, work)
}

// becomes holds how many lines are read where one text becomes another one, by the least edit, and by one that puts all anew.
func becomes(t *testing.T, was, now string, want int) {
	t.Helper()
	if n := work(was, now); n != want {
		t.Fatalf("%.80q to %.80q: %d lines to be read; want %d", was, now, n, want)
	}
	edits(t, made(t, was), run.Between(was, now), now, want)
	var all []api.Run
	if now != "" {
		all = append(all, add(now))
	}
	if was != "" {
		all = append(all, drop(len(was)))
	}
	edits(t, made(t, was), all, now, want)
}

// refuses holds that an edit is none, and changes nothing.
func refuses(t *testing.T, x *relex.Text, op []api.Run) {
	t.Helper()
	s, n, l, lines := x.Text(), x.Work(), x.Tokens(), x.Lines()
	is(t, "Edit by "+brief(op), x.Edit(op), api.ErrOp)
	if x.Text() != s || x.Work() != n || x.Lines() != lines || !slices.Equal(x.Tokens(), l) {
		t.Fatalf("%s changed %.80q", brief(op), s)
	}
	holds(t, x, s, n)
}

// P24.1

func TestExample(t *testing.T) {
	x := made(t, "a\nb\nc")
	holds(t, x, "a\nb\nc", 3)
	edits(t, x, runs(keep(2), add("bb"), drop(1), keep(2)), "a\nbb\nc", 1)
}

func TestNew(t *testing.T) {
	for s, want := range map[string]int{
		"": 1, "a": 1, "def a = \"x\" # y": 1, " ": 1, "\r": 1,
		"\n": 2, "a\n": 2, "\na": 2, "a\nb": 2, "\"a\nb\"": 2, "a\r\nb": 2,
		"\n\n": 3, "a\n\nb": 3, "a\nb\n": 3, "#\n#\n": 3, "a b\nc\nd": 3,
		strings.Repeat("a\n", 1000): 1001,
	} {
		holds(t, made(t, s), s, want)
	}
}

func TestNewOfLimits(t *testing.T) {
	line := strings.Repeat("a", 255) + "\n"
	for s, want := range map[string]int{
		strings.Repeat("a", api.MaxText):                1,
		strings.Repeat("#", api.MaxText):                1,
		strings.Repeat(line, api.MaxText/256):           api.MaxText/256 + 1,
		strings.Repeat(" ", api.MaxText-1) + "\n":       2,
		"\n\"" + strings.Repeat("a", api.MaxText-2):     2,
		strings.Repeat(line, api.MaxText/256)[:1<<24-1]: api.MaxText / 256,
	} {
		holds(t, made(t, s), s, want)
	}
	for _, s := range []string{strings.Repeat("a", api.MaxText+1), strings.Repeat("\n", api.MaxText+1), strings.Repeat(line, api.MaxText/256) + "a", strings.Repeat(" ", 2*api.MaxText)} {
		if x := relex.New(s); x != nil {
			t.Errorf("New of %d bytes: not nil", len(s))
		}
	}
}

// TestEditAtLimit: the longest text goes on, but not beyond the limit.
func TestEditAtLimit(t *testing.T) {
	s := strings.Repeat(strings.Repeat("a", 255)+"\n", api.MaxText/256)
	x := made(t, s)
	refuses(t, x, runs(keep(api.MaxText), add("b")))
	refuses(t, x, runs(add("\n"), keep(api.MaxText)))
	now := s[:256*7+3] + "b" + s[256*7+4:]
	edits(t, x, runs(keep(256*7+3), add("b"), drop(1), keep(api.MaxText-256*7-4)), now, 1)
	edits(t, x, runs(keep(api.MaxText-1), drop(1)), now[:api.MaxText-1], 0)
	edits(t, x, runs(keep(api.MaxText-1), add("\n")), now, 1)
	edits(t, x, runs(drop(api.MaxText)), "", 0)
	edits(t, x, runs(add(s)), s, api.MaxText/256)
}

// TestNoEdit: what is no edit of the text is refused, behind whatever was read at last.
func TestNoEdit(t *testing.T) {
	wrong := [][]api.Run{
		nil, {}, {keep(3)}, {keep(5)}, {drop(3)}, {drop(5)}, {add("a")}, {keep(4), drop(1)}, {keep(-4)}, {drop(-4)},
		{keep(1 << 62), keep(1 << 62)}, {keep(2), keep(2)}, {drop(2), drop(2)}, {keep(4), add("")}, {keep(4), {}}, {{Keep: 2, Drop: 2}}, {{Keep: 4, Add: "a"}},
		{drop(4), add("a")}, {add("a"), add("b"), keep(4)}, {add(strings.Repeat("a", api.MaxText)), keep(4)}, {keep(api.MaxText)}, {keep(api.MaxText + 1)},
		{keep(0), drop(4)}, {keep(5), drop(-1)}, slices.Repeat(runs(keep(1), add("a")), api.MaxRuns), {keep(4), keep(-1), drop(1)},
	}
	x := made(t, "a\nb\n")
	for _, op := range wrong {
		refuses(t, x, op)
	}
	edits(t, x, runs(keep(3), add("c"), drop(1)), "a\nbc", 1)
	for _, op := range wrong {
		refuses(t, x, op)
	}
	edits(t, x, runs(keep(4)), "a\nbc", 0)
	for _, op := range wrong {
		refuses(t, x, op)
	}
	edits(t, x, runs(keep(1), add("\nx\n"), keep(3)), "a\nx\n\nbc", 2)
	refuses(t, x, runs(keep(4)))
	none := made(t, "")
	for _, op := range wrong[2:] {
		if !slices.Equal(op, runs(add("a"))) {
			refuses(t, none, op)
		}
	}
	edits(t, none, runs(add("a")), "a", 1)
}

// TestIdle: an edit that changes nothing has nothing read, however it says so.
func TestIdle(t *testing.T) {
	for _, s := range []string{"", "a", "\n", "a\n", "a\nb", "a\nb\nc\n", "\"a\n\n#"} {
		x := made(t, s)
		edits(t, x, run.Between(s, s), s, 0)
		edits(t, x, run.Between(s, s), s, 0)
		becomes(t, s, s, 0)
	}
	x := made(t, "a\nb\nc")
	edits(t, x, runs(keep(1), add("\n"), drop(1), keep(3)), "a\nb\nc", 0)
	edits(t, x, runs(keep(2), add("b"), drop(1), keep(2)), "a\nb\nc", 0)
	edits(t, x, runs(keep(2), add("x"), drop(1), keep(2)), "a\nx\nc", 1)
	edits(t, x, runs(keep(5)), "a\nx\nc", 0)
	// Nothing at all is an edit of the empty text.
	y := made(t, "")
	edits(t, y, nil, "", 0)
	edits(t, y, runs(), "", 0)
}

func TestLineFeedsThatCome(t *testing.T) {
	becomes(t, "", "\n", 1)
	becomes(t, "a", "\na", 1)
	becomes(t, "a", "a\n", 1)
	becomes(t, "ab", "a\nb", 2)
	becomes(t, "a\nb", "\na\nb", 1)
	becomes(t, "a\nb", "a\nb\n", 1)
	becomes(t, "a\nb", "a\n\nb", 1)
	becomes(t, "a\nbc\nd", "a\nb\nc\nd", 2)
	becomes(t, "a\nbc\nd", "a\n\nbc\nd", 1)
	becomes(t, "a\nbc\nd", "a\nbc\n\nd", 1)
	becomes(t, "", "\n\n\n", 3)
	becomes(t, "a\nb", "a\nx\ny\nz\nb", 3)
}

func TestLineFeedsThatGo(t *testing.T) {
	becomes(t, "\n", "", 0)
	becomes(t, "\na", "a", 0)
	becomes(t, "a\n", "a", 0)
	becomes(t, "a\nb", "ab", 1)
	becomes(t, "\na\nb", "a\nb", 0)
	becomes(t, "a\nb\n", "a\nb", 0)
	becomes(t, "a\n\nb", "a\nb", 0)
	becomes(t, "a\nb\nc\nd", "a\nbc\nd", 1)
	becomes(t, "a\nb\nc\nd", "abcd", 1)
	becomes(t, "a\nb\nc\nd", "a\nd", 0)
	becomes(t, "\n\n\n", "\n", 0)
}

func TestLineFeedsThatChange(t *testing.T) {
	becomes(t, "\na", " a", 1)
	becomes(t, " a", "\na", 2)
	becomes(t, "a\n", "a ", 1)
	becomes(t, "a\nb", "a b", 1)
	becomes(t, "a\nb\nc", "a\nb\rc", 1)
	becomes(t, "a\nb\nc", "a b\nc", 1)
	becomes(t, "a\r\nb", "a\nb", 1)
	x := made(t, "a\nbc\nd")
	edits(t, x, runs(keep(1), drop(1), keep(1), add("\n"), keep(3)), "ab\nc\nd", 2)
}

// TestLikeNeighbours: lines that are like those beside them are kept from the beginning on, then from the end, and none twice.
func TestLikeNeighbours(t *testing.T) {
	becomes(t, "a\na\na", "a\na\na\na", 1)
	becomes(t, "a\na\na", "a\na", 0)
	becomes(t, "a", "a\na", 1)
	becomes(t, "a", "a\nb\na", 2)
	becomes(t, "a\nb\na", "a", 0)
	becomes(t, "a\nb\na", "a\na", 0)
	becomes(t, "a\na", "a\nb\na", 1)
	becomes(t, "a\nb", "a\nb\na\nb", 2)
	becomes(t, "a\nb\na\nb", "a\nb\na\nb\na\nb", 2)
	becomes(t, "a\nb\na\nb", "a\nb", 0)
	becomes(t, "a\nb", "b\na", 2)
	becomes(t, "a\nb", "b\nb", 1)
	becomes(t, "a\nb\nc", "a\nc\nb", 2)
	becomes(t, "a\nb\nc", "c\nb\na", 3)
	becomes(t, "a\nb\nc", "c\na\nb\nc", 1)
	becomes(t, "a\nb\nc\nd", "a\nc\nb\nd", 2)
	becomes(t, "a\nb\nc\nb\nd", "a\nb\nd", 0)
	becomes(t, "a\nx\nb\ny\nc", "a\nz\nb\nz\nc", 3)
	becomes(t, "\n\n", "\n\n\n", 1)
	becomes(t, "\n\na\n\n", "\n\n\na\n\n", 1)
	becomes(t, "a\n\n\na", "a\n\na", 0)
}

// TestEmptied: the empty text has one line, which is kept if the text began, or ended, with an empty one.
func TestEmptied(t *testing.T) {
	becomes(t, "a", "", 1)
	becomes(t, "a\nb", "", 1)
	becomes(t, "a\n", "", 0)
	becomes(t, "\na", "", 0)
	becomes(t, "a\n\nb", "", 1)
	x := made(t, "a\nb")
	edits(t, x, runs(drop(3)), "", 1)
	edits(t, x, nil, "", 0)
	edits(t, x, runs(add("c\nd\ne")), "c\nd\ne", 3)
	edits(t, x, runs(drop(5)), "", 1)
	edits(t, x, runs(add("\n")), "\n", 1)
}

// TestTokensOfOneLine: what is a token hangs on no other line, and does on its own one.
func TestTokensOfOneLine(t *testing.T) {
	becomes(t, "\"a\nb\"", "\"ab\"", 1)
	becomes(t, "\"ab\"", "\"a\nb\"", 2)
	becomes(t, "a\nb\nc", "a\n#b\nc", 1)
	becomes(t, "#a\nb", "#ab", 1)
	becomes(t, "#ab", "#a\nb", 2)
	becomes(t, "\"\\\nb\"\nc", "\"\\b\"\nc", 1)
	becomes(t, "de\nf", "def", 1)
	becomes(t, "=\n=\n>", "==\n>", 1)
	becomes(t, "a\nb", "\"a\nb", 1)
	becomes(t, "1\na", "1a", 1)
}

// TestManyEdits: a text goes on, each edit from where the one ahead left it.
func TestManyEdits(t *testing.T) {
	x := made(t, "def a = 1\ndef b = a\n")
	edits(t, x, runs(keep(8), add("22"), drop(1), keep(11)), "def a = 22\ndef b = a\n", 1)
	edits(t, x, runs(keep(21), add("def c = \"x\n")), "def a = 22\ndef b = a\ndef c = \"x\n", 1)
	edits(t, x, runs(keep(31), add("\""), keep(1)), "def a = 22\ndef b = a\ndef c = \"x\"\n", 1)
	edits(t, x, runs(drop(11), keep(22)), "def b = a\ndef c = \"x\"\n", 0)
	edits(t, x, runs(add("#"), keep(22)), "#def b = a\ndef c = \"x\"\n", 1)
	edits(t, x, runs(keep(1), drop(3), keep(6), drop(1), keep(12)), "# b = adef c = \"x\"\n", 1)
	edits(t, x, runs(drop(1), keep(5), add("\n"), keep(13)), " b = \nadef c = \"x\"\n", 2)
}

// TestGreatEdit: of MaxRuns runs.
func TestGreatEdit(t *testing.T) {
	many := api.MaxRuns / 2
	s := strings.Repeat("a\n", many)
	var op []api.Run
	for range many {
		op = append(op, keep(1), drop(1))
	}
	edits(t, made(t, s), op, strings.Repeat("a", many), 1)
	s, op = strings.Repeat("a", many), nil
	for range many {
		op = append(op, keep(1), add("\n"))
	}
	edits(t, made(t, s), op, strings.Repeat("a\n", many), many+1)
}
