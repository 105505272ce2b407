package lexer_test

import (
	"math"
	"math/rand"
	"slices"
	"strings"
	"testing"

	"variorum/api"
	"variorum/lexer"
)

// P23.2

// is holds whether a token is a word.
func is(t *testing.T, s string, x api.Token, w string, want bool) {
	t.Helper()
	if lexer.Is(s, x, w) != want {
		t.Errorf("Is(%.80q, %v, %.80q): %t", s, x, w, !want)
	}
}

// allKinds are kinds of tokens, and numbers that are none.
var allKinds = []int{math.MinInt, -1, 0, api.TokName, api.TokWord, api.TokInt, api.TokText, api.TokSign, api.TokBad, 7, math.MaxInt}

func TestIs(t *testing.T) {
	s := `def a1=>"def" def 12@`
	is(t, s, word(0, 3), "def", true)
	is(t, s, name(4, 6), "a1", true)
	is(t, s, sign(6, 8), "=>", true)
	is(t, s, num(18, 20), "12", true)
	is(t, s, bad(20, 21), "@", true)
	is(t, s, text(8, 13), `"def"`, false)
	is(t, s, text(9, 12), "def", false)
	is(t, s, word(14, 17), "def", true)
	is(t, s, word(0, 3), "fn", false)
	is(t, s, word(0, 3), "", false)
	is(t, s, word(0, 3), "de", false)
	is(t, s, word(0, 3), "deff", false)
	is(t, s, word(0, 3), "Def", false)
	is(t, s, word(0, 2), "def", false)
	is(t, s, word(1, 4), "def", false)
	is(t, s, sign(6, 7), "=>", false)
	is(t, s, sign(6, 8), "=", false)
	is(t, s, tok(api.TokSign, 0, len(s)), s, true)
}

// TestIsOfKinds: of all kinds but TokText the bytes alone count.
func TestIsOfKinds(t *testing.T) {
	for _, kind := range allKinds {
		other := kind != api.TokText
		is(t, "x def", tok(kind, 2, 5), "def", other)
		is(t, "x def", tok(kind, 2, 5), "x", false)
		is(t, `x "d"`, tok(kind, 2, 5), `"d"`, other)
		is(t, "x def", tok(kind, 2, 2), "", other)
		is(t, "x def", tok(kind, 2, 2), "d", false)
		is(t, "x def", tok(kind, -1, 2), "", false)
	}
}

func TestIsOfSpans(t *testing.T) {
	s := "abc"
	places := []int{math.MinInt, -api.MaxText, -2, -1, 0, 1, 2, 3, 4, 5, api.MaxText, math.MaxInt}
	for _, from := range places {
		for _, to := range places {
			right := 0 <= from && from <= to && to <= len(s)
			for _, w := range []string{"", "a", "b", "c", "ab", "bc", "abc", "abcd", " "} {
				is(t, s, name(from, to), w, right && s[max(from, 0):max(min(to, len(s)), from, 0)] == w)
			}
		}
	}
	is(t, "", name(0, 0), "", true)
	is(t, "", name(0, 1), "", false)
	is(t, "", name(1, 1), "", false)
	is(t, "", name(-1, 0), "", false)
	is(t, s, name(3, 3), "", true)
	is(t, s, name(4, 4), "", false)
}

// bytesOf holds what Texts tells.
func bytesOf(t *testing.T, s string, l []api.Token, want ...string) {
	t.Helper()
	was := slices.Clone(l)
	if got := lexer.Texts(s, l); !slices.Equal(got, want) {
		t.Errorf("Texts(%.80q, %v): %.200q; want %.200q", s, l, got, want)
	}
	if !slices.Equal(l, was) {
		t.Errorf("Texts changed %v to %v", was, l)
	}
}

func TestTexts(t *testing.T) {
	s := `def a = "x\"" -> 12 @ # y`
	bytesOf(t, s, lexer.Lex(s), "def", "a", "=", `"x\""`, "->", "12", "@")
	bytesOf(t, s, nil)
	bytesOf(t, s, []api.Token{})
	bytesOf(t, "", nil)
	bytesOf(t, "a", []api.Token{name(0, 1), name(0, 1)}, "a", "a")
	// The kind counts for nothing, nor whether there is such a token.
	for _, kind := range allKinds {
		bytesOf(t, "abc", []api.Token{tok(kind, 1, 3)}, "bc")
	}
	bytesOf(t, "a b\n", []api.Token{name(2, 4), name(0, 3), name(0, 4)}, "b\n", "a b", "a b\n")
	if l := lexer.Texts("a", nil); len(l) != 0 {
		t.Errorf("%q", l)
	}
}

// TestTextsOfNoSpans: each has a place in what is told.
func TestTextsOfNoSpans(t *testing.T) {
	bytesOf(t, "abc", []api.Token{name(-1, 2), name(0, 1), name(2, 1), name(1, 4), name(1, 2), name(1, 1), name(3, 3), name(4, 4), name(-2, -1), name(2, 3)},
		"", "a", "", "", "b", "", "", "", "", "c")
	bytesOf(t, "abc", []api.Token{name(math.MinInt, math.MaxInt), name(math.MaxInt, math.MinInt), name(0, math.MaxInt), name(math.MinInt, 1), name(math.MaxInt, math.MaxInt), name(math.MinInt, math.MinInt)},
		"", "", "", "", "", "")
	bytesOf(t, "", []api.Token{name(0, 0), name(0, 1)}, "", "")
}

// TestTextsAreOnesOwn: who changes what Texts told changes neither the text nor a later answer.
func TestTextsAreOnesOwn(t *testing.T) {
	s := "ab cd"
	l := append(make([]api.Token, 0, 8), lexer.Lex(s)...)
	l[:3][2] = name(4, 5)
	got := lexer.Texts(s, l)
	got[0] = "x"
	_ = append(got[:1], "y")
	bytesOf(t, s, l, "ab", "cd")
	if l[:3][2] != name(4, 5) {
		t.Error("the spare room was written into")
	}
}

// notes holds what Bad tells.
func notes(t *testing.T, l []api.Token, want ...api.Span) {
	t.Helper()
	was := slices.Clone(l)
	got := lexer.Bad(l)
	if len(got) != len(want) {
		t.Fatalf("Bad(%v): %v; want %v", l, got, want)
	}
	for i, n := range got {
		if n != (api.Note{Span: want[i], Code: api.CodeByte}) {
			t.Errorf("Bad(%v): %v; want %v", l, got, want)
		}
	}
	if !slices.Equal(l, was) {
		t.Errorf("Bad changed %v to %v", was, l)
	}
}

func span(from, to int) api.Span { return api.Span{From: from, To: to} }

func TestBad(t *testing.T) {
	notes(t, nil)
	notes(t, []api.Token{})
	notes(t, lexer.Lex(`def a = "x" -> 12 # @`))
	notes(t, lexer.Lex("@"), span(0, 1))
	notes(t, lexer.Lex(`a @ "`), span(2, 3), span(4, 5))
	notes(t, lexer.Lex("def a = \x80 \"b\" > \"c\n;d"), span(8, 9), span(14, 15), span(16, 18), span(19, 20))
	notes(t, lexer.Lex("é"), span(0, 1), span(1, 2))
	notes(t, lexer.Line("a ;", 10), span(12, 13))
}

// TestBadOfAny: the kind alone counts, also of what is no span, in whatever order.
func TestBadOfAny(t *testing.T) {
	for _, kind := range allKinds {
		if kind == api.TokBad {
			notes(t, []api.Token{tok(kind, 1, 2)}, span(1, 2))
			continue
		}
		notes(t, []api.Token{tok(kind, 1, 2)})
	}
	notes(t, []api.Token{bad(5, 6), name(1, 2), bad(-1, 3), bad(4, 2), bad(0, 0), bad(math.MinInt, math.MaxInt), bad(5, 6)},
		span(5, 6), span(-1, 3), span(4, 2), span(0, 0), span(math.MinInt, math.MaxInt), span(5, 6))
	many := make([]api.Token, api.MaxNotes+1)
	for i := range many {
		many[i] = bad(i, i+1)
	}
	if l := lexer.Bad(many); len(l) != len(many) {
		t.Error(len(l))
	}
	l := append(make([]api.Token, 0, 4), bad(0, 1))
	l[:2][1] = bad(7, 8)
	notes(t, l, span(0, 1))
	if l[:2][1] != bad(7, 8) {
		t.Error("the spare room was written into")
	}
}

// P23.3

// blank tells whether what stands between two tokens, or at the text's end, is blank, or behind a #.
func blank(s string, last bool) bool {
	l := strings.Split(s, "\n")
	for i, x := range l {
		x = strings.TrimLeft(x, " \t\r")
		ends := last || i < len(l)-1 // with the line: behind a # no token comes
		if x != "" && (x[0] != '#' || !ends) {
			return false
		}
	}
	return true
}

// covers holds that a text's tokens stand in order, with nothing between them that is one.
func covers(t *testing.T, s string) {
	t.Helper()
	at := 0
	for _, x := range lexer.Lex(s) {
		if x.Span.From < at || x.Span.To <= x.Span.From || x.Span.To > len(s) {
			t.Fatalf("%q has a token %v behind %d", s, x, at)
		}
		if !blank(s[at:x.Span.From], false) {
			t.Fatalf("%q: %q is ahead of the token %v", s, s[at:x.Span.From], x)
		}
		if part := s[x.Span.From:x.Span.To]; strings.Contains(part, "\n") || !fits(x.Kind, part) {
			t.Fatalf("%q is told to be of kind %d", part, x.Kind)
		}
		at = x.Span.To
	}
	if !blank(s[at:], true) {
		t.Fatalf("%q: %q is behind all tokens", s, s[at:])
	}
}

// fits tells whether bytes may be a token of a kind.
func fits(kind int, s string) bool {
	isWord := slices.Contains(words, s)
	switch kind {
	case api.TokName, api.TokWord:
		return strings.Trim(s, starts+digits) == "" && strings.Contains(starts, s[:1]) && isWord == (kind == api.TokWord)
	case api.TokInt:
		return strings.Trim(s, digits) == ""
	case api.TokText:
		return len(s) >= 2 && s[0] == '"' && s[len(s)-1] == '"'
	case api.TokSign:
		return slices.Contains(signs, s)
	case api.TokBad:
		return s[0] == '"' || len(s) == 1 && !strings.Contains(starts+digits+blanks+"#", s) && !slices.Contains(signs, s)
	}
	return false
}

// P23.4

// parted holds that a text's tokens are those of its lines.
func parted(t *testing.T, s string) {
	t.Helper()
	var l []api.Token
	at := 0
	for _, line := range strings.Split(s, "\n") {
		alone := lexer.Lex(line)
		if x := lexer.Line(line, at); !slices.Equal(x, moved(alone, at)) {
			t.Fatalf("Line(%q, %d): %v; alone %v", line, at, x, alone)
		}
		l = append(l, moved(alone, at)...)
		at += len(line) + 1
	}
	if x := lexer.Lex(s); !slices.Equal(x, l) {
		t.Fatalf("Lex(%q): %v; of its lines %v", s, x, l)
	}
}

// holds holds all that follows, and the model's tokens.
func holds(t *testing.T, s string) {
	t.Helper()
	if l := lexer.Lex(s); !slices.Equal(l, model(s)) {
		t.Fatalf("Lex(%q): %v; want %v", s, l, model(s))
	}
	covers(t, s)
	parted(t, s)
}

// texts calls a function with all texts of so many of some parts.
func texts(parts []string, many int, do func(s string)) {
	if many == 0 {
		do("")
		return
	}
	texts(parts, many-1, func(s string) {
		for _, p := range parts {
			do(p + s)
		}
	})
}

// TestAllShortTexts: of up to five of the bytes that matter most.
func TestAllShortTexts(t *testing.T) {
	for many := range 6 {
		texts([]string{"a", "1", "\"", "\\", "#", "\n", " ", "=", ">"}, many, func(s string) { holds(t, s) })
	}
}

// TestAllQuotes: of up to eight of the bytes of which quotes are made.
func TestAllQuotes(t *testing.T) {
	for many := range 9 {
		texts([]string{"a", "\"", "\\", "\n"}, many, func(s string) { holds(t, s) })
	}
}

// TestAllPairs: of any two bytes.
func TestAllPairs(t *testing.T) {
	for many := range 3 {
		texts(each[:], many, func(s string) { holds(t, s) })
	}
}

// TestChance: texts of tokens, near-tokens and bytes in any order.
func TestChance(t *testing.T) {
	chance := rand.New(rand.NewSource(23))
	parts := slices.Concat(words, signs, each[:], []string{"\n", "\n", "\n", " ", " ", " ", "#", "\"", "\"", "\\", `"a\"b"`, `""`, "a1", "x_y", "typed", "12", "é"})
	for range 20000 {
		s := ""
		for range chance.Intn(30) {
			s += parts[chance.Intn(len(parts))]
		}
		holds(t, s)
	}
}
