package lexer_test

import (
	"fmt"
	"regexp"
	"slices"
	"strings"
	"testing"

	"variorum/api"
	"variorum/lexer"
)

// What the chapters name, in their order.
var (
	starts = "abcdefghijklmnopqrstuvwxyzABCDEFGHIJKLMNOPQRSTUVWXYZ_"
	digits = "0123456789"
	blanks = " \t\r\n"
	words  = []string{"type", "def", "fn", "let", "in", "if", "then", "else", "true", "false", "none", "int", "bool", "text", "dyn"}
	signs  = []string{"=>", "->", "==", "(", ")", "{", "}", ",", ":", "=", ".", "+", "-", "*", "<", "|"}
)

// each is each byte, as a text of one.
var each = func() (l [256]string) {
	for c := range l {
		l[c] = string([]byte{byte(c)})
	}
	return l
}()

func tok(kind, from, to int) api.Token {
	return api.Token{Kind: kind, Span: api.Span{From: from, To: to}}
}

func name(from, to int) api.Token { return tok(api.TokName, from, to) }
func word(from, to int) api.Token { return tok(api.TokWord, from, to) }
func num(from, to int) api.Token  { return tok(api.TokInt, from, to) }
func text(from, to int) api.Token { return tok(api.TokText, from, to) }
func sign(from, to int) api.Token { return tok(api.TokSign, from, to) }
func bad(from, to int) api.Token  { return tok(api.TokBad, from, to) }

// moved tells tokens, each from bytes further behind.
func moved(l []api.Token, by int) []api.Token {
	told := make([]api.Token, len(l))
	for i, t := range l {
		told[i] = tok(t.Kind, t.Span.From+by, t.Span.To+by)
	}
	return told
}

// brief tells anything in words, of great things the beginning.
func brief(l any) string {
	s := fmt.Sprint(l)
	return s[:min(len(s), 300)]
}

// lexes holds a text's tokens, also those that Line tells, if it is a line.
func lexes(t *testing.T, s string, want ...api.Token) {
	t.Helper()
	if l := lexer.Lex(s); !slices.Equal(l, want) {
		t.Errorf("Lex(%.80q): %s; want %s", s, brief(l), brief(want))
	}
	for _, from := range []int{0, 1, 7, api.MaxText - 1, api.MaxText} {
		was := moved(want, from)
		if strings.Contains(s, "\n") {
			was = nil
		}
		if l := lexer.Line(s, from); !slices.Equal(l, was) {
			t.Errorf("Line(%.80q, %d): %s; want %s", s, from, brief(l), brief(was))
		}
	}
}

// kinds are what a part of a text may be, the first one that fits.
var kinds = []struct {
	kind int
	what *regexp.Regexp
}{
	{0, regexp.MustCompile(`^(?:[ \t\r\n]+|#[^\n]*)`)},
	{api.TokWord, regexp.MustCompile(`^(?:` + strings.Join(words, "|") + `)\b`)},
	{api.TokName, regexp.MustCompile(`^[A-Za-z_][A-Za-z_0-9]*`)},
	{api.TokInt, regexp.MustCompile(`^[0-9]+`)},
	{api.TokText, regexp.MustCompile(`^"(?:[^"\\\n]|\\[^\n])*"`)},
	{api.TokBad, regexp.MustCompile(`^"[^\n]*`)},
	{api.TokSign, regexp.MustCompile(`^(?:=>|->|==|[(){},:=.+*<|-])`)},
	{api.TokBad, regexp.MustCompile(`^(?s:.)`)},
}

// model tells a text's tokens another way.
func model(s string) (l []api.Token) {
	// Whatever byte above 127 stands somewhere, the spans are the same; and so each byte is a letter to a pattern.
	s = strings.Map(func(r rune) rune { return min(r, 0x7f) }, latin(s))
	for at := 0; at < len(s); {
		for _, k := range kinds {
			if n := len(k.what.FindString(s[at:])); n > 0 {
				if k.kind != 0 {
					l = append(l, tok(k.kind, at, at+n))
				}
				at += n
				break
			}
		}
	}
	return l
}

// latin tells a text with each byte as the letter of its number.
func latin(s string) string {
	l := make([]rune, len(s))
	for i := range len(s) {
		l[i] = rune(s[i])
	}
	return string(l)
}

// like holds a text's tokens against the model's.
func like(t *testing.T, s string) {
	t.Helper()
	lexes(t, s, model(s)...)
}

// P23.1

func TestExample(t *testing.T) {
	lexes(t, `def a = "x" # y`, word(0, 3), name(4, 5), sign(6, 7), text(8, 11))
}

func TestKinds(t *testing.T) {
	lexes(t, "type t={a:int,b:text|none}", word(0, 4), name(5, 6), sign(6, 7), sign(7, 8), name(8, 9), sign(9, 10), word(10, 13), sign(13, 14), name(14, 15), sign(15, 16), word(16, 20), sign(20, 21), word(21, 25), sign(25, 26))
	lexes(t, "def f:(int)->dyn=fn(x)=>x.y==12", word(0, 3), name(4, 5), sign(5, 6), sign(6, 7), word(7, 10), sign(10, 11), sign(11, 13), word(13, 16), sign(16, 17), word(17, 19), sign(19, 20), name(20, 21), sign(21, 22), sign(22, 24), name(24, 25), sign(25, 26), name(26, 27), sign(27, 29), num(29, 31))
	lexes(t, "a\nb\r\n\tc", name(0, 1), name(2, 3), name(6, 7))
	lexes(t, "_ _9 A0z Z", name(0, 1), name(2, 4), name(5, 8), name(9, 10))
	lexes(t, "007 1", num(0, 3), num(4, 5))
}

func TestNothing(t *testing.T) {
	for _, s := range []string{"", " ", "\n", "\t", "\r", " \t\r\n", "\r\n\r\n", strings.Repeat(" ", 1000), strings.Repeat("\n", 1000)} {
		lexes(t, s)
	}
}

// TestByteAlone: each byte has the kind that the words say.
func TestByteAlone(t *testing.T) {
	for c, s := range each {
		switch {
		case strings.IndexByte(blanks, byte(c)) >= 0, c == '#':
			lexes(t, s)
		case strings.IndexByte(starts, byte(c)) >= 0:
			lexes(t, s, name(0, 1))
		case strings.IndexByte(digits, byte(c)) >= 0:
			lexes(t, s, num(0, 1))
		case slices.Contains(signs, s):
			lexes(t, s, sign(0, 1))
		default:
			lexes(t, s, bad(0, 1))
		}
	}
}

// TestByteBeside: each byte, behind and ahead of each kind of token, and between two.
func TestByteBeside(t *testing.T) {
	tokens := append([]string{"ab", "_", "Z9", "def", "in", "0", "12", `"x"`, `""`, `"\""`, "@", "\\", ">", "\x00", "\x80", `"`, `"x`, `"x\`, "#", " "}, signs...)
	for _, c := range each {
		for _, x := range tokens {
			like(t, c+x)
			like(t, x+c)
			like(t, x+c+x)
			like(t, c+x+"\n"+x+c)
		}
		like(t, c+c)
		like(t, c+c+c)
	}
}

// TestByteKinds: what some bytes are beside a name, told by hand.
func TestByteKinds(t *testing.T) {
	for c, s := range each {
		switch {
		case strings.IndexByte(starts+digits, byte(c)) >= 0:
			lexes(t, "ab"+s, name(0, 3))
		case strings.IndexByte(blanks, byte(c)) >= 0:
			lexes(t, "ab"+s+"c", name(0, 2), name(3, 4))
		case c == '#':
			lexes(t, "ab"+s+"c", name(0, 2))
		case c == '"':
			lexes(t, "ab"+s+"c", name(0, 2), bad(2, 4))
		case slices.Contains(signs, s):
			lexes(t, "ab"+s+"c", name(0, 2), sign(2, 3), name(3, 4))
		default:
			lexes(t, "ab"+s+"c", name(0, 2), bad(2, 3), name(3, 4))
		}
	}
}

// TestHash: all from a # on, ahead of the next line feed, is none.
func TestHash(t *testing.T) {
	lexes(t, "#")
	lexes(t, "##")
	lexes(t, "# def a = \"")
	lexes(t, "#\x00\xff@ \"x")
	lexes(t, "a #", name(0, 1))
	lexes(t, "a#b", name(0, 1))
	lexes(t, "def#b", word(0, 3))
	lexes(t, "12#b", num(0, 2))
	lexes(t, `"x"#b`, text(0, 3))
	lexes(t, "->#b", sign(0, 2))
	lexes(t, "=#>", sign(0, 1))
	lexes(t, "@#b", bad(0, 1))
	lexes(t, `"#b"`, text(0, 4))
	lexes(t, `"#b`, bad(0, 3))
	lexes(t, `"a"#"b"`, text(0, 3))
	lexes(t, "#\na", name(2, 3))
	lexes(t, "a#b\n#c\nd", name(0, 1), name(7, 8))
	lexes(t, "#\r\na", name(3, 4))
	lexes(t, "#a\rb\nc", name(5, 6))
	lexes(t, "#\\\na", name(3, 4))
	lexes(t, "#\"\na\"", name(3, 4), bad(4, 5))
	lexes(t, "#\n", nil...)
	lexes(t, "\n#", nil...)
}

func TestWords(t *testing.T) {
	for _, w := range words {
		n := len(w)
		lexes(t, w, word(0, n))
		lexes(t, w+" "+w, word(0, n), word(n+1, 2*n+1))
		lexes(t, w+w, name(0, 2*n))
		lexes(t, w+"("+w, word(0, n), sign(n, n+1), word(n+1, 2*n+1))
		lexes(t, "1"+w, num(0, 1), word(1, n+1))
		lexes(t, `"`+w+`"`, text(0, n+2))
		lexes(t, `"`+w, bad(0, n+1))
		lexes(t, "#"+w)
		lexes(t, strings.ToUpper(w), name(0, n))
	}
}

// TestNearWords: with a byte more or less, wherever it stands, a word is a name, unless it is another word.
func TestNearWords(t *testing.T) {
	is := func(s string) {
		t.Helper()
		kind := api.TokName
		if slices.Contains(words, s) {
			kind = api.TokWord
		}
		if s != "" {
			lexes(t, s, tok(kind, 0, len(s)))
		}
	}
	for _, w := range words {
		for at := range len(w) {
			is(w[:at] + w[at+1:])
		}
		for _, c := range starts {
			for at := range len(w) + 1 {
				is(w[:at] + string(c) + w[at:])
			}
		}
		for _, c := range digits {
			for at := range len(w) {
				is(w[:at+1] + string(c) + w[at+1:])
			}
		}
	}
}

// TestInts: Digits alone; what stands behind them is another token.
func TestInts(t *testing.T) {
	lexes(t, "0", num(0, 1))
	lexes(t, digits, num(0, 10))
	for _, c := range starts {
		lexes(t, "12"+string(c), num(0, 2), name(2, 3))
		lexes(t, string(c)+"12", name(0, 3))
		lexes(t, "1"+string(c)+"2", num(0, 1), name(1, 3))
	}
	lexes(t, "1e5", num(0, 1), name(1, 3))
	lexes(t, "0x1F", num(0, 1), name(1, 4))
	lexes(t, "1def", num(0, 1), word(1, 4))
	lexes(t, "1.5", num(0, 1), sign(1, 2), num(2, 3))
	lexes(t, "-1", sign(0, 1), num(1, 2))
	lexes(t, "1_000", num(0, 1), name(1, 5))
	lexes(t, "1\"\"", num(0, 1), text(1, 3))
	lexes(t, strings.Repeat("9", 10000), num(0, 10000))
}

func TestQuotes(t *testing.T) {
	lexes(t, `""`, text(0, 2))
	lexes(t, `"x"`, text(0, 3))
	lexes(t, `"a b	c"`, text(0, 7))
	lexes(t, "\"a\rb\"", text(0, 5))
	lexes(t, "\"\x00\x80\xff\"", text(0, 5))
	lexes(t, `""""`, text(0, 2), text(2, 4))
	lexes(t, `"a""b"`, text(0, 3), text(3, 6))
	lexes(t, `"a" "b"`, text(0, 3), text(4, 7))
	lexes(t, `"a"b"c"`, text(0, 3), name(3, 4), text(4, 7))
	lexes(t, `"a"1`, text(0, 3), num(3, 4))
	lexes(t, `x"a"`, name(0, 1), text(1, 4))
	lexes(t, `"""`, text(0, 2), bad(2, 3))
	lexes(t, "\"a\"\n\"b\"", text(0, 3), text(4, 7))
}

// TestBackslashes: it, and the byte behind it, are passed over together, unless that is a line feed.
func TestBackslashes(t *testing.T) {
	lexes(t, `"\""`, text(0, 4))
	lexes(t, `"\\"`, text(0, 4))
	lexes(t, `"\\\""`, text(0, 6))
	lexes(t, `"\\\\"`, text(0, 6))
	lexes(t, `"a\"b"`, text(0, 6))
	lexes(t, `"\\"b"`, text(0, 4), name(4, 5), bad(5, 6))
	lexes(t, `"\"\""`, text(0, 6))
	lexes(t, `"\"`, bad(0, 3))
	lexes(t, `"\\\"`, bad(0, 5))
	lexes(t, `"\`, bad(0, 2))
	lexes(t, `"\\`, bad(0, 3))
	lexes(t, "\"\\\n\"", bad(0, 2), bad(3, 4))
	lexes(t, "\"a\\\nb\"", bad(0, 3), name(4, 5), bad(5, 6))
	lexes(t, "\"\\\\\n\"\"", bad(0, 3), text(4, 6))
	lexes(t, "\"\\\r\"", text(0, 4))
	lexes(t, "\"\\\r\n", bad(0, 3))
	// Outside of a quote it is a byte like others.
	lexes(t, `\"a"`, bad(0, 1), text(1, 4))
	lexes(t, `\\"`, bad(0, 1), bad(1, 2), bad(2, 3))
	lexes(t, `\`, bad(0, 1))
	for c, s := range each {
		if c == '\n' {
			continue
		}
		lexes(t, `"\`+s+`"`, text(0, 4))
		lexes(t, `"a\`+s, bad(0, 4))
		lexes(t, `"\`+s+`\`+s+`"#`, text(0, 6))
	}
}

// TestOpenQuotes: a quote without an end is one token, up to the line's end.
func TestOpenQuotes(t *testing.T) {
	lexes(t, `"`, bad(0, 1))
	lexes(t, `a "`, name(0, 1), bad(2, 3))
	lexes(t, `"a b = # 1 `, bad(0, 11))
	lexes(t, "\"\n", bad(0, 1))
	lexes(t, "\"a\nb", bad(0, 2), name(3, 4))
	lexes(t, "\"a\nb\"", bad(0, 2), name(3, 4), bad(4, 5))
	lexes(t, "\"a\n\"b\"", bad(0, 2), text(3, 6))
	lexes(t, "\"a \t\r\n1", bad(0, 5), num(6, 7))
	lexes(t, "\"\n\"", bad(0, 1), bad(2, 3))
	lexes(t, "\"a\n\n\"b\n", bad(0, 2), bad(4, 6))
}

func TestSigns(t *testing.T) {
	for _, s := range signs {
		n := len(s)
		lexes(t, s, sign(0, n))
		lexes(t, " "+s+" ", sign(1, n+1))
		lexes(t, "a"+s+"1", name(0, 1), sign(1, n+1), num(n+1, n+2))
		lexes(t, `"`+s+`"`, text(0, n+2))
	}
	for _, s := range "(){},:.+*<|" {
		lexes(t, strings.Repeat(string(s), 3), sign(0, 1), sign(1, 2), sign(2, 3))
	}
	lexes(t, "==", sign(0, 2))
	lexes(t, "===", sign(0, 2), sign(2, 3))
	lexes(t, "====", sign(0, 2), sign(2, 4))
	lexes(t, "= =", sign(0, 1), sign(2, 3))
	lexes(t, "=\n=", sign(0, 1), sign(2, 3))
	lexes(t, "=>", sign(0, 2))
	lexes(t, "=>>", sign(0, 2), bad(2, 3))
	lexes(t, "==>", sign(0, 2), bad(2, 3))
	lexes(t, "===>", sign(0, 2), sign(2, 4))
	lexes(t, "=->", sign(0, 1), sign(1, 3))
	lexes(t, "--", sign(0, 1), sign(1, 2))
	lexes(t, "---", sign(0, 1), sign(1, 2), sign(2, 3))
	lexes(t, "-->", sign(0, 1), sign(1, 3))
	lexes(t, "->>", sign(0, 2), bad(2, 3))
	lexes(t, "- >", sign(0, 1), bad(2, 3))
	lexes(t, ">>", bad(0, 1), bad(1, 2))
	lexes(t, ">>>", bad(0, 1), bad(1, 2), bad(2, 3))
	lexes(t, ">=", bad(0, 1), sign(1, 2))
	lexes(t, "<=", sign(0, 1), sign(1, 2))
	lexes(t, "<-", sign(0, 1), sign(1, 2))
	lexes(t, "!=", bad(0, 1), sign(1, 2))
	lexes(t, "a/b;", name(0, 1), bad(1, 2), name(2, 3), bad(3, 4))
	for _, x := range signs {
		for _, y := range signs {
			like(t, x+y)
			like(t, x+" "+y)
			for _, z := range signs {
				like(t, x+y+z)
			}
		}
	}
}

// TestHighBytes: a byte above 127 is a token of its own, whatever letter it is a part of.
func TestHighBytes(t *testing.T) {
	lexes(t, "é", bad(0, 1), bad(1, 2))
	lexes(t, "aé1", name(0, 1), bad(1, 2), bad(2, 3), num(3, 4))
	lexes(t, "名", bad(0, 1), bad(1, 2), bad(2, 3))
	lexes(t, "\u00a0", bad(0, 1), bad(1, 2))
	lexes(t, "\xff\xfe", bad(0, 1), bad(1, 2))
	lexes(t, "\x80", bad(0, 1))
	lexes(t, "\"é名\"", text(0, 7))
	lexes(t, "\"é", bad(0, 3))
	lexes(t, "#é\na", name(4, 5))
	for c := 128; c < 256; c++ {
		lexes(t, each[c]+each[c], bad(0, 1), bad(1, 2))
	}
}

func TestLine(t *testing.T) {
	for _, s := range []string{"", "a b", `def a = "x" # y`, `"a`, "@ =>"} {
		for _, from := range []int{-1 << 63, -api.MaxText, -1, api.MaxText + 1, api.MaxNum, 1<<63 - 1} {
			if l := lexer.Line(s, from); len(l) != 0 {
				t.Errorf("Line(%q, %d): %v", s, from, l)
			}
		}
		for _, from := range []int{0, 1, 100, api.MaxText - len(s), api.MaxText - 1, api.MaxText} {
			if l := lexer.Line(s, from); !slices.Equal(l, moved(lexer.Lex(s), from)) {
				t.Errorf("Line(%q, %d): %v", s, from, l)
			}
		}
	}
	for _, s := range []string{"\n", "a\n", "\na", "a\nb", "#\n", "\"\n", "\"\\\n\"", "a\r\n"} {
		for _, from := range []int{-1, 0, 5} {
			if l := lexer.Line(s, from); len(l) != 0 {
				t.Errorf("Line(%q, %d): %v", s, from, l)
			}
		}
	}
	if l := lexer.Line("a\rb", 3); !slices.Equal(l, []api.Token{name(3, 4), name(5, 6)}) {
		t.Error(l)
	}
}

// TestGreat: texts of MaxText bytes.
func TestGreat(t *testing.T) {
	all := api.MaxText
	lexes(t, strings.Repeat("a", all), name(0, all))
	lexes(t, strings.Repeat("1", all), num(0, all))
	lexes(t, strings.Repeat(" ", all))
	lexes(t, strings.Repeat("\n", all))
	lexes(t, strings.Repeat("#", all))
	lexes(t, strings.Repeat("#", all-1)+"\n")
	lexes(t, "\""+strings.Repeat("a", all-2)+"\"", text(0, all))
	lexes(t, "\""+strings.Repeat("\\\"", all/2-1)+"\"", text(0, all))
	lexes(t, "\""+strings.Repeat("\\\"", all/2-1), bad(0, all-1))
	lexes(t, strings.Repeat(" ", all-1)+"\"", bad(all-1, all))
	l := lexer.Lex(strings.Repeat("-> ", all/3))
	for i, x := range l {
		if x != sign(3*i, 3*i+2) {
			t.Fatal(i, x)
		}
	}
	if len(l) != all/3 {
		t.Error(len(l))
	}
}

// TestAlike: what is told hangs on the text alone, and is one's own.
func TestAlike(t *testing.T) {
	s := "def a = \"x\" @ # y\n12"
	want := lexer.Lex(s)
	l, line := lexer.Lex(s), lexer.Line("a b", 1)
	for i := range l {
		l[i] = api.Token{}
	}
	_ = append(line[:1], api.Token{})
	if !slices.Equal(lexer.Lex(s), want) || !slices.Equal(lexer.Line("a b", 1), []api.Token{name(1, 2), name(3, 4)}) {
		t.Error("what was told changed")
	}
}
