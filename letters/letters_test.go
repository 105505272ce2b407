package letters_test

import (
	"slices"
	"strings"
	"testing"

	"variorum/letters"
)

// What the chapter names, in its order.
var (
	starts = "abcdefghijklmnopqrstuvwxyzABCDEFGHIJKLMNOPQRSTUVWXYZ_"
	digits = "0123456789"
	blanks = " \t\r\n"
	words  = []string{"type", "def", "fn", "let", "in", "if", "then", "else", "true", "false", "none", "int", "bool", "text", "dyn"}
	signs  = []string{"=>", "->", "==", "(", ")", "{", "}", ",", ":", "=", ".", "+", "-", "*", "<", "|"}
)

// each is each byte, as a text of one.
var each = func() (l [256]string) {
	for c := range l {
		l[c] = string([]byte{byte(c)})
	}
	return l
}()

// has tells whether a text has a byte.
func has(s string, c int) bool { return strings.IndexByte(s, byte(c)) >= 0 }

// signOf tells the size of the longest sign with which a text begins.
func signOf(s string) int {
	size := 0
	for _, sign := range signs {
		if strings.HasPrefix(s, sign) {
			size = max(size, len(sign))
		}
	}
	return size
}

// isName tells whether a text is a name, by what the chapter names.
func isName(s string) bool {
	for i := range len(s) {
		if !has(starts+digits, int(s[i])) {
			return false
		}
	}
	return s != "" && has(starts, int(s[0])) && !slices.Contains(words, s)
}

// named holds whether a text is a name.
func named(t *testing.T, s string, want bool) {
	t.Helper()
	if letters.Name(s) != want {
		t.Errorf("Name(%.80q): %t", s, !want)
	}
}

// signed holds how many bytes a text's sign has.
func signed(t *testing.T, s string, want int) {
	t.Helper()
	if n := letters.Sign(s); n != want {
		t.Errorf("Sign(%.80q): %d; want %d", s, n, want)
	}
}

func TestExample(t *testing.T) {
	signed(t, "=>x", 2)
	signed(t, "=x", 1)
	signed(t, "xy", 0)
	named(t, "fn", false)
	named(t, "fn1", true)
}

// P22.1

func TestBytes(t *testing.T) {
	for c := range 256 {
		for _, x := range []struct {
			what string
			ask  func(c byte) bool
			want bool
		}{
			{"Start", letters.Start, has(starts, c)},
			{"Digit", letters.Digit, has(digits, c)},
			{"Part", letters.Part, has(starts+digits, c)},
			{"Blank", letters.Blank, has(blanks, c)},
		} {
			if x.ask(byte(c)) != x.want {
				t.Errorf("%s(%q): %t", x.what, each[c], !x.want)
			}
		}
	}
}

// TestBytesBeside: the bytes just beside those that a call tells of.
func TestBytesBeside(t *testing.T) {
	for _, c := range []byte{'a' - 1, 'z' + 1, 'A' - 1, 'Z' + 1, '_' - 1, '_' + 1, '0' - 1, '9' + 1, 0, 127, 128, 255, 'a' + 128, '0' + 128} {
		if letters.Start(c) && c != '_' || letters.Digit(c) || letters.Part(c) && c != '_' {
			t.Errorf("%q", c)
		}
	}
	for _, c := range []byte{0, '\b', '\v', '\f', '\t' - 1, '\n' + 1, '\r' + 1, ' ' - 1, ' ' + 1, 0x85, 0xa0, ' ' + 128} {
		if letters.Blank(c) {
			t.Errorf("Blank(%q)", c)
		}
	}
}

// P22.2

func TestWords(t *testing.T) {
	if l := letters.Words(); !slices.Equal(l, words) {
		t.Errorf("%q", l)
	}
	for _, w := range words {
		if !letters.Word(w) {
			t.Errorf("Word(%q): false", w)
		}
	}
}

// TestNearWords: a byte more, one less, or another one, wherever it stands, makes a word none, unless it makes another one (in, int).
func TestNearWords(t *testing.T) {
	is := func(s string) {
		t.Helper()
		if want := slices.Contains(words, s); letters.Word(s) != want {
			t.Errorf("Word(%q): %t", s, !want)
		}
	}
	for _, w := range words {
		for at := range len(w) {
			is(w[:at] + w[at+1:])
			for _, c := range each {
				is(w[:at] + c + w[at+1:])
			}
		}
		for at := range len(w) + 1 {
			for _, c := range each {
				is(w[:at] + c + w[at:])
			}
		}
		is(w + w)
		is(strings.ToUpper(w))
	}
	for _, s := range append([]string{"", "fun", "null", "string", "a", strings.Join(words, " "), strings.Repeat("x", 1<<24)}, each[:]...) {
		is(s)
	}
}

// TestWordsAreOnesOwn: who changes what Words told changes no later answer.
func TestWordsAreOnesOwn(t *testing.T) {
	l, other := letters.Words(), letters.Words()
	for i := range l {
		l[i] = "x"
	}
	_ = append(l[:3], "y")
	if !slices.Equal(other, words) || !slices.Equal(letters.Words(), words) {
		t.Errorf("%q, %q", other, letters.Words())
	}
	if letters.Word("x") || letters.Word("y") || !letters.Word("type") || letters.Name("type") || !letters.Name("x") {
		t.Error("what Words told was changed, and Word with it")
	}
}

// P22.3

func TestSigns(t *testing.T) {
	for _, sign := range signs {
		signed(t, sign, len(sign))
		for _, behind := range []string{" ", "x", "0", "=>", "((", "\x00", "\xff", strings.Repeat("<", 100)} {
			if sign != "=" && sign != "-" {
				signed(t, sign+behind, len(sign))
			}
		}
		signed(t, " "+sign, 0)
		signed(t, "x"+sign, 0)
	}
	signed(t, "", 0)
}

// TestBeginsNone: each byte that begins no sign, alone, and ahead of one.
func TestBeginsNone(t *testing.T) {
	none := 0
	for c, s := range each {
		if has("(){},:=.+-*<|", c) {
			continue
		}
		none++
		signed(t, s, 0)
		for _, sign := range signs {
			signed(t, s+sign, 0)
		}
	}
	if none != 256-13 {
		t.Errorf("%d bytes begin no sign", none)
	}
}

// TestLongerSigns: where a sign goes on with another byte, the longer one counts.
func TestLongerSigns(t *testing.T) {
	for s, want := range map[string]int{
		"=": 1, "=>": 2, "==": 2, "=-": 1, "=<": 1, "= >": 1, "= =": 1, "===": 2, "==>": 2, "=>>": 2, "=>=": 2,
		"-": 1, "->": 2, "--": 1, "-=": 1, "-->": 1, "- >": 1, "->>": 2,
		">": 0, ">=": 0, ">-": 0, "<=": 1, "<-": 1, "<>": 1, "||": 1, "+=": 1, "!=": 0, "&&": 0, "/": 0, ";": 0, "[": 0, "]": 0, "%": 0, "#": 0, "\"": 0,
	} {
		signed(t, s, want)
	}
}

// TestSignOfTwoBytes: of each text of two bytes, and with a third one behind those that may be a sign.
func TestSignOfTwoBytes(t *testing.T) {
	for _, x := range each {
		for _, y := range each {
			signed(t, x+y, signOf(x+y))
			if signOf(x) == 1 && signOf(y) > 0 || y == ">" {
				for _, z := range each {
					signed(t, x+y+z, signOf(x+y+z))
				}
			}
		}
	}
}

// P22.4

func TestNames(t *testing.T) {
	for _, c := range starts {
		named(t, string(c), true)
		named(t, string(c)+"9", true)
		named(t, string(c)+starts+digits+"_", true)
	}
	for _, c := range digits {
		named(t, string(c), false)
		named(t, string(c)+"a", false)
		named(t, "a"+string(c), true)
	}
	named(t, "", false)
	named(t, strings.Repeat("a", 1<<24), true)
	named(t, strings.Repeat("a", 1<<24-1)+"-", false)
	named(t, strings.Repeat("9", 1<<20), false)
}

// TestNoPart: a byte that is no Part makes a text no name, in each place; each other one but the first goes.
func TestNoPart(t *testing.T) {
	for c, s := range each {
		for _, name := range []string{"a", "_Z9", "define", "x0123456789y"} {
			named(t, s+name, has(starts, c))
			for at := range len(name) {
				want := has(starts, c) || has(digits, c) && at > 0
				named(t, name[:at]+s+name[at+1:], want)
				named(t, name[:at+1]+s+name[at+1:], has(starts+digits, c))
			}
		}
	}
	for _, s := range []string{"é", "aé", "éa", "名", "a名b", "\xff", "a\x80", "\x80a", "ａ", "a\u00a0"} {
		named(t, s, false)
	}
}

// TestWordsAreNoNames: but what has a byte more, or one less, is one.
func TestWordsAreNoNames(t *testing.T) {
	for _, w := range words {
		named(t, w, false)
		for at := range len(w) {
			named(t, w[:at]+w[at+1:], !slices.Contains(words, w[:at]+w[at+1:]))
		}
		for _, c := range starts + digits {
			named(t, w+string(c), !slices.Contains(words, w+string(c)))
		}
		named(t, "_"+w, true)
		named(t, strings.ToUpper(w), true)
		named(t, " "+w, false)
		named(t, w+" ", false)
	}
}

// TestNameOfTwoBytes: of each text of one byte and of two.
func TestNameOfTwoBytes(t *testing.T) {
	for _, x := range each {
		named(t, x, isName(x))
		for _, y := range each {
			named(t, x+y, isName(x+y))
		}
	}
}

// P22.5

func TestApart(t *testing.T) {
	for c, s := range each {
		n := 0
		for _, is := range []bool{letters.Start(byte(c)), letters.Digit(byte(c)), letters.Blank(byte(c)), letters.Sign(s) > 0} {
			if is {
				n++
			}
		}
		if n > 1 {
			t.Errorf("%q is %d things", s, n)
		}
		if letters.Part(byte(c)) != (letters.Start(byte(c)) || letters.Digit(byte(c))) {
			t.Errorf("Part(%q)", s)
		}
	}
	// What begins a sign begins one whatever stands behind it.
	for c, x := range each {
		for _, y := range each {
			if (letters.Sign(x+y) > 0) != (letters.Sign(x) > 0) || letters.Sign(x+y) > 0 && (letters.Part(byte(c)) || letters.Blank(byte(c))) {
				t.Fatalf("Sign(%q): %d", x+y, letters.Sign(x+y))
			}
		}
	}
}
