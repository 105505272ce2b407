package relex_test

import (
	"math/rand"
	"slices"
	"strings"
	"testing"

	"variorum/api"
	"variorum/edit"
	"variorum/lexer"
	"variorum/relex"
	"variorum/run"
)

// P24.2

// TestTokensAreOnesOwn: what was told stays as it is while more comes, and who changes it changes nothing.
func TestTokensAreOnesOwn(t *testing.T) {
	x := made(t, "a b\n12 \"c\"\n@")
	first := x.Tokens()
	was := slices.Clone(first)
	second := x.Tokens()
	edits(t, x, runs(add("x y\n"), keep(12)), "x y\na b\n12 \"c\"\n@", 1)
	edits(t, x, runs(keep(4), add("zz"), drop(1), keep(11)), "x y\nzz b\n12 \"c\"\n@", 1)
	if !slices.Equal(first, was) || !slices.Equal(second, was) {
		t.Fatalf("%v, %v; told was %v", first, second, was)
	}
	for i := range first {
		first[i] = api.Token{}
	}
	_ = append(second[:1], api.Token{}, api.Token{})
	third := x.Tokens()
	for i := range third {
		third[i] = api.Token{Kind: -1}
	}
	_ = append(third, api.Token{Kind: -1})
	_ = append(third[:1], api.Token{Kind: -2})
	holds(t, x, "x y\nzz b\n12 \"c\"\n@", 1)
	edits(t, x, runs(keep(4), drop(5), keep(8)), "x y\n12 \"c\"\n@", 0)
	edits(t, x, runs(drop(4), keep(8)), "12 \"c\"\n@", 0)
}

// TestTokensOfTheTextAlone: those of a line that moved are as those of the text from scratch, each time.
func TestTokensOfTheTextAlone(t *testing.T) {
	x := made(t, "a\nb c")
	s := "a\nb c"
	for range 50 {
		edits(t, x, runs(add("x\n"), keep(len(s))), "x\n"+s, 1)
		s = "x\n" + s
	}
	if l := x.Tokens(); l[len(l)-1] != (api.Token{Kind: api.TokName, Span: api.Span{From: len(s) - 1, To: len(s)}}) {
		t.Error(l[len(l)-1])
	}
	for range 50 {
		edits(t, x, runs(drop(2), keep(len(s)-2)), s[2:], 0)
		s = s[2:]
	}
}

// TestApart: texts that are made of one text go each its own way.
func TestApart(t *testing.T) {
	x, y := made(t, "a\nb"), made(t, "a\nb")
	edits(t, x, runs(keep(3), add("c\nd")), "a\nbc\nd", 2)
	holds(t, y, "a\nb", 2)
	edits(t, y, runs(add("\"\n"), keep(3)), "\"\na\nb", 1)
	holds(t, x, "a\nbc\nd", 2)
}

// TestNotMade: of a text that no call made, and of nil, there is nothing, whatever comes.
func TestNotMade(t *testing.T) {
	var nobody *relex.Text
	for _, x := range []*relex.Text{nobody, {}, new(relex.Text)} {
		for _, op := range [][]api.Run{nil, {}, {add("a")}, {add("a\nb")}, {keep(1)}, {keep(-1)}, {drop(1)}, {{Keep: 1, Drop: 1}}} {
			is(t, "Edit by "+brief(op), x.Edit(op), api.ErrNil)
			if l := x.Tokens(); x.Text() != "" || len(l) != 0 || x.Lines() != 0 || x.Work() != 0 {
				t.Fatalf("%q, %v, %d, %d", x.Text(), l, x.Lines(), x.Work())
			}
		}
	}
}

// TestHandedIn: an edit is as it was afterwards, its spare room too, and whoever changes it then changes nothing.
func TestHandedIn(t *testing.T) {
	x := made(t, "a\nb")
	for _, op := range [][]api.Run{{keep(2), add("x\ny"), drop(1)}, {keep(5)}, {keep(1), add("\n"), drop(1)}, {keep(99)}, {keep(3), add("q"), keep(2)}} {
		room := append(slices.Clone(op), keep(7), add("z"), drop(9))
		was := slices.Clone(room)
		x.Edit(room[:len(op)])
		if !slices.Equal(room, was) {
			t.Fatalf("%v was changed to %v", was, room)
		}
		s, n := x.Text(), x.Work()
		for i := range room {
			room[i] = api.Run{}
		}
		holds(t, x, s, n)
	}
}

// P24.1 to P24.3, together

// places tells all ends of a text's lines: the bounds of what is within one.
func places(s string) (l []api.Span) {
	at := 0
	for _, line := range strings.Split(s, "\n") {
		l = append(l, api.Span{From: at, To: at + len(line)})
		at += len(line) + 1
	}
	return l
}

// put tells the edit that puts a text in the place of bytes.
func put(s string, from, to int, by string) []api.Run {
	return edit.Norm(runs(keep(from), add(by), drop(to-from), keep(len(s)-to)))
}

// TestWithinOneLine: each edit within one line, without a line feed, of some texts costs one line at most.
func TestWithinOneLine(t *testing.T) {
	for _, s := range []string{"", "a", "a\n", "ab\ncd\nef", "\n\n\n", "a\na\na", "\"a\nb\"\n#c", "def a = \"x\" # y\n\ndef b = a", "x\r\ny"} {
		for _, line := range places(s) {
			for from := line.From; from <= line.To; from++ {
				for to := from; to <= line.To; to++ {
					for _, by := range []string{"", "a", "\"", "#", " x", "b\r", s[line.From:line.To]} {
						now := s[:from] + by + s[to:]
						n := 1
						if now == s {
							n = 0
						}
						x := made(t, s)
						edits(t, x, put(s, from, to, by), now, work(s, now))
						if x.Work() > n {
							t.Fatalf("%q to %q: Work %d", s, now, x.Work())
						}
					}
				}
			}
		}
	}
}

// TestLinesLikeIt: such an edit that makes a line like one beside it reads it, and no other one.
func TestLinesLikeIt(t *testing.T) {
	becomes(t, "a\nb\na", "a\na\na", 1)
	becomes(t, "a\nb", "a\na", 1)
	becomes(t, "a\na\na", "a\nb\na", 1)
	becomes(t, "a\n\nb", "a\nb\nb", 1)
	becomes(t, "a\nx\nb", "a\n\nb", 1)
}

// texts tells all texts of so many of some bytes.
func texts(bytes string, many int) []string {
	if many == 0 {
		return []string{""}
	}
	var l []string
	for _, s := range texts(bytes, many-1) {
		for _, c := range bytes {
			l = append(l, s+string(c))
		}
	}
	return l
}

// TestAllShortTexts: each short text becomes each other one, as the words say.
func TestAllShortTexts(t *testing.T) {
	var l []string
	for many := range 5 {
		l = append(l, texts("a\"#\n", many)...)
	}
	for _, a := range l {
		for _, b := range l {
			x := made(t, a)
			is(t, "Edit", x.Edit(run.Between(a, b)), api.OK)
			if x.Text() != b || x.Work() != work(a, b) || x.Lines() != strings.Count(b, "\n")+1 || !slices.Equal(x.Tokens(), lexer.Lex(b)) {
				t.Fatalf("%q to %q: %q, Work %d, Lines %d, %v", a, b, x.Text(), x.Work(), x.Lines(), x.Tokens())
			}
		}
	}
}

// chanceText tells a text of tokens and line feeds.
func chanceText(chance *rand.Rand, most int) string {
	parts := []string{"\n", "\n", "\n", " ", "a", "b", "def", "=", ">", "\"", "\\", "#", "12", "@", "é", "\r\n"}
	s := ""
	for range chance.Intn(most + 1) {
		s += parts[chance.Intn(len(parts))]
	}
	return s
}

// chanceEdit tells an edit of n bytes, of one change or of some.
func chanceEdit(chance *rand.Rand, n int) []api.Run {
	most := 1 + n
	if chance.Intn(2) == 0 {
		most = 1 + n/4
	}
	var op []api.Run
	for n > 0 {
		many := min(n, 1+chance.Intn(most))
		gone := min(many, chance.Intn(6))
		switch chance.Intn(3) {
		case 0:
			op = append(op, drop(gone), keep(many-gone))
		default:
			op = append(op, keep(many-gone), add(chanceText(chance, 6)), drop(gone))
		}
		n -= many
	}
	return edit.Norm(append(op, add(chanceText(chance, 2))))
}

// TestChance: texts that go on with edits of any kind, and with such as are none.
func TestChance(t *testing.T) {
	for seed := range 60 {
		chance := rand.New(rand.NewSource(int64(seed)))
		s := chanceText(chance, 40)
		x := made(t, s)
		holds(t, x, s, strings.Count(s, "\n")+1)
		for range 60 {
			op := chanceEdit(chance, len(s))
			now, e := run.Apply(op, s)
			is(t, "Apply", e, api.OK)
			edits(t, x, op, now, work(s, now))
			s = now
			refuses(t, x, append(op, keep(len(s)+1)))
			if len(s) < 200 {
				continue
			}
			edits(t, x, runs(keep(100), drop(len(s)-100)), s[:100], work(s, s[:100]))
			s = s[:100]
		}
	}
}

// TestChanceWithinLines: edits within a line, one behind the other, each cost one line at most.
func TestChanceWithinLines(t *testing.T) {
	for seed := range 40 {
		chance := rand.New(rand.NewSource(int64(seed)))
		s := chanceText(chance, 60)
		x := made(t, s)
		for range 100 {
			l := places(s)
			line := l[chance.Intn(len(l))]
			from := line.From + chance.Intn(line.To-line.From+1)
			to := from + chance.Intn(min(line.To-from, 3)+1)
			by := strings.ReplaceAll(chanceText(chance, 2), "\n", "")
			now := s[:from] + by + s[to:]
			edits(t, x, put(s, from, to, by), now, work(s, now))
			if x.Work() > 1 || x.Work() == 1 && now == s || x.Work() == 0 && now != s {
				t.Fatalf("%q to %q: Work %d", s, now, x.Work())
			}
			s = now
		}
	}
}
