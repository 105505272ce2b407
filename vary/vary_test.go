package vary_test

import (
	"bytes"
	"math"
	"slices"
	"strings"
	"testing"

	"variorum/api"
	"variorum/vary"
)

const maxSigned = 1 << 61

var numbers = []struct {
	n     int
	bytes string
}{
	{0, "\x00"},
	{1, "\x01"},
	{127, "\x7f"},
	{128, "\x80\x01"},
	{300, "\xac\x02"},
	{16383, "\xff\x7f"},
	{16384, "\x80\x80\x01"},
	{api.MaxNum - 1, "\xff\xff\xff\xff\xff\xff\xff\xff\x3f"},
	{api.MaxNum, "\x80\x80\x80\x80\x80\x80\x80\x80\x40"},
}

var signed = []struct {
	n     int
	bytes string
}{
	{0, "\x00"},
	{-1, "\x01"},
	{1, "\x02"},
	{-2, "\x03"},
	{63, "\x7e"},
	{-64, "\x7f"},
	{64, "\x80\x01"},
	{-65, "\x81\x01"},
	{maxSigned - 1, "\xfe\xff\xff\xff\xff\xff\xff\xff\x3f"},
	{-maxSigned, "\xff\xff\xff\xff\xff\xff\xff\xff\x3f"},
	{maxSigned, "\x80\x80\x80\x80\x80\x80\x80\x80\x40"},
}

// malformed: what begins with no number, and so with no signed one and no text.
var malformed = []string{
	"",
	"\x80", "\xff", "\x80\x80", "\xff\xff\xff\xff\xff\xff\xff\xff", // the bytes end
	"\x80\x00", "\xac\x82\x00", "\x80\x80\x80\x80\x80\x80\x80\x80\x00", // longer than it is said
	"\x81\x80\x80\x80\x80\x80\x80\x80\x40", // MaxNum + 1
	"\x80\x80\x80\x80\x80\x80\x80\x80\x41",
	"\xff\xff\xff\xff\xff\xff\xff\xff\x7f",     // 2^63 - 1
	"\x80\x80\x80\x80\x80\x80\x80\x80\x80\x01", // 2^63
	"\x80\x80\x80\x80\x80\x80\x80\x80\x80\x02", // 2^64
	"\x85\x80\x80\x80\x80\x80\x80\x80\x80\x02", // 2^64 + 5
	"\x80\x80\x80\x80\x80\x80\x80\x80\xc0\x00",
	"\xff\xff\xff\xff\xff\xff\xff\xff\xff\xff\xff\xff\x01",
}

var texts = []string{"", "a", "ab", "\x00", "\x80\x01", "\xff\xfe", strings.Repeat("x", 127), strings.Repeat("y", 128), strings.Repeat("z", 70000)}

func textBytes(s string) string { return string(vary.Put(nil, len(s))) + s }

// P1.1

func TestPutTellsDigits(t *testing.T) {
	for _, c := range numbers {
		if got := vary.Put([]byte("x"), c.n); string(got) != "x"+c.bytes {
			t.Errorf("Put of %d: %x", c.n, got)
		}
		if got := vary.Put(nil, c.n); string(got) != c.bytes {
			t.Errorf("Put of %d behind nothing: %x", c.n, got)
		}
	}
}

func TestPutLeavesOutWhatIsNoNumber(t *testing.T) {
	for _, n := range []int{-1, -2, api.MaxNum + 1, math.MaxInt, math.MinInt, math.MinInt + 1} {
		if got := vary.Put([]byte("x"), n); string(got) != "x" {
			t.Errorf("Put of %d: %x", n, got)
		}
		if got := vary.Put(nil, n); len(got) != 0 {
			t.Errorf("Put of %d behind nothing: %x", n, got)
		}
	}
}

func TestPutSignedTellsDigits(t *testing.T) {
	for _, c := range signed {
		if got := vary.PutSigned([]byte("x"), c.n); string(got) != "x"+c.bytes {
			t.Errorf("PutSigned of %d: %x", c.n, got)
		}
	}
}

func TestPutSignedLeavesOutWhatIsNoNumber(t *testing.T) {
	for _, n := range []int{maxSigned + 1, -maxSigned - 1, api.MaxNum, -api.MaxNum, math.MaxInt, math.MinInt} {
		if got := vary.PutSigned([]byte("x"), n); string(got) != "x" {
			t.Errorf("PutSigned of %d: %x", n, got)
		}
	}
}

func TestPutTextTellsLengthAndBytes(t *testing.T) {
	for s, want := range map[string]string{
		"":                       "\x00",
		"ab":                     "\x02ab",
		"\x00\xff":               "\x02\x00\xff",
		strings.Repeat("q", 127): "\x7f" + strings.Repeat("q", 127),
		strings.Repeat("q", 300): "\xac\x02" + strings.Repeat("q", 300),
	} {
		if got := vary.PutText([]byte("x"), s); string(got) != "x"+want {
			t.Errorf("PutText of %d bytes: %x", len(s), got)
		}
	}
}

// putters: each way to put, with what is put and what is none.
func putters() map[string]func([]byte) []byte {
	return map[string]func([]byte) []byte{
		"number":     func(b []byte) []byte { return vary.Put(b, 300) },
		"no number":  func(b []byte) []byte { return vary.Put(b, -1) },
		"signed":     func(b []byte) []byte { return vary.PutSigned(b, -300) },
		"no signed":  func(b []byte) []byte { return vary.PutSigned(b, math.MinInt) },
		"text":       func(b []byte) []byte { return vary.PutText(b, "ab") },
		"empty text": func(b []byte) []byte { return vary.PutText(b, "") },
	}
}

func TestPutWritesIntoNothingThatIsHandedIn(t *testing.T) {
	for name, put := range putters() {
		for _, length := range []int{0, 3} {
			room := []byte("abcdefghijkl")
			got := put(room[:length])
			if string(room) != "abcdefghijkl" {
				t.Errorf("%s: %q", name, room)
			}
			for i := range got {
				got[i] = '!'
			}
			if string(room) != "abcdefghijkl" {
				t.Errorf("%s: the answer is b's memory: %q", name, room)
			}
			if spare := got[len(got):cap(got)]; bytes.ContainsAny(spare, "defghijkl") {
				t.Errorf("%s: b's spare room is handed out: %q", name, spare)
			}
		}
	}
}

func TestPutTwiceBehindOneBeginning(t *testing.T) {
	beginning := vary.Put(nil, 5)
	one := vary.Put(beginning, 1)
	two := vary.Put(beginning, 2)
	if string(one) != "\x05\x01" || string(two) != "\x05\x02" {
		t.Errorf("%x %x", one, two)
	}
}

// P1.2

func TestReaderGoesOn(t *testing.T) {
	r := vary.Read([]byte("\xac\x02\x01\x02ab\x00\x05"))
	if r.Left() != 8 || r.Bad() || r.Done() {
		t.Error("start", r.Left())
	}
	if n := r.Num(); n != 300 || r.Left() != 6 {
		t.Error("number", n, r.Left())
	}
	if n := r.Signed(); n != -1 || r.Left() != 5 {
		t.Error("signed", n, r.Left())
	}
	if s := r.Text(); s != "ab" || r.Left() != 2 {
		t.Error("text", s, r.Left())
	}
	if s := r.Text(); s != "" || r.Left() != 1 || r.Bad() || r.Done() {
		t.Error("empty text", s, r.Left())
	}
	if n := r.Num(); n != 5 {
		t.Error("last", n)
	}
	if r.Left() != 0 || !r.Done() || r.Bad() {
		t.Error("a reader that is at its end is done, and not bad")
	}
}

func TestLeftBadDoneChangeNothing(t *testing.T) {
	r := vary.Read([]byte("\x07\x08"))
	for range 3 {
		if r.Left() != 2 || r.Bad() || r.Done() {
			t.Error(r.Left(), r.Bad(), r.Done())
		}
	}
	if r.Num() != 7 || r.Num() != 8 || !r.Done() {
		t.Error("what was asked went by")
	}
}

func TestReadOfNothing(t *testing.T) {
	for _, b := range [][]byte{nil, {}} {
		if r := vary.Read(b); r.Left() != 0 || r.Bad() || !r.Done() {
			t.Error(r.Left(), r.Bad(), r.Done())
		}
	}
}

// readers: each way to read; whether it answered its zero value.
func readers() map[string]func(*vary.Reader) bool {
	return map[string]func(*vary.Reader) bool{
		"Num":    func(r *vary.Reader) bool { return r.Num() == 0 },
		"Signed": func(r *vary.Reader) bool { return r.Signed() == 0 },
		"Text":   func(r *vary.Reader) bool { return r.Text() == "" },
	}
}

func wantBad(t *testing.T, what string, r *vary.Reader) {
	t.Helper()
	for range 2 {
		if !r.Bad() || r.Done() || r.Left() != 0 {
			t.Errorf("%s: Bad %v, Done %v, Left %d", what, r.Bad(), r.Done(), r.Left())
		}
		for name, read := range readers() {
			if !read(r) {
				t.Errorf("%s: %s of a bad reader", what, name)
			}
		}
	}
}

func TestMalformedIsBadAndStaysSo(t *testing.T) {
	for _, s := range malformed {
		for name, read := range readers() {
			r := vary.Read([]byte(s))
			if !read(r) {
				t.Errorf("%s of %x", name, s)
			}
			wantBad(t, name, r)
		}
	}
}

func TestBadIsBadWithBytesAhead(t *testing.T) {
	for _, s := range malformed {
		if s == "" || s[len(s)-1] >= 128 {
			continue // with more bytes behind it this one could be a number
		}
		for name, read := range readers() {
			r := vary.Read([]byte("\x05" + s + "\x05\x05\x05"))
			if r.Num() != 5 || !read(r) {
				t.Errorf("%s of %x", name, s)
			}
			wantBad(t, name, r)
		}
	}
}

func TestTextThatEndsTooSoon(t *testing.T) {
	for _, s := range []string{"\x01", "\x03ab", "\x80\x01ab", "\x80\x80\x80\x80\x80\x80\x80\x80\x40ab"} {
		r := vary.Read([]byte(s))
		if got := r.Text(); got != "" {
			t.Errorf("%x: %q", s, got)
		}
		wantBad(t, "text", r)
	}
}

func TestReaderThatNoCallMade(t *testing.T) {
	wantBad(t, "nil", nil)
	wantBad(t, "plain", &vary.Reader{})
	wantBad(t, "new", new(vary.Reader))
}

func TestReadWithoutSpareRoom(t *testing.T) {
	room := []byte("\x02abc")
	if r := vary.Read(room[:2]); r.Text() != "" || !r.Bad() {
		t.Error("what lies behind the bytes was read")
	}
	b := []byte("\x02ab")
	r := vary.Read(b)
	copy(b, "\x01zz")
	if r.Text() != "ab" || !r.Done() {
		t.Error("what was written later was read")
	}
	if string(b) != "\x01zz" {
		t.Error("the reader wrote")
	}
}

func TestReadersAreApart(t *testing.T) {
	b := []byte("\x01\x02")
	one, two := vary.Read(b), vary.Read(b)
	if one.Num() != 1 || two.Num() != 1 || one.Num() != 2 || two.Left() != 1 {
		t.Error("one reader moved the other")
	}
}

// P1.3

func TestBackNumbers(t *testing.T) {
	for _, behind := range []string{"", "\x00", "\x7f", "\x80", "\xff\xff"} {
		back := func(n int) {
			r := vary.Read(append(vary.Put(nil, n), behind...))
			if got := r.Num(); got != n || r.Left() != len(behind) || r.Bad() {
				t.Errorf("%d: %d, %d left", n, got, r.Left())
			}
		}
		for _, c := range numbers {
			back(c.n)
		}
		for n := range 40000 {
			back(n)
		}
		for i := range 62 {
			back(1<<i - 1)
			back(1 << i)
			back(1<<i + 1)
		}
	}
}

func TestBackSigned(t *testing.T) {
	for _, behind := range []string{"", "\x00", "\xff"} {
		back := func(n int) {
			r := vary.Read(append(vary.PutSigned(nil, n), behind...))
			if got := r.Signed(); got != n || r.Left() != len(behind) || r.Bad() {
				t.Errorf("%d: %d, %d left", n, got, r.Left())
			}
		}
		for _, c := range signed {
			back(c.n)
		}
		for n := -20000; n <= 20000; n++ {
			back(n)
		}
		for i := range 61 {
			back(1<<i + 1)
			back(-1<<i - 1)
			back(1<<i - 1)
			back(1 - 1<<i)
		}
	}
}

func TestBackTexts(t *testing.T) {
	for _, s := range texts {
		for _, behind := range []string{"", "\x00", "zz"} {
			r := vary.Read(append(vary.PutText(nil, s), behind...))
			if got := r.Text(); got != s || r.Left() != len(behind) || r.Bad() {
				t.Errorf("%d bytes: %d, %d left", len(s), len(got), r.Left())
			}
		}
	}
}

// wantSame asks of any bytes: what is read of them has just the bytes that are put of it.
func wantSame(t *testing.T, b []byte) {
	t.Helper()
	puts := map[string]func(*vary.Reader) []byte{
		"number": func(r *vary.Reader) []byte { return vary.Put(nil, r.Num()) },
		"signed": func(r *vary.Reader) []byte { return vary.PutSigned(nil, r.Signed()) },
		"text":   func(r *vary.Reader) []byte { return vary.PutText(nil, r.Text()) },
	}
	for name, put := range puts {
		r := vary.Read(b)
		again := put(r)
		if r.Bad() {
			continue
		}
		if went := b[:len(b)-r.Left()]; !bytes.Equal(went, again) {
			t.Errorf("%s: read of %x, put %x", name, went, again)
		}
	}
}

func TestSameBytesOfWhatWasRead(t *testing.T) {
	for a := range 256 {
		wantSame(t, []byte{byte(a)})
		for b := range 256 {
			wantSame(t, []byte{byte(a), byte(b)})
			for _, c := range []byte{0, 1, 127, 128, 255} {
				wantSame(t, []byte{byte(a), byte(b), c})
			}
		}
	}
	for last := range 256 {
		for _, first := range []byte{0x80, 0x81, 0xff} {
			for length := range 12 {
				b := bytes.Repeat([]byte{first}, length)
				wantSame(t, append(b, byte(last)))
			}
		}
	}
}

func FuzzSame(f *testing.F) {
	for _, s := range malformed {
		f.Add([]byte(s))
	}
	f.Fuzz(func(t *testing.T, b []byte) { wantSame(t, b) })
}

// P1.4

// lists tells all lists of up to 3 of some texts.
func lists() [][]string {
	some := []string{"", "a", "\x00", "\x01", "\x01a", "aa", "\x00\x00"}
	out := [][]string{nil}
	for from, length := 0, 1; length <= 3; length++ {
		end := len(out)
		for _, l := range out[from:end] {
			for _, s := range some {
				out = append(out, append(slices.Clone(l), s))
			}
		}
		from = end
	}
	return out
}

func begins(l, with []string) bool {
	return len(l) >= len(with) && slices.Equal(l[:len(with)], with)
}

func TestUnlikeListsAreApart(t *testing.T) {
	all := lists()
	put := make([]string, len(all))
	for i, l := range all {
		var b []byte
		for _, s := range l {
			b = vary.PutText(b, s)
		}
		put[i] = string(b)
	}
	for i, l := range all {
		for j, m := range all {
			if i == j {
				continue
			}
			if put[i] == put[j] {
				t.Fatalf("%q and %q: both %x", l, m, put[i])
			}
			// A list that goes on where another one ends has that one's bytes first, whatever a text's are.
			if !begins(l, m) && strings.HasPrefix(put[i], put[j]) {
				t.Fatalf("%q and %q: %x begins with %x", l, m, put[i], put[j])
			}
		}
	}
}

func TestUnlikeTextsAreApart(t *testing.T) {
	for _, s := range texts {
		for _, u := range texts {
			if s != u && strings.HasPrefix(textBytes(s), textBytes(u)) {
				t.Errorf("%d and %d bytes", len(s), len(u))
			}
		}
		if got := string(vary.PutText(nil, s)); got != textBytes(s) {
			t.Errorf("%d bytes: %x", len(s), got)
		}
	}
}
