package message_test

import (
	"bytes"
	"fmt"
	"math"
	"math/rand"
	"reflect"
	"slices"
	"strings"
	"testing"

	"variorum/api"
	"variorum/edit"
	"variorum/message"
	"variorum/vary"
)

func keep(n int) api.Run   { return api.Run{Keep: n} }
func add(s string) api.Run { return api.Run{Add: s} }
func drop(n int) api.Run   { return api.Run{Drop: n} }

func runs(l ...api.Run) []api.Run { return l }

func note(from, to, code int) api.Note {
	return api.Note{Span: api.Span{From: from, To: to}, Code: code}
}

func opOf(l ...api.Run) api.Msg { return api.Msg{Kind: api.MsgOp, Op: l} }

func notesOf(l ...api.Note) api.Msg { return api.Msg{Kind: api.MsgNotes, Notes: l} }

// maxNum, maxCode and maxText are the bytes of the limits.
const (
	maxNum  = "\x80\x80\x80\x80\x80\x80\x80\x80\x40"
	maxCode = "\x80\x80\x04"
	maxText = "\x80\x80\x80\x08"
)

// long is a text of one byte more than MaxText.
var long = strings.Repeat("a", api.MaxText+1)

// brief tells something in words, of great things the beginning.
func brief(v any) string {
	s := fmt.Sprintf("%+v", v)
	return s[:min(len(s), 200)]
}

// fieldNames tells which fields each kind has, as api says.
func fieldNames(kind int) []string {
	switch kind {
	case api.MsgHello:
		return []string{"Client", "Epoch", "Rev", "Seq"}
	case api.MsgOp:
		return []string{"Client", "Rev", "Seq", "Op"}
	case api.MsgAck:
		return []string{"Rev", "Seq"}
	case api.MsgSnapshot:
		return []string{"Rev", "Seq", "Text"}
	case api.MsgNotes:
		return []string{"Rev", "Notes"}
	case api.MsgResync:
		return []string{"Epoch"}
	case api.MsgError:
		return []string{"Code"}
	}
	return nil
}

// most are the greatest values of the numbers.
var most = map[string]int{"Client": api.MaxClients - 1, "Epoch": api.MaxNum, "Rev": api.MaxNum, "Seq": api.MaxNum, "Code": api.MaxCode}

// with tells a message with another value of a field.
func with(m api.Msg, field string, v any) api.Msg {
	reflect.ValueOf(&m).Elem().FieldByName(field).Set(reflect.ValueOf(v))
	return m
}

// right holds that a message is right, that its bytes are these, and that they are its.
func right(t *testing.T, m api.Msg, want string) {
	t.Helper()
	if !message.Good(m) {
		t.Errorf("not Good: %s", brief(m))
	}
	b, e := message.Encode(m)
	if e != api.OK || string(b) != want {
		t.Errorf("Encode(%s): %x, %d; want %x", brief(m), b[:min(len(b), 99)], e, want[:min(len(want), 99)])
	}
	back(t, m, want)
}

// back holds that bytes are a message's.
func back(t *testing.T, m api.Msg, b string) {
	t.Helper()
	got, e := message.Decode([]byte(b))
	if e != api.OK || !plainSame(got, m) || !message.Same(got, m) {
		t.Errorf("Decode(%x): %s, %d; want %s", b[:min(len(b), 99)], brief(got), e, brief(m))
	}
}

// plainSame tells whether two messages are the same, field by field; lists without an element are.
func plainSame(a, b api.Msg) bool {
	for _, m := range []*api.Msg{&a, &b} {
		if len(m.Op) == 0 {
			m.Op = nil
		}
		if len(m.Notes) == 0 {
			m.Notes = nil
		}
	}
	return reflect.DeepEqual(a, b)
}

// wrong holds that a message is not right.
func wrong(t *testing.T, m api.Msg) {
	t.Helper()
	if b, e := message.Encode(m); e != api.ErrArg || len(b) != 0 || message.Good(m) {
		t.Errorf("%s: Good %t, Encode %x, %d", brief(m), message.Good(m), b[:min(len(b), 99)], e)
	}
}

// none holds that bytes are no message's.
func none(t *testing.T, b string) {
	t.Helper()
	if m, e := message.Decode([]byte(b)); e != api.ErrForm || !reflect.DeepEqual(m, api.Msg{}) {
		t.Errorf("Decode(%x): %s, %d", b[:min(len(b), 99)], brief(m), e)
	}
}

// told is a message and its bytes, number by number and text by text.
type told struct {
	m     api.Msg
	parts []string
}

func (x told) bytes() string { return strings.Join(x.parts, "") }

// samples are messages of each kind: the least, ordinary ones, the greatest.
func samples() []told {
	return []told{
		{api.Msg{Kind: api.MsgHello}, []string{"\x01", "\x00", "\x00", "\x00", "\x00"}},
		{api.Msg{Kind: api.MsgHello, Client: 2, Epoch: 3, Rev: 4, Seq: 300}, []string{"\x01", "\x02", "\x03", "\x04", "\xac\x02"}},
		{api.Msg{Kind: api.MsgHello, Client: 63, Epoch: api.MaxNum, Rev: api.MaxNum, Seq: api.MaxNum}, []string{"\x01", "\x3f", maxNum, maxNum, maxNum}},
		{opOf(), []string{"\x02", "\x00", "\x00", "\x00", "\x00"}},
		{opOf(keep(64)), []string{"\x02", "\x00", "\x00", "\x00", "\x01", "\x80\x01"}},
		{opOf(drop(64)), []string{"\x02", "\x00", "\x00", "\x00", "\x01", "\x7f"}},
		{opOf(drop(1)), []string{"\x02", "\x00", "\x00", "\x00", "\x01", "\x01"}},
		{opOf(add("\x00")), []string{"\x02", "\x00", "\x00", "\x00", "\x01", "\x00", "\x01\x00"}},
		{api.Msg{Kind: api.MsgOp, Client: 1, Rev: 5, Seq: 6, Op: runs(keep(2), add("xyz"), drop(3), keep(1), drop(70))}, []string{"\x02", "\x01", "\x05", "\x06", "\x05", "\x04", "\x00", "\x03xyz", "\x05", "\x02", "\x8b\x01"}},
		{api.Msg{Kind: api.MsgOp, Client: 63, Rev: api.MaxNum, Seq: api.MaxNum, Op: runs(drop(api.MaxText))}, []string{"\x02", "\x3f", maxNum, maxNum, "\x01", "\xff\xff\xff\x0f"}},
		{api.Msg{Kind: api.MsgAck}, []string{"\x03", "\x00", "\x00"}},
		{api.Msg{Kind: api.MsgAck, Rev: 5, Seq: 2}, []string{"\x03", "\x05", "\x02"}},
		{api.Msg{Kind: api.MsgAck, Rev: api.MaxNum, Seq: api.MaxNum}, []string{"\x03", maxNum, maxNum}},
		{api.Msg{Kind: api.MsgSnapshot}, []string{"\x04", "\x00", "\x00", "\x00"}},
		{api.Msg{Kind: api.MsgSnapshot, Rev: 5, Seq: 2, Text: "a\xff\x00"}, []string{"\x04", "\x05", "\x02", "\x03a\xff\x00"}},
		{api.Msg{Kind: api.MsgSnapshot, Rev: api.MaxNum, Seq: api.MaxNum, Text: long[:128]}, []string{"\x04", maxNum, maxNum, "\x80\x01" + long[:128]}},
		{notesOf(), []string{"\x05", "\x00", "\x00"}},
		{notesOf(note(0, 0, 0)), []string{"\x05", "\x00", "\x01", "\x00", "\x00", "\x00"}},
		{api.Msg{Kind: api.MsgNotes, Rev: 7, Notes: []api.Note{note(1, 3, 6), note(4, 4, 9), note(4, 5, 2), note(4, 5, 3)}}, []string{"\x05", "\x07", "\x04", "\x01", "\x02", "\x06", "\x03", "\x00", "\x09", "\x00", "\x01", "\x02", "\x00", "\x01", "\x03"}},
		{api.Msg{Kind: api.MsgNotes, Rev: api.MaxNum, Notes: []api.Note{note(0, api.MaxText, api.MaxCode), note(api.MaxText, api.MaxText, api.MaxCode)}}, []string{"\x05", maxNum, "\x02", "\x00", maxText, maxCode, maxText, "\x00", maxCode}},
		{api.Msg{Kind: api.MsgResync}, []string{"\x06", "\x00"}},
		{api.Msg{Kind: api.MsgResync, Epoch: 9}, []string{"\x06", "\x09"}},
		{api.Msg{Kind: api.MsgResync, Epoch: api.MaxNum}, []string{"\x06", maxNum}},
		{api.Msg{Kind: api.MsgError}, []string{"\x07", "\x00"}},
		{api.Msg{Kind: api.MsgError, Code: 31}, []string{"\x07", "\x1f"}},
		{api.Msg{Kind: api.MsgError, Code: api.MaxCode}, []string{"\x07", maxCode}},
	}
}

// P11.1

func TestExamples(t *testing.T) {
	right(t, api.Msg{Kind: api.MsgAck, Rev: 5, Seq: 2}, "\x03\x05\x02")
	right(t, api.Msg{Kind: api.MsgOp, Client: 1, Rev: 0, Seq: 1, Op: runs(keep(2), add("x"))}, "\x02\x01\x00\x01\x02\x04\x00\x01\x78")
}

func TestBytesOfEachKind(t *testing.T) {
	for _, x := range samples() {
		right(t, x.m, x.bytes())
	}
}

func TestKindThatIsNone(t *testing.T) {
	for _, kind := range []int{0, -1, 8, 9, 127, 128, 129, -8, math.MinInt, math.MaxInt, 1 << 32, 1<<32 + 3} {
		wrong(t, api.Msg{Kind: kind})
		wrong(t, api.Msg{Kind: kind, Rev: 5, Seq: 2})
	}
}

func TestNumbersAtTheirEnds(t *testing.T) {
	for kind := 1; kind <= 7; kind++ {
		for _, field := range fieldNames(kind) {
			top, ok := most[field]
			if !ok {
				continue
			}
			for _, n := range []int{0, 1, top - 1, top} {
				m := with(api.Msg{Kind: kind}, field, n)
				b, e := message.Encode(m)
				if !message.Good(m) || e != api.OK {
					t.Errorf("%s: %d", brief(m), e)
				}
				back(t, m, string(b))
			}
			for _, n := range []int{-1, top + 1, -top, math.MinInt, math.MaxInt} {
				wrong(t, with(api.Msg{Kind: kind}, field, n))
			}
		}
	}
}

func TestFieldThatTheKindDoesNotHave(t *testing.T) {
	values := map[string][]any{
		"Op": {runs(keep(1)), runs(api.Run{})}, "Text": {"x", "\x00"}, "Notes": {[]api.Note{note(0, 0, 0)}, []api.Note{note(1, 2, 3)}},
		"Client": {1, -1, 63, 64}, "Epoch": {1, -1, api.MaxNum}, "Rev": {1, -1, math.MinInt}, "Seq": {1, -1, math.MaxInt}, "Code": {1, -1, api.MaxCode},
	}
	for kind := 1; kind <= 7; kind++ {
		for field, l := range values {
			if slices.Contains(fieldNames(kind), field) {
				continue
			}
			for _, v := range l {
				wrong(t, with(api.Msg{Kind: kind}, field, v))
			}
		}
		if !message.Good(api.Msg{Kind: kind, Op: []api.Run{}, Notes: []api.Note{}}) {
			t.Errorf("lists without an element, of kind %d", kind)
		}
	}
}

func TestOpThatIsNoEdit(t *testing.T) {
	for _, l := range [][]api.Run{
		{{}}, {keep(1), {}}, {keep(1), keep(1)}, {add("x"), add("y")}, {drop(1), drop(1)}, {drop(1), add("x")}, {keep(1), drop(2), add("x")},
		{{Keep: 1, Add: "x"}}, {{Keep: 1, Drop: 1}}, {{Add: "x", Drop: 1}}, {keep(-1)}, {drop(-1)}, {{Keep: 1, Drop: -1}}, {keep(math.MinInt)}, {drop(math.MinInt)},
		{keep(api.MaxText + 1)}, {drop(api.MaxText + 1)}, {add(long)}, {keep(1), add(long[1:])}, {keep(1), drop(api.MaxText)}, {keep(math.MaxInt)}, {drop(math.MaxInt), keep(math.MaxInt)},
		slices.Repeat(runs(keep(1), drop(1)), api.MaxRuns/2+1), append(slices.Repeat(runs(keep(1), drop(1)), api.MaxRuns/2), keep(1)),
	} {
		wrong(t, opOf(l...))
	}
}

func TestOpAtItsLimits(t *testing.T) {
	right(t, opOf(keep(api.MaxText)), "\x02\x00\x00\x00\x01\x80\x80\x80\x10")
	right(t, opOf(add(long[1:])), "\x02\x00\x00\x00\x01\x00"+maxText+long[1:])
	right(t, opOf(add(long[1:]), drop(api.MaxText)), "\x02\x00\x00\x00\x02\x00"+maxText+long[1:]+"\xff\xff\xff\x0f")
	right(t, opOf(slices.Repeat(runs(keep(1), drop(1)), api.MaxRuns/2)...), "\x02\x00\x00\x00"+"\x80\x80\x04"+strings.Repeat("\x02\x01", api.MaxRuns/2))
}

func TestTextAtItsLimit(t *testing.T) {
	right(t, api.Msg{Kind: api.MsgSnapshot, Text: long[1:]}, "\x04\x00\x00"+maxText+long[1:])
	wrong(t, api.Msg{Kind: api.MsgSnapshot, Text: long})
	none(t, "\x04\x00\x00\x81\x80\x80\x08"+long)
}

func TestNotesInOrder(t *testing.T) {
	right(t, notesOf(note(1, 9, 9), note(2, 3, 4), note(7, 7, 0)), "\x05\x00\x03"+"\x01\x08\x09"+"\x01\x01\x04"+"\x05\x00\x00") // by From alone
	right(t, notesOf(note(3, 3, 9), note(3, 4, 5), note(3, 9, 1)), "\x05\x00\x03"+"\x03\x00\x09"+"\x00\x01\x05"+"\x00\x06\x01") // by To alone
	right(t, notesOf(note(3, 5, 0), note(3, 5, 1), note(3, 5, 7)), "\x05\x00\x03"+"\x03\x02\x00"+"\x00\x02\x01"+"\x00\x02\x07") // by Code alone
}

func TestNotesThatAreWrong(t *testing.T) {
	for _, l := range [][]api.Note{
		// Twice the same, side by side and not.
		{note(0, 0, 0), note(0, 0, 0)}, {note(1, 2, 3), note(1, 2, 3)}, {note(1, 2, 3), note(1, 2, 4), note(1, 2, 3)}, {note(1, 1, 1), note(2, 2, 2), note(2, 2, 2)},
		// Out of order.
		{note(2, 2, 0), note(1, 1, 0)}, {note(2, 3, 0), note(1, 9, 9)}, {note(1, 3, 0), note(1, 2, 9)}, {note(1, 2, 4), note(1, 2, 3)}, {note(1, 1, 1), note(3, 3, 3), note(2, 2, 2)},
		// From above To, and what is below the least or above the greatest.
		{note(2, 1, 3)}, {note(1, 0, 0)}, {note(api.MaxText, 0, 0)}, {note(1, 2, 3), note(5, 4, 3)}, {note(math.MaxInt, math.MinInt, 0)},
		{note(-1, 0, 0)}, {note(-1, -1, 0)}, {note(-2, -1, 0)}, {note(math.MinInt, math.MaxInt, 0)}, {note(math.MinInt, math.MinInt, 0)}, {note(math.MinInt, 5, 0)},
		{note(0, api.MaxText+1, 0)}, {note(api.MaxText, api.MaxText+1, 0)}, {note(api.MaxText+1, api.MaxText+1, 0)}, {note(0, math.MaxInt, 0)},
		{note(0, 0, -1)}, {note(0, 0, api.MaxCode+1)}, {note(0, 0, math.MinInt)}, {note(0, 0, math.MaxInt)},
	} {
		wrong(t, notesOf(l...))
	}
}

func TestHowManyNotes(t *testing.T) {
	var l []api.Note
	for i := range api.MaxNotes + 1 {
		l = append(l, note(i, i, 1))
	}
	rest := strings.Repeat("\x01\x00\x01", api.MaxNotes-1)
	right(t, notesOf(l[:api.MaxNotes]...), "\x05\x00"+"\x80\x20"+"\x00\x00\x01"+rest)
	wrong(t, notesOf(l...))
	none(t, "\x05\x00"+"\x81\x20"+"\x00\x00\x01"+rest+"\x01\x00\x01")
	none(t, "\x05\x00"+"\x81\x20"+"\x00\x00\x01"+rest)
	none(t, "\x05\x00"+"\x82\x20"+"\x00\x00\x01"+rest+"\x01\x00\x01")
}

// plainNotes is the chapter's words of notes, each held against each behind it.
func plainNotes(l []api.Note) bool {
	if len(l) > 1<<12 {
		return false
	}
	for i, n := range l {
		if n.Span.From < 0 || n.Span.From > n.Span.To || n.Span.To > 1<<24 || n.Code < 0 || n.Code > 1<<16 {
			return false
		}
		for _, o := range l[i+1:] {
			if slices.Compare([]int{n.Span.From, n.Span.To, n.Code}, []int{o.Span.From, o.Span.To, o.Code}) >= 0 {
				return false
			}
		}
	}
	return true
}

// plainGood is the chapter's words, field by field.
func plainGood(m api.Msg) bool {
	has := fieldNames(m.Kind)
	v := reflect.ValueOf(m)
	for i := range v.NumField() {
		name, f := v.Type().Field(i).Name, v.Field(i)
		empty := f.IsZero() || f.Kind() == reflect.Slice && f.Len() == 0
		if name != "Kind" && !slices.Contains(has, name) && !empty {
			return false
		}
		if top, ok := most[name]; ok && (f.Int() < 0 || f.Int() > int64(top)) {
			return false
		}
	}
	return has != nil && edit.Good(m.Op) && len(m.Text) <= 1<<24 && plainNotes(m.Notes)
}

// anyMsg tells a message that is often right, and often just not.
func anyMsg(chance *rand.Rand) api.Msg {
	m := api.Msg{Kind: chance.Intn(9)}
	for _, field := range fieldNames(m.Kind) {
		switch field {
		case "Op":
			m.Op = anyOp(chance)
		case "Text":
			m.Text = strings.Repeat("t", chance.Intn(4))
		case "Notes":
			m.Notes = anyNotes(chance)
		default:
			m = with(m, field, []int{0, 1, 2, most[field]}[chance.Intn(4)])
		}
	}
	if chance.Intn(4) == 0 { // something of another kind, or beyond its end
		field := []string{"Client", "Epoch", "Rev", "Seq", "Code"}[chance.Intn(5)]
		m = with(m, field, []int{0, 1, -1, most[field] + 1}[chance.Intn(4)])
	}
	return m
}

func anyOp(chance *rand.Rand) []api.Run {
	var l []api.Run
	for range chance.Intn(5) {
		l = append(l, []api.Run{keep(1), keep(2), add("x"), add("yz"), drop(1), drop(3), {}}[chance.Intn(7)])
	}
	if chance.Intn(3) > 0 {
		return edit.Norm(l)
	}
	return l
}

func anyNotes(chance *rand.Rand) []api.Note {
	var l []api.Note
	for range chance.Intn(4) {
		from := chance.Intn(3)
		l = append(l, note(from, from+chance.Intn(3), chance.Intn(2)))
	}
	if chance.Intn(3) == 0 {
		return l
	}
	slices.SortFunc(l, func(a, b api.Note) int {
		return slices.Compare([]int{a.Span.From, a.Span.To, a.Code}, []int{b.Span.From, b.Span.To, b.Code})
	})
	return l
}

func TestGoodGoesByTheWords(t *testing.T) {
	chance := rand.New(rand.NewSource(11))
	count := map[bool]int{}
	for range 50000 {
		m := anyMsg(chance)
		good := plainGood(m)
		count[good]++
		if message.Good(m) != good {
			t.Fatalf("%s: Good is not %t", brief(m), good)
		}
		if _, e := message.Encode(m); (e == api.OK) != good {
			t.Fatalf("%s: Encode %d", brief(m), e)
		}
	}
	if count[true] < 5000 || count[false] < 5000 {
		t.Error("too few of one sort", count)
	}
}

// P11.2

func TestBytesOfNoKind(t *testing.T) {
	for _, s := range []string{"", "\x00", "\x08", "\x09", "\x7f", "\x83\x00", "\x83\x01", "\x80\x01", maxNum, "\x80", "\xff", "\x00\x05\x02", "\x08\x05\x02", "\x81\x80\x80\x80\x80\x80\x80\x80\x40\x00"} {
		none(t, s)
	}
	if m, e := message.Decode(nil); e != api.ErrForm || !reflect.DeepEqual(m, api.Msg{}) {
		t.Error(m, e)
	}
}

func TestTooFewBytesAndTooMany(t *testing.T) {
	for _, x := range samples() {
		b := x.bytes()
		for i := range b {
			none(t, b[:i])
		}
		for _, behind := range []string{"\x00", "\x01", "\x80", b, "\x00\x00\x00"} {
			none(t, b+behind)
		}
	}
}

// longer writes the number that a part begins with in one digit more, which is 0.
func longer(part string) string {
	i := slices.IndexFunc([]byte(part), func(c byte) bool { return c < 128 })
	return part[:i] + string([]byte{part[i] + 128, 0}) + part[i+1:]
}

func TestNumbersThatAreWrittenLonger(t *testing.T) {
	for _, x := range samples() {
		for i, part := range x.parts {
			l := slices.Clone(x.parts)
			l[i] = longer(part)
			none(t, strings.Join(l, ""))
		}
	}
}

func TestBytesOfNumbersThatAreTooGreat(t *testing.T) {
	for _, s := range []string{
		"\x01\x40\x00\x00\x00", "\x01" + maxNum + "\x00\x00\x00", "\x02\x40\x00\x00\x00", // Client
		"\x07\x81\x80\x04", "\x07" + maxNum, // Code
		"\x06\x81\x80\x80\x80\x80\x80\x80\x80\x40", "\x06\xff\xff\xff\xff\xff\xff\xff\xff\x7f", "\x06\x80\x80\x80\x80\x80\x80\x80\x80\x80\x01", // Epoch
		"\x03\x81\x80\x80\x80\x80\x80\x80\x80\x40\x00", "\x03\x00\x81\x80\x80\x80\x80\x80\x80\x80\x40", // Rev, Seq
	} {
		none(t, s)
	}
}

func TestCountsThatTheBytesDoNotHold(t *testing.T) {
	for _, count := range []string{"\x01", "\x03", "\x7f", "\x80\x80\x04", "\x81\x80\x04", "\xff\xff\xff\xff\x07", "\x80\x80\x80\x80\x80\x80\x80\x80\x20", maxNum} {
		none(t, "\x02\x00\x00\x00"+count)
		none(t, "\x05\x00"+count)
		none(t, "\x04\x00\x00"+count)
		none(t, "\x02\x00\x00\x00\x01\x00"+count)
		none(t, "\x05\x00"+count+"\x01")
		if count != "\x01" {
			none(t, "\x02\x00\x00\x00"+count+"\x02\x01")
			none(t, "\x05\x00"+count+"\x01\x02\x06")
			none(t, "\x04\x00\x00"+count+"a")
		}
	}
	// As many runs as there may be, and one more, which the bytes do hold.
	many := strings.Repeat("\x02\x01", api.MaxRuns/2)
	none(t, "\x02\x00\x00\x00"+"\x81\x80\x04"+many+"\x02")
	none(t, "\x02\x00\x00\x00"+"\x81\x80\x04"+many)
	none(t, "\x02\x00\x00\x00"+"\x82\x80\x04"+many+"\x02\x01")
	none(t, "\x02\x00\x00\x00"+maxNum+many+"\x02\x01")
}

func TestRunsThatAreNoEdit(t *testing.T) {
	for _, s := range []string{
		"\x01\x00\x00", "\x02\x02\x00\x00", // 0 with an empty text
		"\x02\x02\x02", "\x02\x01\x01", "\x02\x00\x01x\x00\x01y", "\x02\x01\x00\x01x", // two of one kind, an Add behind a Drop
		"\x01\x82\x80\x80\x10", "\x01\x81\x80\x80\x10", "\x02\x80\x80\x80\x10\x01", // MaxText + 1
		"\x01" + maxNum, "\x01\xff\xff\xff\xff\xff\xff\xff\xff\x3f", "\x02" + maxNum + "\xff\xff\xff\xff\xff\xff\xff\xff\x3f",
	} {
		none(t, "\x02\x00\x00\x00"+s)
	}
}

func TestBytesOfNotesThatAreWrong(t *testing.T) {
	for _, s := range []string{
		"\x02" + "\x00\x00\x00" + "\x00\x00\x00", "\x02" + "\x01\x02\x03" + "\x00\x02\x03", // twice the same
		"\x02" + "\x01\x02\x03" + "\x00\x02\x02", "\x02" + "\x01\x02\x03" + "\x00\x01\x04", // out of order
		"\x01" + "\x00\x81\x80\x80\x08\x00", "\x01" + "\x81\x80\x80\x08\x00\x00", "\x01" + "\x01" + maxText + "\x00", "\x01" + maxText + "\x01\x00", "\x02" + "\x01\x00\x00" + maxText + "\x00\x00", // beyond MaxText
		"\x01" + "\x00\x00\x81\x80\x04", "\x01" + "\x00\x00" + maxNum, // beyond MaxCode
		"\x01" + maxNum + "\x00\x00", "\x01" + "\x00" + maxNum + "\x00", "\x01" + maxNum + maxNum + "\x00",
		"\x03" + "\x01\x00\x00" + maxNum + "\x00\x00" + maxNum + "\x00\x00",
	} {
		none(t, "\x05\x00"+s)
	}
	// Sums of these come round to 0, and to 1, when they leave int's range.
	round := strings.Repeat(maxNum+"\x00\x00", 4)
	none(t, "\x05\x00\x05"+"\x01\x00\x00"+round)
	none(t, "\x05\x00\x05"+round+"\x01\x00\x00")
}

func TestSame(t *testing.T) {
	base := api.Msg{Kind: 2, Client: 1, Epoch: 2, Rev: 3, Seq: 4, Code: 5, Op: runs(keep(1), add("x")), Text: "t", Notes: []api.Note{note(1, 2, 3), note(1, 2, 4)}}
	others := map[string][]any{
		"Kind": {0, 1, 3, -2}, "Client": {0, 2}, "Epoch": {1, 3}, "Rev": {2, math.MinInt}, "Seq": {5, math.MaxInt}, "Code": {0, 6},
		"Op":    {runs(), runs(keep(1)), runs(keep(1), add("y")), runs(keep(2), add("x")), runs(keep(1), api.Run{Add: "x", Drop: 1}), runs(add("x"), keep(1)), runs(keep(1), add("x"), drop(1))},
		"Text":  {"", "u", "t\x00"},
		"Notes": {[]api.Note(nil), []api.Note{note(1, 2, 3)}, []api.Note{note(1, 2, 3), note(1, 2, 5)}, []api.Note{note(1, 2, 3), note(1, 3, 4)}, []api.Note{note(0, 2, 3), note(1, 2, 4)}, []api.Note{note(1, 2, 4), note(1, 2, 3)}},
	}
	if len(others) != reflect.TypeOf(base).NumField() {
		t.Error("not each field is asked")
	}
	for field, l := range others {
		for _, v := range l {
			if m := with(base, field, v); message.Same(base, m) || message.Same(m, base) {
				t.Errorf("%s: %s", field, brief(m))
			}
			if m := with(api.Msg{}, field, v); message.Same(base, m) || !message.Same(m, m) {
				t.Errorf("%s alone: %s", field, brief(m))
			}
		}
	}
	twin := base
	twin.Op, twin.Notes, twin.Text = slices.Clone(base.Op), slices.Clone(base.Notes), strings.Clone(base.Text)
	if !message.Same(base, base) || !message.Same(base, twin) {
		t.Error("two that are the same")
	}
	if !message.Same(api.Msg{}, api.Msg{}) || !message.Same(api.Msg{}, api.Msg{Op: []api.Run{}, Notes: []api.Note{}}) {
		t.Error("lists without an element are the same, nil or empty")
	}
}

func TestSameOfEachTwo(t *testing.T) {
	l := samples()
	for i, a := range l {
		for j, b := range l {
			if message.Same(a.m, b.m) != (i == j) {
				t.Error(brief(a.m), brief(b.m))
			}
		}
	}
}

// P11.3

func TestBackAndApart(t *testing.T) {
	chance := rand.New(rand.NewSource(3))
	seen := map[string]api.Msg{}
	for range 100000 {
		m := anyMsg(chance)
		b, e := message.Encode(m)
		if e != api.OK {
			continue
		}
		back(t, m, string(b))
		if other, ok := seen[string(b)]; ok && !plainSame(other, m) {
			t.Fatalf("%x: %s, %s", b, brief(other), brief(m))
		}
		seen[string(b)] = m
	}
	if len(seen) < 5000 {
		t.Error("too few", len(seen))
	}
}

// holds asks of any bytes: they are no message's, or those of the message that is told of them.
func holds(t *testing.T, b []byte) bool {
	t.Helper()
	m, e := message.Decode(b)
	if e == api.ErrForm {
		if !reflect.DeepEqual(m, api.Msg{}) {
			t.Errorf("%x: %s beside an error", b, brief(m))
		}
		return false
	}
	again, f := message.Encode(m)
	if e != api.OK || f != api.OK || !plainGood(m) || !bytes.Equal(again, b) {
		t.Errorf("%x: %s, %d; again %x, %d", b, brief(m), e, again, f)
	}
	return true
}

func TestAllShortBytes(t *testing.T) {
	some := []byte{0, 1, 2, 3, 4, 5, 6, 7, 0x3f, 0x40, 0x80}
	many := 0
	for length := range 7 {
		b := make([]byte, length)
		for n := range int(math.Pow(float64(len(some)), float64(length))) {
			for i := range b {
				b[i] = some[n%len(some)]
				n /= len(some)
			}
			if holds(t, b) {
				many++
			}
		}
	}
	if many < 10000 {
		t.Error("too few are messages", many)
	}
}

func TestSpoiltBytes(t *testing.T) {
	for _, x := range samples() {
		b := []byte(x.bytes())
		for i := range b {
			for c := range 256 {
				spoilt := slices.Clone(b)
				spoilt[i] = byte(c)
				holds(t, spoilt)
			}
			holds(t, slices.Delete(slices.Clone(b), i, i+1))
			holds(t, slices.Insert(slices.Clone(b), i, 0))
			holds(t, slices.Insert(slices.Clone(b), i, 128))
		}
	}
}

func FuzzDecode(f *testing.F) {
	for _, x := range samples() {
		f.Add([]byte(x.bytes()))
	}
	f.Fuzz(func(t *testing.T, b []byte) { holds(t, b) })
}

// What is handed in and out

// roomy tells a list with spare room, and that room with it.
func roomy[T any](l []T, spare T) (part, whole []T) {
	whole = append(slices.Clone(l), spare, spare, spare)
	return whole[:len(l)], whole
}

func TestHandedInStaysAsItWas(t *testing.T) {
	for _, x := range samples() {
		m := x.m
		op, allOp := roomy(m.Op, keep(9))
		notes, allNotes := roomy(m.Notes, note(8, 9, 9))
		m.Op, m.Notes = op, notes
		wasOp, wasNotes := slices.Clone(allOp), slices.Clone(allNotes)
		b, e := message.Encode(m)
		if e != api.OK || string(b) != x.bytes() || !message.Good(m) || !message.Same(m, x.m) {
			t.Errorf("%s: %x, %d", brief(m), b, e)
		}
		if !slices.Equal(allOp, wasOp) || !slices.Equal(allNotes, wasNotes) {
			t.Errorf("%s: a list was changed", brief(m))
		}
		part, whole := roomy([]byte(x.bytes()), 0)
		got, e := message.Decode(part)
		if e != api.OK || !plainSame(got, x.m) || string(whole) != x.bytes()+"\x00\x00\x00" {
			t.Errorf("%x: %s, %d", whole, brief(got), e)
		}
		for i := range whole {
			whole[i] = '!'
		}
		if !plainSame(got, x.m) {
			t.Errorf("%s: what is told is the bytes' memory", brief(got))
		}
	}
}

func TestBytesBehindTheLengthAreNotRead(t *testing.T) {
	for _, x := range samples() {
		b := []byte(x.bytes())
		for i := range b {
			if m, e := message.Decode(b[:i]); e != api.ErrForm {
				t.Errorf("%x of %x: %s, %d", b[:i], b, brief(m), e)
			}
		}
	}
}

// A reader's and a writer's work must grow with the bytes: this one takes minutes if each run or note costs all bytes ahead of it.
func TestGreatMessages(t *testing.T) {
	l := runs(add(long[:api.MaxText/2]))
	for range api.MaxRuns/2 - 1 {
		l = append(l, keep(1), drop(1))
	}
	m := opOf(l...)
	b, e := message.Encode(m)
	if want := 4 + len(vary.Put(nil, len(l))) + 1 + len(vary.PutText(nil, l[0].Add)) + len(l) - 1; e != api.OK || len(b) != want {
		t.Fatal(len(b), want, e)
	}
	back(t, m, string(b))
}
