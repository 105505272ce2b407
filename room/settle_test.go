package room_test

import (
	"fmt"
	"math/rand"
	"strings"
	"testing"

	"variorum/api"
	"variorum/edit"
	"variorum/master"
	"variorum/replica"
	"variorum/room"
	"variorum/run"
)

// settles holds that Settle lets all come, and that all texts are one then.
func settles(t *testing.T, r *room.Room) int {
	t.Helper()
	quiet := r.Quiet()
	done := r.Settle()
	if !r.Quiet() || (done == 0) != quiet {
		t.Fatalf("Settle: %d; quiet ahead of it: %t, behind it: %t", done, quiet, r.Quiet())
	}
	for n := range api.MaxClients {
		queued(t, r, n, 0, 0)
		if text, ok := r.Text(n); ok && text != r.Server() {
			t.Fatalf("Text(%d): %.80q; the server's is %.80q", n, text, r.Server())
		}
	}
	if again := r.Settle(); again != 0 {
		t.Fatalf("Settle of what is quiet: %d", again)
	}
	return done
}

// byHand does what Settle does, step by step, and tells how often.
func byHand(r *room.Room, clients int) int {
	done := 0
	for !r.Quiet() {
		for n := range clients {
			if up, _ := r.Queued(n); up > 0 {
				r.Up(n)
				done++
			}
			if _, down := r.Queued(n); down > 0 {
				r.Down(n)
				done++
			}
		}
	}
	return done
}

// own is the mark that a client's edit adds, told apart from all others.
func own(client, many int) string { return fmt.Sprintf("<%d.%d>", client, many) }

// marks lets clients do so many edits each, in turn, each of which adds its mark.
func marks(t *testing.T, r *room.Room, clients, many int) {
	t.Helper()
	for i := range many {
		for n := range clients {
			text, _ := r.Text(n)
			is(t, "Edit", r.Edit(n, insert(len(text), (n*7+i*3)%(len(text)+1), own(n, i))), api.OK)
		}
	}
}

// logged holds that the log has each client's edits in order, each once, and that the server's text is the first one behind them all.
func logged(t *testing.T, r *room.Room, first string, clients, many int) {
	t.Helper()
	next := make([]int, clients)
	var ops [][]api.Run
	for _, x := range r.Log() {
		var added string
		for _, part := range x.Op {
			added += part.Add
		}
		if x.Seq != next[x.Client]+1 || added != own(x.Client, next[x.Client]) {
			t.Fatalf("client %d's: Seq %d, %q; want %d, %q", x.Client, x.Seq, added, next[x.Client]+1, own(x.Client, next[x.Client]))
		}
		next[x.Client]++
		ops = append(ops, x.Op)
	}
	for n, got := range next {
		if got != many {
			t.Fatalf("%d of client %d; want %d", got, n, many)
		}
	}
	if text, e := run.Fold(ops, first); e != api.OK || text != r.Server() {
		t.Fatalf("the log makes %.80q, %d; the server's is %.80q", text, int(e), r.Server())
	}
}

// P20.4: how often

func TestSettleOfLittle(t *testing.T) {
	r := made(t, "ab", 3, 10)
	if n := settles(t, r); n != 0 {
		t.Errorf("%d", n)
	}
	// Up, and then Down and Up of each.
	edits(t, r, 2, insert(2, 1, "x"), 1)
	if n := settles(t, r); n != 7 {
		t.Errorf("%d", n)
	}
	r = made(t, "ab", 1, 1)
	edits(t, r, 0, insert(2, 1, "x"), 1)
	edits(t, r, 0, insert(3, 1, "y"), 1)
	if n := settles(t, r); n != 6 {
		t.Errorf("%d", n)
	}
	// Without room for the second one: once more for each time that it is sent again.
	r = made(t, "ab", 2, 1)
	edits(t, r, 0, insert(2, 1, "x"), 1)
	edits(t, r, 1, insert(2, 1, "y"), 1)
	if n := settles(t, r); n != 12 {
		t.Errorf("%d", n)
	}
	serves(t, r, "axyb", [2]int{0, 1}, [2]int{1, 1})
}

// TestSettleGoesInOrder: client by client, Up ahead of Down.
func TestSettleGoesInOrder(t *testing.T) {
	for _, clients := range []int{1, 2, 5} {
		for _, many := range []int{1, 2, 7} {
			for _, most := range []int{1, 2, 3, 100} {
				one, other := made(t, "ab", clients, most), made(t, "ab", clients, most)
				marks(t, one, clients, many)
				marks(t, other, clients, many)
				if n, want := settles(t, one), byHand(other, clients); n != want {
					t.Errorf("%d; want %d", n, want)
				}
				was := all(other)
				unchanged(t, one, was)
				logged(t, one, "ab", clients, many)
			}
		}
	}
}

// P20.5, P20.6, P20.7

// TestSettleOfMany: MaxClients, with MaxWindow edits of each, and with a journal that is hardly there.
func TestSettleOfMany(t *testing.T) {
	for _, x := range []struct{ clients, many, most int }{
		{1, api.MaxWindow, 1}, {1, api.MaxWindow, api.MaxHistory}, {2, api.MaxWindow, 1}, {api.MaxClients, 1, 1}, {api.MaxClients, 2, 1}, {api.MaxClients, 8, api.MaxHistory}, {8, api.MaxWindow, 1}, {8, api.MaxWindow, 30},
	} {
		r := made(t, "abc", x.clients, x.most)
		marks(t, r, x.clients, x.many)
		settles(t, r)
		logged(t, r, "abc", x.clients, x.many)
	}
}

func TestSettleOfAll(t *testing.T) {
	if testing.Short() {
		t.Skip("it takes long")
	}
	r := made(t, "", api.MaxClients, api.MaxHistory)
	marks(t, r, api.MaxClients, api.MaxWindow)
	settles(t, r)
	logged(t, r, "", api.MaxClients, api.MaxWindow)
}

// Without room

// TestTextWithoutRoom: an edit that the text has no room for is sent again and again, and an entry that a client has no room for stays on its way; Settle ends, and is not quiet.
func TestTextWithoutRoom(t *testing.T) {
	n := api.MaxText - 1
	r := made(t, long[1:], 3, 10)
	is(t, "Edit", r.Edit(0, insert(n, 0, "x")), api.OK)
	is(t, "Edit", r.Edit(1, insert(n, n, "y")), api.OK)
	is(t, "Up", r.Up(0), api.OK)
	is(t, "Up without room", r.Up(1), api.ErrFull)
	queued(t, r, 1, 1, 1)
	is(t, "Down without room", r.Down(1), api.ErrFull)
	queued(t, r, 1, 1, 1)
	shows(t, r, 1, long[1:]+"y")
	serves(t, r, "x"+long[1:], [2]int{0, 1})
	// Down and Up of 0 and 2; and meanwhile, and twice behind that, Up and Down of 1.
	if done := r.Settle(); done != 4+2*(2+2) || r.Quiet() {
		t.Errorf("%d, Quiet %t", done, r.Quiet())
	}
	queued(t, r, 0, 0, 0)
	queued(t, r, 1, 1, 1)
	queued(t, r, 2, 0, 0)
	shows(t, r, 2, "x"+long[1:])
	// The others go on.
	is(t, "Edit", r.Edit(2, runs(drop(api.MaxText))), api.OK)
	r.Settle()
	serves(t, r, "", [2]int{0, 1}, [2]int{2, 1})
	shows(t, r, 0, "")
}

// Against a model

// model is a room as lists.
type model struct {
	server *master.Master
	log    []api.Entry
	seats  []seat
}

// seat is a client: what is up, by its kind, and what is down.
type seat struct {
	text *replica.Replica
	up   []api.Msg
	down []int // how many entries there were with it
}

func modelOf(text string, clients, most int) *model {
	d := &model{server: master.New(text, most), seats: make([]seat, clients)}
	for n := range clients {
		d.server.Join(n)
		d.seats[n].text = replica.New(n, 0, 0, text)
	}
	return d
}

func (c *seat) send() {
	if m, ok := c.text.Next(); ok {
		c.up = append(c.up, m)
	}
}

func (d *model) edit(n int, op []api.Run) api.Errno {
	c := &d.seats[n]
	e := c.text.Edit(op)
	if e == api.OK {
		c.send()
	}
	return e
}

func (d *model) goUp(n int) api.Errno {
	c := &d.seats[n]
	if len(c.up) == 0 {
		return api.ErrEnd
	}
	m := c.up[0]
	c.up = c.up[1:]
	if m.Kind == api.MsgAck {
		return d.server.Saw(n, m.Rev)
	}
	x, e := d.server.Take(n, m.Seq, m.Rev, m.Op)
	if e == api.ErrFull {
		c.text.Resend()
		c.send()
	}
	if e == api.OK {
		d.log = append(d.log, x)
		for i := range d.seats {
			d.seats[i].down = append(d.seats[i].down, len(d.log))
		}
	}
	return e
}

func (d *model) goDown(n int) api.Errno {
	c := &d.seats[n]
	if len(c.down) == 0 {
		return api.ErrEnd
	}
	rev := c.down[0]
	c.down = c.down[1:]
	_, e := c.text.Come(rev, d.log[rev-1])
	c.up = append(c.up, api.Msg{Kind: api.MsgAck, Rev: rev})
	c.send()
	return e
}

func TestAsAModel(t *testing.T) {
	for seed := range 150 {
		chance := rand.New(rand.NewSource(int64(seed)))
		clients, most := 1+chance.Intn(5), 1+chance.Intn(6)
		first := strings.Repeat("ab", chance.Intn(4))
		r, d := made(t, first, clients, most), modelOf(first, clients, most)
		lazy := 1 + chance.Intn(4)
		for range 300 {
			n := chance.Intn(clients)
			switch what := chance.Intn(3 + lazy); {
			case what == 0:
				is(t, "Up", r.Up(n), d.goUp(n))
			case what == 1:
				is(t, "Down", r.Down(n), d.goDown(n))
			default:
				text, _ := r.Text(n)
				op := anEdit(chance, len(text))
				is(t, "Edit", r.Edit(n, op), d.edit(n, op))
			}
			d.holds(t, r)
		}
		settles(t, r)
		var ops [][]api.Run
		for _, x := range r.Log() {
			ops = append(ops, x.Op)
		}
		if text, e := run.Fold(ops, first); e != api.OK || text != r.Server() {
			t.Fatalf("the log makes %q, %d; the server's is %q", text, int(e), r.Server())
		}
	}
}

// holds holds that a room is as the model is.
func (d *model) holds(t *testing.T, r *room.Room) {
	t.Helper()
	quiet := true
	for n, c := range d.seats {
		shows(t, r, n, c.text.Text())
		queued(t, r, n, len(c.up), len(c.down))
		quiet = quiet && len(c.up) == 0 && len(c.down) == 0 && len(c.text.Pending()) == 0
	}
	if got, want := fmt.Sprint(r.Log()), fmt.Sprint(d.log); got != want || r.Server() != d.server.Text() || r.Quiet() != quiet {
		t.Fatalf("%q, Quiet %t, %s; want %q, %t, %s", r.Server(), r.Quiet(), got, d.server.Text(), quiet, want)
	}
}

// anEdit tells an edit of n bytes, which keeps a text short.
func anEdit(chance *rand.Rand, n int) []api.Run {
	var l []api.Run
	for left := n; left > 0; {
		many := 1 + chance.Intn(min(left, 1+n/3))
		switch {
		case chance.Intn(30+n) > 27:
			l = append(l, drop(many))
		case chance.Intn(3) == 0:
			l = append(l, add(string(rune('a'+chance.Intn(26)))))
			many = 0
		default:
			l = append(l, keep(many))
		}
		left -= many
	}
	if chance.Intn(3) == 0 {
		l = append(l, add("z"))
	}
	return edit.Norm(l)
}
