package tests

import (
	"slices"
	"strings"
	"testing"

	"loop.example/g00296/impl"
)

// heard is what was said at one seat: by its client, and, stream by stream, by those whom it reached.
type heard struct {
	pending string // what is still to come of what its client says
	came    string
	given   map[int64]string
	ended   map[int64]bool
}

// script is a gate from its first act on, beside all that was said.
type script struct {
	source
	first, g impl.Gate
	seats    []*heard
	acts     []impl.Act
	numbers  []int64
	met      map[string]int
}

func newScript(t *testing.T, seed uint32, seats int64, quota int64) *script {
	t.Helper()
	list := twoTenants()
	list[0].Quota, list[1].Quota = quota, 2*quota
	g, is := impl.NewGate(list, seats)
	if !is {
		t.Fatal("no gate")
	}
	x := &script{source: source{seed: seed}, first: g, g: g, met: map[string]int{}}
	for range seats {
		x.seats = append(x.seats, &heard{given: map[int64]string{}, ended: map[int64]bool{}})
	}
	return x
}

func (x *script) happens(t *testing.T, a impl.Act) int64 {
	t.Helper()
	then, n := impl.Happen(x.g, a)
	x.g, x.acts, x.numbers = then, append(x.acts, a), append(x.numbers, n)
	if n < 0 {
		return n
	}
	switch h := x.seats[a.Seat]; a.Kind {
	case 1:
		h.came += a.Text
	case 4:
		h.given[a.Id] += a.Text[:n]
		h.ended[a.Id] = h.ended[a.Id] || a.Yes && n == int64(len(a.Text))
	}
	return n
}

// firstWindow is the greatest window that a stream of the seat could begin with, or be moved to.
func (h *heard) firstWindow() int64 {
	most := int64(500)
	list, _, _ := framesAsRead(h.came)
	for _, f := range list {
		if f.Kind == 4 && f.Body != "" {
			most = max(most, impl.Number(f.Body))
		}
	}
	return most
}

// named has the streams of which there are frames, either way.
func (h *heard) named(out string) map[int64]int {
	count := map[int64]int{}
	for _, s := range []string{h.came, out} {
		list, _, _ := framesAsRead(s)
		for _, f := range list {
			count[f.Stream]++
		}
	}
	delete(count, 0)
	return count
}

// holds asks the promise of each Flight, and of each stream there was.
func (x *script) holds(t *testing.T) {
	t.Helper()
	for _, f := range x.g.Flights {
		spoken, _ := impl.Spoken(x.seats[f.Seat].came, f.Id)
		text, is := impl.WentTo(x.g, f.Seat, f.Id)
		if !is || !impl.Begins(text, spoken) {
			t.Fatalf("%d of seat %d: %q went (%v), spoken was %q", f.Id, f.Seat, text, is, spoken)
		}
		if text != "" && text == spoken {
			x.met["all went"]++
		} else if text != "" {
			x.met["some went"]++
		}
	}
	for seat, h := range x.seats {
		h.holds(t, x, int64(seat))
	}
}

func (h *heard) holds(t *testing.T, x *script, seat int64) {
	t.Helper()
	s, all := x.g.Seats[seat], int64(0)
	window := h.firstWindow()
	for id := range h.named(s.Out) {
		owed, let := impl.Owed(s.Out, id), window+impl.Grants(h.came, id)
		if owed > let {
			t.Fatalf("%d of seat %d is sent %d bytes, and let were %d", id, seat, owed, let)
		}
		text, end := impl.Spoken(s.Out, id)
		if !impl.Begins(text, h.given[id]) || int64(len(text)) != owed || end && (!h.ended[id] || text != h.given[id]) {
			t.Fatalf("%d of seat %d is sent %q (%v), and given was %q", id, seat, text, end, h.given[id])
		}
		all += owed
		switch {
		case owed == let:
			x.met["as much as the stream lets"]++
		case end:
			x.met["the end"]++
		}
	}
	let := 2000 + impl.Grants(h.came, 0)
	if all > let {
		t.Fatalf("seat %d is sent %d bytes, and let were %d", seat, all, let)
	}
	if all == let {
		x.met["as much as the connection lets"]++
	}
}

// playsTheSame asks for all of the acts at once.
func (x *script) playsTheSame(t *testing.T) {
	t.Helper()
	if len(x.acts) > 100 {
		t.Fatal("the script is too long")
	}
	then, numbers := impl.Play(x.first, x.acts)
	if !sameGate(then, x.g) || !slices.Equal(numbers, x.numbers) {
		t.Fatalf("%s, not %s", briefGate(then), briefGate(x.g))
	}
	for _, h := range x.seats {
		auditsAsWritten(t, h.came)
	}
}

// says is some more of what the client says: it asks, sends what there is room for, and grants windows.
func (x *script) says(seat int64) string {
	h, c := x.seats[seat], x.g.Seats[seat].Conn
	if h.pending == "" {
		ids := x.streams(seat)
		if len(ids) == 0 || x.next(6) == 0 {
			f := headBy(x.g, seat, freshId(c.Registry), asking(x.target(), x.token(x.g.Now))...)
			h.pending = shown(f)
		} else {
			h.pending = shown(x.saying(c, ids[x.next(uint32(len(ids)))]))
		}
	}
	n := len(h.pending)
	if x.next(3) == 0 {
		n = x.next(uint32(n + 1))
	}
	text := h.pending[:n]
	h.pending = h.pending[n:]
	return text
}

// streams are those of the seat that are not closed.
func (x *script) streams(seat int64) []int64 {
	var ids []int64
	for _, e := range x.g.Seats[seat].Conn.Registry.Entries {
		if e.State != closed {
			ids = append(ids, e.Id)
		}
	}
	return ids
}

func (x *script) saying(c impl.Conn, id int64) impl.Frame {
	o := flowIn(&c, id)
	room := max(0, min(o.Tunnel.Up.Room-int64(len(o.Tunnel.Up.Bytes)), o.Get, c.Get, 1000))
	switch x.next(20) {
	case 0:
		return resetOn(id, 1)
	case 1, 2, 3:
		return windowOn(id*int64(x.next(2)), 1+x.upTo(400))
	case 4:
		return settleTo(x.upTo(900))
	case 5:
		return lastDataOn(id, x.bytes(x.upTo(room)))
	case 6, 7, 8, 9:
		if room > 0 {
			body := x.bytes(x.upTo(room-1) + 1)
			pad := x.next(uint32(min(len(body), 256)))
			return padded(int64(x.next(9)/8), id, string([]byte{byte(pad)})+body[1:])
		}
	}
	return dataOn(id, x.bytes(x.upTo(room)))
}

// tameAct is one where nearly all goes well.
func (x *script) tameAct() impl.Act {
	seat, id := int64(x.next(uint32(len(x.g.Seats)))), int64(1)
	if n := len(x.g.Dials); n > 0 && x.next(2) == 0 {
		d := x.g.Dials[x.next(uint32(n))]
		return dials(d.Seat, d.Id, x.next(8) > 0)
	}
	if n := len(x.g.Flights); n > 0 {
		f := x.g.Flights[n-1-x.next(uint32(min(n, 5)))]
		seat, id = f.Seat, f.Id
	}
	switch x.next(12) {
	case 0, 1, 2, 3, 4:
		return comes(seat, x.says(seat))
	case 5, 6:
		return takes(seat, id, x.upTo(900))
	case 7, 8, 9:
		return gives(seat, id, x.bytes(x.upTo(900)), x.next(8) == 0)
	case 10:
		return flushes(seat)
	}
	other := int64(x.next(uint32(len(x.g.Seats))))
	return comes(other, x.says(other))
}

func (x *script) metBy(all map[string]int) {
	for what, n := range x.met {
		all[what] += n
	}
}

func metEnough(t *testing.T, met, least map[string]int) {
	t.Helper()
	for what, n := range least {
		if met[what] < n {
			t.Fatalf("too little of %s: %v", what, met)
		}
	}
}

// Where clients keep to what they are let, and windows are short.
func TestWhatComesOutIsWhatWentIn(t *testing.T) {
	met := map[string]int{}
	for seed := range uint32(120) {
		x := newScript(t, 1900+seed, int64(1+seed%4), 5)
		for range 100 {
			x.happens(t, x.tameAct())
			x.holds(t)
		}
		x.playsTheSame(t)
		x.metBy(met)
	}
	metEnough(t, met, map[string]int{"all went": 2000, "some went": 2000, "the end": 500, "as much as the stream lets": 2000, "as much as the connection lets": 10})
}

// Whatever is said and done, by frames and acts of all kinds, right and wrong ones.
func TestWhatComesOutIsWhatWentInWhateverHappens(t *testing.T) {
	met := map[string]int{}
	for seed := range uint32(120) {
		x := newScript(t, 19000+seed, int64(1+seed%4), 9)
		for range 100 {
			a := x.act(x.g)
			then, _ := impl.Happen(x.g, a)
			// Most that would be the end of a seat is left aside, so that the way is long.
			if slices.ContainsFunc(then.Seats, func(s impl.Seat) bool { return s.Conn.Dead }) && seed%3 > 0 && x.next(20) > 0 {
				continue
			}
			a.Seat = min(max(a.Seat, 0), int64(len(x.seats)-1))
			x.happens(t, a)
			x.holds(t)
		}
		x.playsTheSame(t)
		x.metBy(met)
	}
	metEnough(t, met, map[string]int{"some went": 150, "the end": 100, "as much as the stream lets": 300})
}

// opened is a script by which a stream of each of the ids was asked for and let in at the seat.
func opened(t *testing.T, seat int64, ids ...int64) *script {
	t.Helper()
	x := newScript(t, 1, 2, 9)
	for _, id := range ids {
		x.happens(t, comes(seat, shown(headBy(x.g, seat, id, asking("a.x", bertsToken())...))))
		if x.happens(t, dials(seat, id, true)) < 0 {
			t.Fatalf("%d is not let in", id)
		}
	}
	return x
}

// Where all is taken, all that was Spoken went, and nothing of it elsewhere.
func TestAllThatIsTakenIsAllThatWasSpoken(t *testing.T) {
	x := opened(t, 1, 1, 3)
	text := shown(dataOn(1, "one, "), padded(0, 3, "\x02three, pp"), dataOn(3, ""), padded(0, 1, "\x00two, "), dataOn(3, "four, "), padded(1, 1, "\x04three.pppp"), lastDataOn(3, "five."))
	x.happens(t, comes(0, text)) // of another client: no stream of it is there
	for at := range len(text) {
		if x.happens(t, comes(1, text[at:at+1])) < 0 {
			t.Fatal(at)
		}
		if at%7 == 0 {
			x.happens(t, takes(1, 1, 2))
			x.happens(t, takes(1, 3, 3))
		}
		x.holds(t)
	}
	x.happens(t, takes(1, 1, 1000))
	x.happens(t, takes(1, 3, 1000))
	x.holds(t)
	for id, want := range map[int64]string{1: "one, two, three.", 3: "three, four, five."} {
		spoken, end := impl.Spoken(x.seats[1].came, id)
		if spoken != want || !end {
			t.Fatalf("%q was spoken, %v", spoken, end)
		}
		wentTo(t, x.g, 1, id, want, true)
		wentTo(t, x.g, 0, id, "", false)
	}
}

// isOwed asks how much of what was given was told, of one stream and of all.
func (x *script) isOwed(t *testing.T, seat int64, want map[int64]int64) {
	t.Helper()
	x.holds(t)
	for id, n := range want {
		if owed := impl.Owed(x.g.Seats[seat].Out, id); owed != n {
			t.Fatalf("%d of seat %d is sent %d bytes, not %d", id, seat, owed, n)
		}
	}
}

// A stream is sent just what its window lets, and all of them just what the connection lets.
func TestAStreamIsSentWhatItsWindowsLet(t *testing.T) {
	x := opened(t, 0, 1, 3, 5)
	long := strings.Repeat("0123456789", 100)
	for _, id := range []int64{1, 3, 5} {
		x.happens(t, gives(0, id, long, false))
	}
	x.isOwed(t, 0, map[int64]int64{1: 500, 3: 500, 5: 500})
	x.happens(t, comes(0, shown(windowOn(3, 300), windowOn(1, 1))))
	x.happens(t, flushes(0))
	x.isOwed(t, 0, map[int64]int64{1: 501, 3: 800, 5: 500})
	// The connection lets 2000 only, in the order of the streams.
	x.happens(t, comes(0, shown(windowOn(1, 100), windowOn(3, 200), windowOn(5, 400))))
	x.happens(t, flushes(0))
	x.isOwed(t, 0, map[int64]int64{1: 601, 3: 899, 5: 500})
	x.happens(t, comes(0, shown(windowOn(0, 151))))
	x.happens(t, flushes(0))
	x.isOwed(t, 0, map[int64]int64{1: 601, 3: 1000, 5: 550})
	// A lower first window takes back what was not used: 5 has 350 left of 400, and 300 of it go.
	x.happens(t, comes(0, shown(settleTo(200), windowOn(0, 9000))))
	x.happens(t, flushes(0))
	x.isOwed(t, 0, map[int64]int64{1: 601, 3: 1000, 5: 600})
	x.happens(t, comes(0, shown(settleTo(600))))
	x.happens(t, flushes(0))
	x.isOwed(t, 0, map[int64]int64{1: 701, 3: 1000, 5: 1000})
	x.isOwed(t, 1, map[int64]int64{1: 0, 3: 0, 5: 0})
}

// Grants that can't be taken, or come too late, let nothing more.
func TestGrantsThatLetNothing(t *testing.T) {
	x := opened(t, 0, 1, 3)
	x.happens(t, gives(0, 1, strings.Repeat("a", 900), false))
	x.happens(t, comes(0, shown(windowOn(3, top)))) // more than a window can be: the stream fails
	x.happens(t, gives(0, 3, "b", false))
	x.isOwed(t, 0, map[int64]int64{1: 500, 3: 0})
	x.happens(t, comes(0, shown(windowOn(0, top)))) // and so does the connection
	x.happens(t, comes(0, shown(windowOn(1, 400))))
	x.happens(t, flushes(0))
	x.isOwed(t, 0, map[int64]int64{1: 500, 3: 0})
	if !x.g.Seats[0].Conn.Dead {
		t.Fatal("the connection lives on")
	}
}
