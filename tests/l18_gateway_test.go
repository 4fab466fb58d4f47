package tests

import (
	"fmt"
	"math"
	"slices"
	"strings"
	"testing"

	"loop.example/g00296/impl"
)

// The Acts in few words, by the document's numbers.

func comes(seat int64, text string) impl.Act { return impl.Act{Kind: 1, Seat: seat, Text: text} }

func dials(seat, id int64, yes bool) impl.Act { return impl.Act{Kind: 2, Seat: seat, Id: id, Yes: yes} }

func takes(seat, id, n int64) impl.Act { return impl.Act{Kind: 3, Seat: seat, Id: id, N: n} }

func gives(seat, id int64, text string, end bool) impl.Act {
	return impl.Act{Kind: 4, Seat: seat, Id: id, Text: text, Yes: end}
}

func flushes(seat int64) impl.Act { return impl.Act{Kind: 5, Seat: seat} }

func ticks(n int64) impl.Act { return impl.Act{Kind: 6, N: n} }

func drains() impl.Act { return impl.Act{Kind: 7} }

func shown(frames ...impl.Frame) string { return shownAll(frames) }

func seatOf(c impl.Conn) impl.Seat { return impl.Seat{Conn: c} }

func flight(seat, id int64, name, text string) impl.Flight {
	return impl.Flight{Seat: seat, Id: id, Name: name, Text: text}
}

func dial(seat, id int64, name string) impl.Dial { return impl.Dial{Seat: seat, Id: id, Name: name} }

// freshGate is of the tenants of the bench.
func freshGate(seats int) impl.Gate {
	g := impl.Gate{Tenants: twoTenants()}
	for range seats {
		g.Seats = append(g.Seats, seatOf(freshConn(4)))
	}
	return g
}

// asking are the Fields of one who asks.
func asking(to, token string) []impl.Field { return list(field("to", to), field("token", token)) }

func annasToken() string { return tokenAsWritten("anna", 50, "k1") }

func bertsToken() string { return tokenAsWritten("bert", 50, "k2") }

// headBy opens a stream by the table that the Seat's connection has, so that it can be read there.
func headBy(g impl.Gate, seat, id int64, fields ...impl.Field) impl.Frame {
	block, _, _ := impl.Encoded(g.Seats[seat].Conn.InTable, fields)
	return headOn(id, block)
}

// busyGate has a Dial and Flights in two seats, with streams in each state, and a Flight of none.
func busyGate() impl.Gate {
	g := freshGate(2)
	g.Now = 20
	g.Tenants[0].Quota, g.Tenants[1].Quota = 3, 3
	g.Seats[0].Conn = fourStates()
	g.Seats[0].Out = shown(headOn(7, numbered(1)))
	c, other := freshConn(4), freshConn(4)
	for id := int64(1); id <= 5; id += 2 {
		c, _ = gotAsWritten(c, headOn(id, ""))
		c, _ = gotAsWritten(c, dataOn(id, "data"))
	}
	g.Seats[1].Conn, g.Seats[1].Rest = c, shown(dataOn(3, "amid"))[:9]
	other.Away = true
	g.Seats = append(g.Seats, seatOf(other))
	g.Dials = []impl.Dial{dial(1, 1, "anna"), dial(0, 5, "bert")}
	g.Flights = []impl.Flight{flight(0, 1, "bert", "went"), flight(1, 3, "anna", ""), flight(0, 7, "anna", "gone"), flight(0, 77, "bert", "none")}
	return g
}

// full has so many Dials and Flights, of streams that are used up and closed.
func full(g impl.Gate, dialCount, flightCount int) impl.Gate {
	g = copiedGate(g)
	last := &g.Seats[len(g.Seats)-1].Conn.Registry
	at := int64(len(g.Seats) - 1)
	last.Top = 999
	for id := range int64(dialCount) {
		g.Dials = append(g.Dials, dial(at, 2*id+1, "bert"))
	}
	for id := range int64(flightCount) {
		g.Flights = append(g.Flights, flight(at, 2*id+301, "bert", ""))
	}
	return g
}

func copiedGate(g impl.Gate) impl.Gate {
	g.Tenants, g.Seats = copiedTenants(g.Tenants), slices.Clone(g.Seats)
	for i, s := range g.Seats {
		g.Seats[i].Conn = copiedConn(s.Conn)
	}
	g.Dials, g.Flights = slices.Clone(g.Dials), slices.Clone(g.Flights)
	return g
}

// gateWith is the gate with something else about it.
func gateWith(g impl.Gate, change func(*impl.Gate)) impl.Gate {
	g = copiedGate(g)
	change(&g)
	return g
}

func sameSeat(a, b impl.Seat) bool {
	return a.Rest == b.Rest && a.Out == b.Out && a.Bad == b.Bad && sameConn(a.Conn, b.Conn)
}

func sameGate(a, b impl.Gate) bool {
	return a.Now == b.Now && a.Drained == b.Drained && slices.EqualFunc(a.Tenants, b.Tenants, sameTenant) &&
		slices.EqualFunc(a.Seats, b.Seats, sameSeat) && slices.Equal(a.Dials, b.Dials) && slices.Equal(a.Flights, b.Flights)
}

func isZeroGate(g impl.Gate) bool { return sameGate(g, impl.Gate{}) }

// briefGate tells a gate without thousands of bytes.
func briefGate(g impl.Gate) string {
	s := fmt.Sprintf("{now %d drained %v tenants %s dials %s", g.Now, g.Drained, cut(fmt.Sprint(g.Tenants), 400), cut(fmt.Sprint(g.Dials), 300))
	for _, f := range g.Flights[:min(len(g.Flights), 12)] {
		s += fmt.Sprintf(" <%d %d %s: %d bytes, %q>", f.Seat, f.Id, f.Name, len(f.Text), cut(f.Text, 60))
	}
	for _, x := range g.Seats {
		s += fmt.Sprintf("\n  bad %v rest %q out %d bytes, %q\n  %s", x.Bad, cut(x.Rest, 100), len(x.Out), cut(x.Out, 400), cut(brief(x.Conn), 1500))
	}
	return s + "}"
}

func briefAct(a impl.Act) string {
	return fmt.Sprintf("{kind %d seat %d id %d text %d bytes, %q n %d yes %v}", a.Kind, a.Seat, a.Id, len(a.Text), cut(a.Text, 200), a.N, a.Yes)
}

// gateAsWritten is what the chapter wants, want by want; each two Dials and Flights are held against each other.
func gateAsWritten(g impl.Gate) bool {
	if g.Now < 0 || g.Now > lastTime || !tenantsAsWritten(g.Tenants) || len(g.Seats) < 1 || len(g.Seats) > 4 {
		return false
	}
	for _, s := range g.Seats {
		if !connAsWritten(s.Conn) || len(s.Rest) > 2000 || len(s.Out) > 400000 {
			return false
		}
	}
	if len(g.Dials) > 100 || len(g.Flights) > 100 {
		return false
	}
	all := slices.Clone(g.Dials)
	for _, f := range g.Flights {
		if len(f.Text) > 1000000 {
			return false
		}
		all = append(all, dial(f.Seat, f.Id, f.Name))
	}
	for i, d := range all {
		named := slices.ContainsFunc(g.Tenants, func(x impl.Tenant) bool { return x.Name == d.Name })
		twice := slices.ContainsFunc(all[:i], func(e impl.Dial) bool { return e.Seat == d.Seat && e.Id == d.Id })
		if d.Seat < 0 || d.Seat >= int64(len(g.Seats)) || d.Id < 1 || !named || twice {
			return false
		}
	}
	return true
}

// acting is a gate to which something happens, as these tests read the chapter.
type acting struct {
	impl.Gate
	count int64
}

func (x *acting) tells(seat int64, c impl.Conn, told []impl.Frame) {
	s := &x.Seats[seat]
	s.Conn = c
	s.Out += shown(told...)
	x.count += int64(len(shown(told...)))
}

func (x *acting) replies(seat, id, code int64) {
	c, told := repliedAsWritten(x.Seats[seat].Conn, id, code)
	x.tells(seat, c, told)
}

func (x *acting) openOf(name string) int64 {
	n := int64(0)
	for i, s := range x.Seats {
		for _, d := range x.Dials {
			if d.Seat == int64(i) && d.Name == name && stateAsWritten(s.Conn.Registry, d.Id) != closed {
				n++
			}
		}
		for _, f := range x.Flights {
			if f.Seat == int64(i) && f.Name == name && stateAsWritten(s.Conn.Registry, f.Id) != closed {
				n++
			}
		}
	}
	return n
}

func (x *acting) hasDial(seat, id int64) bool {
	return slices.ContainsFunc(x.Dials, func(d impl.Dial) bool { return d.Seat == seat && d.Id == id })
}

func (x *acting) flightAt(seat, id int64) *impl.Flight {
	for i, f := range x.Flights {
		if f.Seat == seat && f.Id == id {
			return &x.Flights[i]
		}
	}
	return nil
}

func (x *acting) asks(seat, id int64) {
	values := map[string]string{}
	for _, f := range slices.Backward(flowIn(&x.Seats[seat].Conn, id).Fields) {
		values[f.Name] = f.Value
	}
	name, _, _ := readAsWritten(values["token"])
	code := admittedAsWritten(x.Tenants, values["token"], values["to"], x.Now, x.openOf(name))
	// A second Dial of a stream would make the gate a wrong one.
	if code == 200 && (len(x.Dials) == 100 || len(x.Flights) == 100 || x.hasDial(seat, id) || x.flightAt(seat, id) != nil) {
		code = 429
	}
	if code != 200 {
		x.replies(seat, id, code)
		return
	}
	x.Dials = append(x.Dials, dial(seat, id, name))
}

func (x *acting) come(seat int64, text string) {
	s := &x.Seats[seat]
	if s.Bad {
		return
	}
	// How frames are read is asked in the tests of chapter 7.
	frames, rest, right := impl.Frames(s.Rest + text)
	s.Rest = rest
	for _, f := range frames {
		known := len(s.Conn.Flows)
		c, told := gotAsWritten(s.Conn, f)
		x.tells(seat, c, told)
		if len(s.Conn.Flows) > known && maySendAsWritten(stateAsWritten(s.Conn.Registry, f.Stream)) {
			x.asks(seat, f.Stream)
		}
	}
	if right {
		return
	}
	s.Rest, s.Bad = "", true
	if !s.Conn.Dead {
		end := &telling{Conn: copiedConn(s.Conn)}
		end.connFails(erProtocol)
		x.tells(seat, end.Conn, end.told)
	}
}

// happenAsWritten leaves the gate as it is, with -1, by the one refusal at its end.
func happenAsWritten(g impl.Gate, a impl.Act) (impl.Gate, int64) {
	if !gateAsWritten(g) {
		return impl.Gate{}, -2
	}
	x := &acting{Gate: copiedGate(g)}
	if len(a.Text) <= 2000 && x.does(a) {
		return x.Gate, x.count
	}
	return copiedGate(g), -1
}

func (x *acting) does(a impl.Act) bool {
	switch a.Kind {
	case 6:
		if a.N < 1 || a.N > lastTime || x.Now+a.N > lastTime {
			return false
		}
		x.Now += a.N
		return true
	case 7:
		x.Drained = true
		for i := range x.Seats {
			x.Seats[i].Conn.Away = true
		}
		return true
	}
	if a.Seat < 0 || a.Seat >= int64(len(x.Seats)) || len(x.Seats[a.Seat].Out) > 200000 {
		return false
	}
	s, f := &x.Seats[a.Seat], x.flightAt(a.Seat, a.Id)
	switch {
	case a.Kind == 1:
		x.come(a.Seat, a.Text)
		return true
	case a.Kind == 2 && x.hasDial(a.Seat, a.Id):
		return x.answers(a)
	case a.Kind == 3 && f != nil && a.N >= 0:
		c, told, gone := tookAsWritten(s.Conn, a.Id, a.N)
		x.tells(a.Seat, c, told)
		f.Text += gone
		return len(f.Text) <= 1000000
	case a.Kind == 4 && f != nil:
		c, n := givenAsWritten(s.Conn, a.Id, a.Text, a.Yes)
		then, told := flushedAsWritten(c)
		x.tells(a.Seat, then, told)
		x.count = n
		return true
	case a.Kind == 5:
		c, told := flushedAsWritten(s.Conn)
		x.tells(a.Seat, c, told)
		return true
	}
	return false
}

func (x *acting) answers(a impl.Act) bool {
	at := slices.IndexFunc(x.Dials, func(d impl.Dial) bool { return d.Seat == a.Seat && d.Id == a.Id })
	if !a.Yes {
		x.Dials = slices.Delete(x.Dials, at, at+1)
		x.replies(a.Seat, a.Id, 502)
		return true
	}
	x.Flights = append(x.Flights, flight(a.Seat, a.Id, x.Dials[at].Name, ""))
	x.Dials = slices.Delete(x.Dials, at, at+1)
	x.replies(a.Seat, a.Id, 200)
	return len(x.Flights) <= 100
}

// happens asks for the gate then and the number, and, whatever is asked, that what was handed in is as it
// was, that what is answered is right where it was, and that what is refused changes nothing.
func happens(t *testing.T, g impl.Gate, a impl.Act, then impl.Gate, n int64) {
	t.Helper()
	was := copiedGate(g)
	got, count := impl.Happen(g, a)
	switch {
	case !sameGate(got, then) || count != n:
		t.Fatalf("%s in %s\nmade %d, %s\nnot %d, %s", briefAct(a), briefGate(was), count, briefGate(got), n, briefGate(then))
	case !sameGate(g, was):
		t.Fatalf("%s in %s changed it: %s", briefAct(a), briefGate(was), briefGate(g))
	case gateAsWritten(was) != impl.GateOk(got):
		t.Fatalf("%s in %s made %s, which is not right", briefAct(a), briefGate(was), briefGate(got))
	case count == -1 && !sameGate(got, was):
		t.Fatalf("%s in %s is refused, and made %s", briefAct(a), briefGate(was), briefGate(got))
	}
}

// refuses asks that nothing is done.
func refuses(t *testing.T, g impl.Gate, a impl.Act) {
	t.Helper()
	happens(t, g, a, g, -1)
}

// did has the gate behind an Act that is done as these tests read the chapter, beside the number.
func did(t *testing.T, g impl.Gate, a impl.Act) (impl.Gate, int64) {
	t.Helper()
	then, n := happenAsWritten(g, a)
	happens(t, g, a, then, n)
	return then, n
}

func isGateOk(t *testing.T, g impl.Gate, right bool) {
	t.Helper()
	if impl.GateOk(g) != right {
		t.Fatalf("GateOk(%s) is not %v", briefGate(g), right)
	}
}

func wentTo(t *testing.T, g impl.Gate, seat, id int64, text string, is bool) {
	t.Helper()
	if s, has := impl.WentTo(g, seat, id); s != text || has != is {
		t.Fatalf("WentTo(%s, %d, %d) is %q, %v, not %q, %v", briefGate(g), seat, id, cut(s, 300), has, cut(text, 300), is)
	}
}

// idsAround are those of the gate's Dials and Flights, and others.
func idsAround(g impl.Gate) []int64 {
	ids := []int64{-1, 0, 1, 2, 3, 5, 7, 9, 100001, math.MaxInt64, math.MinInt64}
	for _, d := range g.Dials[:min(len(g.Dials), 3)] {
		ids = append(ids, d.Id)
	}
	for _, f := range g.Flights[:min(len(g.Flights), 3)] {
		ids = append(ids, f.Id)
	}
	return ids
}

// textsToCome are whole frames, pieces of some, and what is none, as they may come to the Seat.
func textsToCome(g impl.Gate, seat int64) []string {
	texts := []string{"", "\x00", "\xff", allBytes(), strings.Repeat("\x00", 2000), strings.Repeat("\x00", 2001), shown(settled(), frame(5, 0, 0, "ping")), shown(dataOn(1, "data"))}
	if seat < 0 || seat >= int64(len(g.Seats)) {
		return texts
	}
	c := g.Seats[seat].Conn
	id := freshId(c.Registry)
	for _, token := range []string{annasToken(), bertsToken(), "anna.50.1", ""} {
		head := shown(headBy(g, seat, id, asking("a.x", token)...))
		texts = append(texts, head, head[:8], head+shown(dataOn(id, "first"), lastDataOn(1, "last"))+"\x00\x04\x01")
	}
	return append(texts, shown(dataOn(id, "x"), settled()), shown(settleTo(700), windowOn(0, 5))+"\xff\xff\xff\xff\xff\xff\xff"+shown(settled()))
}

// gateAllAsWritten lets Acts of each Kind happen to the gate, around its edges.
func gateAllAsWritten(t *testing.T, g impl.Gate) {
	t.Helper()
	isGateOk(t, g, gateAsWritten(g))
	for seat := range int64(len(g.Seats) + 2) {
		seat--
		for _, text := range textsToCome(g, seat) {
			did(t, g, comes(seat, text))
		}
		for _, id := range idsAround(g) {
			for _, yes := range []bool{false, true} {
				did(t, g, dials(seat, id, yes))
				for _, text := range []string{"", "\x00\xff", strings.Repeat("long", 500), strings.Repeat("long", 500) + "s"} {
					did(t, g, gives(seat, id, text, yes))
				}
			}
			for _, n := range []int64{-1, 0, 1, 3, 2000, math.MaxInt64, math.MinInt64} {
				did(t, g, takes(seat, id, n))
			}
		}
		did(t, g, flushes(seat))
		for _, kind := range []int64{0, 8, -1, math.MaxInt64, math.MinInt64} {
			did(t, g, impl.Act{Kind: kind, Seat: seat, Id: 1, N: 1})
		}
	}
	for _, n := range append([]int64{-1, 0, 1, lastTime - g.Now, lastTime - g.Now + 1}, farNumbers()...) {
		did(t, g, ticks(n))
	}
	did(t, g, drains())
}

func TestActsAreThoseOfTheDocument(t *testing.T) {
	kinds := []int64{impl.AcCome, impl.AcDial, impl.AcTake, impl.AcGive, impl.AcFlush, impl.AcTick, impl.AcDrain}
	if !slices.Equal(kinds, []int64{1, 2, 3, 4, 5, 6, 7}) {
		t.Fatal(kinds)
	}
}

func TestNewGate(t *testing.T) {
	lists := append(rightTenants(), wrongTenants()...)
	for i, list := range lists {
		for _, seats := range append([]int64{-1, 0, 1, 2, 3, 4, 5, 6}, farNumbers()...) {
			was := copiedTenants(list)
			g, is := impl.NewGate(list, seats)
			staysSame(t, list, was)
			right := tenantsAsWritten(list) && seats >= 1 && seats <= 4
			want := impl.Gate{}
			if right {
				want = freshGate(int(seats))
				want.Tenants = was
			}
			if is != right || !sameGate(g, want) || impl.GateOk(g) != right {
				t.Fatalf("NewGate of list %d and %d seats is %v, %s", i, seats, is, briefGate(g))
			}
		}
	}
}

// rightGates have each of their numbers and lists at its edges.
func rightGates() []impl.Gate {
	gates := []impl.Gate{freshGate(1), freshGate(2), freshGate(3), freshGate(4), busyGate()}
	changes := []func(*impl.Gate){
		func(g *impl.Gate) { g.Now = 0 }, func(g *impl.Gate) { g.Now = lastTime }, func(g *impl.Gate) { g.Now = lastTime - 1 },
		func(g *impl.Gate) { g.Drained = true }, func(g *impl.Gate) { g.Now = 49 }, func(g *impl.Gate) { g.Now = 50 },
		func(g *impl.Gate) { g.Seats[0].Rest = strings.Repeat("\x00", 2000) }, func(g *impl.Gate) { g.Seats[1].Rest = allBytes() },
		func(g *impl.Gate) { g.Seats[1].Rest = shown(settled(), dataOn(1, "whole")) },
		func(g *impl.Gate) { g.Seats[0].Out = strings.Repeat("o", 200000) }, func(g *impl.Gate) { g.Seats[0].Out = strings.Repeat("o", 200001) },
		func(g *impl.Gate) { g.Seats[1].Out = strings.Repeat("o", 400000) }, func(g *impl.Gate) { g.Seats[1].Bad = true },
		func(g *impl.Gate) { g.Seats[0].Bad, g.Seats[0].Rest = true, "rest" }, func(g *impl.Gate) { setDead(&g.Seats[0].Conn) },
		func(g *impl.Gate) { g.Seats[1].Conn.Dead = true }, func(g *impl.Gate) { g.Seats[1].Conn.Away = true },
		func(g *impl.Gate) { g.Flights[0].Text = strings.Repeat("t", 1000000) }, func(g *impl.Gate) { g.Flights[0].Text = strings.Repeat("t", 999998) },
		func(g *impl.Gate) { g.Dials, g.Flights = nil, nil }, func(g *impl.Gate) { g.Dials[0].Id = math.MaxInt64 },
		func(g *impl.Gate) { g.Tenants[0].Quota, g.Tenants[1].Quota = 0, 20 },
		func(g *impl.Gate) { g.Dials[1], g.Flights[1] = dial(2, 1, "bert"), flight(0, 3, "bert", "") },
		func(g *impl.Gate) { g.Dials[0] = dial(0, 11, "anna") }, func(g *impl.Gate) { g.Flights[3] = flight(0, 11, "bert", "") },
	}
	for _, change := range changes {
		gates = append(gates, gateWith(busyGate(), change))
	}
	return append(gates, full(freshGate(2), 99, 99), full(freshGate(2), 100, 0), full(freshGate(2), 0, 100), full(freshGate(2), 100, 100))
}

// wrongGates each have one part that is wrong, and no other.
func wrongGates() []impl.Gate {
	changes := []func(*impl.Gate){
		func(g *impl.Gate) { g.Now = -1 }, func(g *impl.Gate) { g.Now = lastTime + 1 },
		func(g *impl.Gate) { g.Now = math.MaxInt64 }, func(g *impl.Gate) { g.Now = math.MinInt64 },
		func(g *impl.Gate) { g.Tenants[0].Quota = 21 }, func(g *impl.Gate) { g.Tenants[1].Key = "" }, func(g *impl.Gate) { slices.Reverse(g.Tenants) },
		func(g *impl.Gate) { g.Seats, g.Dials, g.Flights = nil, nil, nil },
		func(g *impl.Gate) { g.Seats = append(g.Seats, g.Seats[2], g.Seats[2]) },
		func(g *impl.Gate) { g.Seats[0].Conn.Get = top + 1 }, func(g *impl.Gate) { g.Seats[2].Conn.First = -1 },
		func(g *impl.Gate) { g.Seats[1].Conn.Flows = g.Seats[1].Conn.Flows[1:] }, func(g *impl.Gate) { g.Seats[1].Conn.Registry.Limit = 2 },
		func(g *impl.Gate) { g.Seats[0].Rest = strings.Repeat("\x00", 2001) }, func(g *impl.Gate) { g.Seats[2].Rest = strings.Repeat("r", 2001) },
		func(g *impl.Gate) { g.Seats[0].Out = strings.Repeat("o", 400001) }, func(g *impl.Gate) { g.Seats[2].Out = strings.Repeat("o", 400001) },
		func(g *impl.Gate) { g.Seats = g.Seats[:1]; g.Dials = g.Dials[1:]; g.Flights = g.Flights[:2] },
		func(g *impl.Gate) { g.Dials = append(g.Dials, g.Dials[0]) }, func(g *impl.Gate) { g.Dials = append(g.Dials, dial(1, 1, "bert")) },
		func(g *impl.Gate) { g.Flights = append(g.Flights, g.Flights[0]) },
		func(g *impl.Gate) { g.Flights = append(g.Flights, flight(0, 1, "anna", "")) },
		func(g *impl.Gate) { g.Dials = append(g.Dials, dial(0, 1, "bert")) }, func(g *impl.Gate) { g.Flights = append(g.Flights, flight(1, 1, "anna", "")) },
		func(g *impl.Gate) { g.Flights[0].Text = strings.Repeat("t", 1000001) }, func(g *impl.Gate) { g.Flights[3].Text = strings.Repeat("t", 1000001) },
	}
	for _, number := range []int64{-1, 3, 4, math.MaxInt64, math.MinInt64} {
		changes = append(changes, func(g *impl.Gate) { g.Dials[1].Seat = number }, func(g *impl.Gate) { g.Flights[0].Seat = number })
	}
	for _, number := range []int64{0, -1, math.MinInt64} {
		changes = append(changes, func(g *impl.Gate) { g.Dials[0].Id = number }, func(g *impl.Gate) { g.Flights[3].Id = number })
	}
	for _, name := range []string{"", "carl", "ann", "annaa", "Anna", "\x00", "\xff"} {
		changes = append(changes, func(g *impl.Gate) { g.Dials[0].Name = name }, func(g *impl.Gate) { g.Flights[2].Name = name })
	}
	gates := []impl.Gate{{}, full(freshGate(2), 101, 0), full(freshGate(2), 0, 101), full(freshGate(2), 101, 101)}
	for _, change := range changes {
		gates = append(gates, gateWith(busyGate(), change))
	}
	return gates
}

func TestGateOk(t *testing.T) {
	for _, g := range rightGates() {
		isGateOk(t, g, true)
	}
	for i, g := range wrongGates() {
		if gateAsWritten(g) {
			t.Fatalf("wrong gate %d is right as these tests read the chapter", i)
		}
		isGateOk(t, g, false)
	}
}

func TestOfAGateThatIsNotRight(t *testing.T) {
	for i, g := range wrongGates() {
		was := copiedGate(g)
		acts := []impl.Act{{}, comes(0, ""), comes(1, shown(settleTo(5))), dials(1, 1, true), takes(0, 1, 2), gives(0, 1, "text", true), flushes(0), ticks(1), drains(),
			ticks(-1), flushes(-1), takes(0, 1, -1), comes(0, strings.Repeat("l", 2001))}
		for _, a := range acts {
			if then, n := impl.Happen(g, a); n != -2 || !isZeroGate(then) {
				t.Fatalf("wrong gate %d: %s made %d, %s", i, briefAct(a), n, briefGate(then))
			}
		}
		for _, list := range [][]impl.Act{nil, acts[:1], acts, slices.Repeat(acts, 20)} {
			if then, numbers := impl.Play(g, list); len(numbers) != 0 || !isZeroGate(then) {
				t.Fatalf("wrong gate %d: Play made %v, %s", i, numbers, briefGate(then))
			}
		}
		for _, f := range append(slices.Clone(g.Flights[:min(len(g.Flights), 5)]), flight(0, 1, "", "")) {
			wentTo(t, g, f.Seat, f.Id, "", false)
		}
		if !sameGate(g, was) {
			t.Fatalf("wrong gate %d was changed: %s", i, briefGate(g))
		}
	}
}

func TestRightGatesAsWritten(t *testing.T) {
	for _, g := range rightGates() {
		gateAllAsWritten(t, g)
	}
}

// From its first byte to the end of both sides: each answer is written out.
func TestAWholeWay(t *testing.T) {
	g := freshGate(1)
	head := shown(headBy(g, 0, 1, asking("b.y", annasToken())...))
	g, n := did(t, g, comes(0, head[:1]))
	g, n2 := did(t, g, comes(0, head[1:len(head)-1]))
	if n != 0 || n2 != 0 || len(g.Dials) != 0 || g.Seats[0].Rest != head[:len(head)-1] {
		t.Fatal(n, n2, briefGate(g))
	}
	g, n = did(t, g, comes(0, head[len(head)-1:]))
	if n != 0 || !slices.Equal(g.Dials, []impl.Dial{dial(0, 1, "anna")}) || g.Seats[0].Rest != "" || g.Seats[0].Out != "" {
		t.Fatal(n, briefGate(g))
	}
	refuses(t, g, takes(0, 1, 1))
	refuses(t, g, gives(0, 1, "early", false))
	wentTo(t, g, 0, 1, "", false)
	g, n = did(t, g, comes(0, shown(dataOn(1, "hello, "))))
	g, n2 = did(t, g, dials(0, 1, true))
	reply := shown(headOn(1, whole(field(":status", "200"))))
	if n != 0 || n2 != int64(len(reply)) || g.Seats[0].Out != reply || len(g.Dials) != 0 || !slices.Equal(g.Flights, []impl.Flight{flight(0, 1, "anna", "")}) {
		t.Fatal(n, n2, briefGate(g))
	}
	wentTo(t, g, 0, 1, "", true)
	g, n = did(t, g, takes(0, 1, 3))
	back := shown(windowOn(1, 3), windowOn(0, 3))
	if wentTo(t, g, 0, 1, "hel", true); n != 20 || g.Seats[0].Out != reply+back {
		t.Fatal(n, briefGate(g))
	}
	g, _ = did(t, g, comes(0, shown(lastDataOn(1, "you"))))
	g, _ = did(t, g, takes(0, 1, 100))
	wentTo(t, g, 0, 1, "hello, you", true)
	g, n = did(t, g, gives(0, 1, "to ", false))
	g, n2 = did(t, g, gives(0, 1, "you, too", true))
	said := shown(dataOn(1, "to "), lastDataOn(1, "you, too"))
	if n != 3 || n2 != 8 || !strings.HasSuffix(g.Seats[0].Out, said) || stateAsWritten(g.Seats[0].Conn.Registry, 1) != closed {
		t.Fatal(n, n2, briefGate(g))
	}
	// What went can still be asked for, and so can the Flight, of which nothing more comes.
	g, n = did(t, g, takes(0, 1, 100))
	g, n2 = did(t, g, gives(0, 1, "more", false))
	if wentTo(t, g, 0, 1, "hello, you", true); n != 0 || n2 != 0 {
		t.Fatal(n, n2, briefGate(g))
	}
}

func TestBytesComeInWhateverPieces(t *testing.T) {
	first := freshGate(1)
	head := headBy(first, 0, 1, asking("a.x", annasToken())...)
	all := shown(frame(5, 0, 0, "ping"), head, dataOn(1, "some data"), frame(1, 2, 1, "\x02pad\x00\x00"), settleTo(300), settled(), windowOn(1, 7), lastDataOn(1, ""))
	want, count := did(t, first, comes(0, all))
	if want.Seats[0].Rest != "" || count != int64(len(want.Seats[0].Out)) || len(want.Dials) != 1 {
		t.Fatal(count, briefGate(want))
	}
	for at := range len(all) + 1 {
		g, n := did(t, first, comes(0, all[:at]))
		g, m := did(t, g, comes(0, all[at:]))
		if !sameGate(g, want) || n+m != count {
			t.Fatal(at, n, m, briefGate(g))
		}
	}
	g, sum := first, int64(0)
	for i := range len(all) {
		then, n := did(t, g, comes(0, all[i:i+1]))
		g, sum = then, sum+n
	}
	if !sameGate(g, want) || sum != count {
		t.Fatal(sum, briefGate(g))
	}
}

func TestTextOfAnAct(t *testing.T) {
	g := busyGate()
	for kind := range int64(10) {
		for seat := range int64(3) {
			a := impl.Act{Kind: kind, Seat: seat, Id: 1, N: 1, Yes: true}
			a.Text = strings.Repeat("\x00", 2000)
			did(t, g, a)
			a.Text += "\x00"
			refuses(t, g, a)
		}
	}
	// Of just so many bytes all are read: 285 frames, and five bytes of the next.
	whole := strings.Repeat(shown(settled()), 285) + "\x00\x00\x04\x00\x00"
	then, n := did(t, g, comes(2, whole))
	if n != 0 || then.Seats[2].Rest != "\x00\x00\x04\x00\x00" || then.Seats[2].Bad || len(whole) != 2000 {
		t.Fatal(n, briefGate(then))
	}
	// A rest of 2000 bytes that holds frames is read with what comes, to one that is short.
	g.Seats[2].Rest = whole
	if then, n = did(t, g, comes(2, "\x00\x00"+whole[:1998])); n != 0 || then.Seats[2].Rest != "\x00\x00\x04" || then.Seats[2].Bad {
		t.Fatal(n, briefGate(then))
	}
}

// What is no frame makes the seat Bad, whatever came ahead of it, and whatever its connection is.
func TestBytesThatAreNoFrame(t *testing.T) {
	none := []string{"\xff\xff\xff\xff\xff\xff\xff", "\x00\x00\x00\x00\x00\x00\x00", headOf(1001, 1, 0, 1), headOf(0, 1, 0, 0), headOf(2, 4, 0, 0), headOf(0, 8, 0, 0), frameText(1, 2, 1, "\x05pad"), headOf(3, 7, 0, 0) + "\x00\x00\x00"}
	for _, text := range none {
		for _, ahead := range []string{"", shown(settleTo(9), dataOn(1, "up"))} {
			for _, behind := range []string{"", shown(settleTo(8)), strings.Repeat("b", 1900)} {
				g := busyGate()
				then, n := did(t, g, comes(0, ahead+text+behind))
				s := then.Seats[0]
				if !s.Bad || s.Rest != "" || !s.Conn.Dead || !strings.HasSuffix(s.Out, shown(awayWith(erProtocol))) || n != int64(len(s.Out)-len(g.Seats[0].Out)) {
					t.Fatal(n, briefGate(then))
				}
				for _, f := range s.Conn.Flows {
					if !f.Tunnel.Up.Broken || !f.Tunnel.Down.Broken {
						t.Fatal(briefGate(then))
					}
				}
				passedOver(t, then, 0)
			}
		}
	}
}

func frameText(kind, flags, stream int64, body string) string {
	return headOf(len(body), kind, flags, stream) + body
}

// passedOver asks that what comes to a Bad seat changes nothing, but is no refusal.
func passedOver(t *testing.T, g impl.Gate, seat int64) {
	t.Helper()
	for _, text := range append(textsToCome(g, seat)[:4], shown(settleTo(5)), shown(headOn(9999, "")), "\xff\xff\xff\xff\xff\xff\xff", strings.Repeat("l", 2000)) {
		happens(t, g, comes(seat, text), g, 0)
	}
	refuses(t, g, comes(seat, strings.Repeat("l", 2001)))
}

func TestASeatThatIsBad(t *testing.T) {
	for _, dead := range []bool{false, true} {
		g := gateWith(busyGate(), func(g *impl.Gate) {
			g.Seats[0].Bad, g.Seats[0].Rest, g.Seats[0].Conn.Dead = true, "rest", dead
		})
		passedOver(t, g, 0)
		// All else it does.
		_, n := did(t, g, dials(0, 5, true))
		_, m := did(t, g, takes(0, 1, 2))
		_, given := did(t, g, gives(0, 1, "more", false))
		if !dead && (n != 0 || m != 20 || given != 4) || dead && (n != 0 || m != 0 || given != 0) {
			t.Fatal(n, m, given)
		}
		did(t, g, flushes(0))
	}
}

// A connection that is Dead tells nothing, but its seat still keeps what is no whole frame, and becomes Bad.
func TestASeatWhoseConnectionIsDead(t *testing.T) {
	g := freshGate(1)
	g, n := did(t, g, comes(0, shown(dataOn(5, "x"))+"\x00\x04\x01"))
	if n != 11 || !g.Seats[0].Conn.Dead || g.Seats[0].Bad || g.Seats[0].Rest != "\x00\x04\x01" {
		t.Fatal(n, briefGate(g))
	}
	g, n = did(t, g, comes(0, "\x00\x00\x00\x01data"+shown(frame(5, 0, 0, "ping"), headOn(1, ""))+"\x00"))
	if n != 0 || g.Seats[0].Rest != "\x00" || g.Seats[0].Bad {
		t.Fatal(n, briefGate(g))
	}
	g, n = did(t, g, comes(0, "\xff\xff\xff\xff\xff\xff"))
	if n != 0 || g.Seats[0].Rest != "" || !g.Seats[0].Bad || len(g.Seats[0].Out) != 11 {
		t.Fatal(n, briefGate(g))
	}
	// It dies of a frame, and behind that comes what is none: there is one FrAway.
	g, n = did(t, freshGate(1), comes(0, shown(dataOn(5, "x"))+"\xff\xff\xff\xff\xff\xff\xff"))
	if n != 11 || !g.Seats[0].Bad || g.Seats[0].Out != shown(awayWith(erProtocol)) {
		t.Fatal(n, briefGate(g))
	}
}

// replyBy is the reply with this code by the table that the connection has for what it tells.
func replyBy(c impl.Conn, id, code int64) string {
	parts, _ := encodedAsWritten(c.OutTable, list(field(":status", fmt.Sprint(code))))
	if code == 200 {
		return shown(headOn(id, parts[0]))
	}
	return shown(lastHeadOn(id, parts[0]))
}

// replyTo is a first reply.
func replyTo(id, code int64) string { return replyBy(freshConn(0), id, code) }

// asks asks for what becomes of one who asks: of 200 a Dial, else the reply and none.
func asks(t *testing.T, g impl.Gate, seat, id int64, code int64, fields ...impl.Field) impl.Gate {
	t.Helper()
	then, n := did(t, g, comes(seat, shown(headBy(g, seat, id, fields...))))
	told := then.Seats[seat].Out[len(g.Seats[seat].Out):]
	name, _, _ := readAsWritten(valueOf(fields, "token"))
	dialed := slices.Contains(then.Dials, dial(seat, id, name))
	if code == 200 && (n != 0 || told != "" || !dialed || len(then.Dials) != len(g.Dials)+1) {
		t.Fatalf("%v is not let in: %d, %s", fields, n, briefGate(then))
	}
	if code != 200 && (n != int64(len(told)) || told != replyBy(g.Seats[seat].Conn, id, code) || !slices.Equal(then.Dials, g.Dials)) {
		t.Fatalf("%v is not told %d: %d, %s", fields, code, n, briefGate(then))
	}
	return then
}

func valueOf(fields []impl.Field, name string) string {
	for _, f := range fields {
		if f.Name == name {
			return f.Value
		}
	}
	return ""
}

func TestWhoAsks(t *testing.T) {
	g := freshGate(2)
	anna := annasToken()
	asks(t, g, 0, 1, 200, asking("a.x", anna)...)
	asks(t, g, 1, 3, 200, asking("b.y", anna)...)
	asks(t, g, 0, 99999, 200, asking("anything", bertsToken())...)
	asks(t, g, 0, 1, 200, field("token", anna), field("else", "x"), field("to", "a.x"))
	asks(t, g, 0, 1, 401)
	asks(t, g, 0, 1, 401, field("to", "a.x"))
	asks(t, g, 0, 1, 401, asking("a.x", "")...)
	asks(t, g, 0, 1, 403, field("token", anna))
	asks(t, g, 0, 1, 403, asking("", anna)...)
	asks(t, g, 0, 1, 403, asking("z", anna)...)
	asks(t, g, 0, 1, 401, field("Token", anna), field("to", "a.x"))
	asks(t, g, 0, 1, 403, field("token", anna), field("To", "a.x"))
	asks(t, g, 0, 1, 401, asking("a.x", tokenAsWritten("anna", 50, "k2"))...)
	asks(t, g, 0, 1, 401, asking("a.x", tokenAsWritten("carl", 50, "k1"))...)
	asks(t, g, 0, 1, 401, asking("a.x", anna+"0")...)
	asks(t, g, 0, 1, 401, asking("a.x", allBytes()[200:])...)
	// Of two Fields with one Name it is the first.
	asks(t, g, 0, 1, 200, field("to", "a.x"), field("to", "z"), field("token", anna), field("token", ""))
	asks(t, g, 0, 1, 403, field("to", "z"), field("to", "a.x"), field("token", anna))
	asks(t, g, 0, 1, 401, field("to", "a.x"), field("token", ""), field("token", anna))
	asks(t, gateWith(g, func(g *impl.Gate) { g.Tenants = nil }), 0, 1, 401, asking("a.x", anna)...)
}

func TestATokenThatLasts(t *testing.T) {
	for _, now := range []int64{0, 1, 49, 50, 51, lastTime - 1, lastTime} {
		g := gateWith(freshGate(1), func(g *impl.Gate) { g.Now = now })
		for _, until := range []int64{now - 1, now, now + 1, lastTime} {
			if until < 0 || until > lastTime {
				continue
			}
			code := int64(401)
			if until > now {
				code = 200
			}
			asks(t, g, 0, 1, code, asking("a.x", tokenAsWritten("anna", until, "k1"))...)
		}
	}
	// It lasts until the tick that ends it, and whoever was let in stays.
	g := asks(t, gateWith(freshGate(2), func(g *impl.Gate) { g.Now = 48 }), 0, 1, 200, asking("a.x", bertsToken())...)
	g, _ = did(t, g, ticks(1))
	g = asks(t, g, 1, 1, 200, asking("a.x", bertsToken())...)
	g, _ = did(t, g, ticks(1))
	g = asks(t, g, 0, 3, 401, asking("a.x", bertsToken())...)
	if g, n := did(t, g, dials(0, 1, true)); n < 8 || len(g.Flights) != 1 {
		t.Fatal(n, briefGate(g))
	}
}

func TestHeadsThatOpenNothingDoNotAsk(t *testing.T) {
	fields := asking("a.x", bertsToken())
	g := asks(t, freshGate(2), 0, 1, 200, fields...)
	// Once more on a stream that is open: it fails; and on one that is closed: nothing.
	then, n := did(t, g, comes(0, shown(headBy(g, 0, 1, fields...))))
	if n != 8 || len(then.Dials) != 1 {
		t.Fatal(n, briefGate(then))
	}
	if again, n := did(t, then, comes(0, shown(headBy(then, 0, 1, fields...)))); n != 0 || !sameGate(again, then) {
		t.Fatal(n, briefGate(again))
	}
	// A fifth one is refused, and so is each one of a connection that is Away.
	g = gateWith(freshGate(1), func(g *impl.Gate) { g.Tenants[1].Quota = 20 })
	for id := int64(1); id < 9; id += 2 {
		g = asks(t, g, 0, id, 200, fields...)
	}
	then, _ = did(t, g, comes(0, shown(headBy(g, 0, 9, fields...))))
	if then.Seats[0].Out != shown(resetOn(9, erRefused)) || len(then.Dials) != 4 {
		t.Fatal(briefGate(then))
	}
	g, n = did(t, freshGate(1), comes(0, shown(awayWith(0))))
	then, _ = did(t, g, comes(0, shown(headBy(g, 0, 1, fields...))))
	if n != 0 || then.Seats[0].Out != shown(resetOn(1, erRefused)) || len(then.Dials) != 0 || len(then.Seats[0].Conn.Flows) != 1 {
		t.Fatal(n, briefGate(then))
	}
	// An even number, and a block that is none: the connection fails, and nobody asks.
	for _, f := range []impl.Frame{headBy(g, 0, 2, fields...), headOn(1, "\x00")} {
		if then, n := did(t, freshGate(1), comes(0, shown(f))); n != 11 || !then.Seats[0].Conn.Dead || len(then.Dials) != 0 {
			t.Fatal(n, briefGate(then))
		}
	}
}

// A head that ends is answered all the same, for this end may still send.
func TestAHeadThatEndsAsksToo(t *testing.T) {
	for _, token := range []string{bertsToken(), ""} {
		g := freshGate(1)
		f := headBy(g, 0, 1, asking("a.x", token)...)
		f.Flags = 1
		then, n := did(t, g, comes(0, shown(f)))
		if token != "" && (n != 0 || len(then.Dials) != 1) || token == "" && (then.Seats[0].Out != replyTo(1, 401) || stateAsWritten(then.Seats[0].Conn.Registry, 1) != closed) {
			t.Fatal(n, briefGate(then))
		}
		did(t, then, dials(0, 1, true))
		did(t, then, dials(0, 1, false))
	}
}
