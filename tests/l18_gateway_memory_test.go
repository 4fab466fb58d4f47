package tests

import (
	"slices"
	"strings"
	"testing"

	"loop.example/g00296/impl"
)

// watchedGate has all texts over buffers, and all lists amidst others that show a write beside them.
type watchedGate struct {
	watched
	given   impl.Gate
	tenants *watchedTenants
	conns   []*watchedConn
	seats   [2][]impl.Seat
	dials   [2][]impl.Dial
	flights [2][]impl.Flight
}

func watchGate(g impl.Gate) *watchedGate {
	w := &watchedGate{given: g, tenants: watch(g.Tenants)}
	w.given.Tenants = w.tenants.given
	var seats []impl.Seat
	for _, s := range g.Seats {
		c := watchConn(s.Conn)
		w.conns = append(w.conns, c)
		seats = append(seats, impl.Seat{Conn: c.given, Rest: w.text(s.Rest), Out: w.text(s.Out), Bad: s.Bad})
	}
	w.given.Seats, w.seats = beside(seats, impl.Seat{Rest: "ahead"}, impl.Seat{Rest: "behind"})
	var waiting []impl.Dial
	for _, d := range g.Dials {
		waiting = append(waiting, dial(d.Seat, d.Id, w.text(d.Name)))
	}
	w.given.Dials, w.dials = beside(waiting, dial(71, 72, "ahead"), dial(73, 74, "behind"))
	var flying []impl.Flight
	for _, f := range g.Flights {
		flying = append(flying, flight(f.Seat, f.Id, w.text(f.Name), w.text(f.Text)))
	}
	w.given.Flights, w.flights = beside(flying, flight(75, 76, "ahead", "a"), flight(77, 78, "behind", "b"))
	return w
}

func (w *watchedGate) stays(t *testing.T, g impl.Gate) {
	t.Helper()
	w.stay(t)
	w.tenants.stays(t, g.Tenants)
	for i, c := range w.conns {
		c.stays(t, g.Seats[i].Conn)
	}
	if !sameGate(w.given, g) || !slices.EqualFunc(w.seats[0], w.seats[1], sameSeat) || !slices.Equal(w.dials[0], w.dials[1]) || !slices.Equal(w.flights[0], w.flights[1]) {
		t.Fatalf("%s became %s", briefGate(g), briefGate(w.given))
	}
}

// changeAll writes into all that was handed in.
func (w *watchedGate) changeAll() {
	w.change()
	w.tenants.change()
	for i := range w.tenants.all {
		clear(w.tenants.lists[i])
		w.tenants.all[i] = tenant("changed", "c", -1)
	}
	for _, c := range w.conns {
		c.changeAll()
	}
	for i := range w.seats[0] {
		w.seats[0][i] = impl.Seat{Rest: "changed"}
	}
	for i := range w.dials[0] {
		w.dials[0][i] = dial(-1, -2, "changed")
	}
	for i := range w.flights[0] {
		w.flights[0][i] = flight(-3, -4, "changed", "c")
	}
}

func gateSpans(g impl.Gate, numbers []int64) [][2]uintptr {
	all := [][2]uintptr{spanOf(g.Tenants), spanOf(g.Seats), spanOf(g.Dials), spanOf(g.Flights), spanOf(numbers)}
	for _, x := range g.Tenants {
		all = append(all, spanOf(x.List))
	}
	for _, s := range g.Seats {
		all = append(all, connSpans(s.Conn, nil)...)
	}
	return all
}

// gateTexts are those in which memory could be shared.
func gateTexts(g impl.Gate) []string {
	var all []string
	for _, x := range g.Tenants {
		all = append(append(all, x.Name, x.Key), x.List...)
	}
	for _, s := range g.Seats {
		all = append(connTexts(s.Conn, nil, all...), s.Rest, s.Out)
	}
	for _, d := range g.Dials {
		all = append(all, d.Name)
	}
	for _, f := range g.Flights {
		all = append(all, f.Name, f.Text)
	}
	return slices.DeleteFunc(all, func(s string) bool { return len(s) < 2 })
}

// isApart asks that an answer shares no memory with what was handed in, nor two lists or texts of it with each other.
func (w *watchedGate) isApart(t *testing.T, what string, g impl.Gate, numbers []int64) {
	t.Helper()
	texts := gateTexts(g)
	w.partsFrom(t, what, texts)
	w.tenants.apartFrom(t, texts...)
	for _, c := range w.conns {
		c.apartFrom(t, texts...)
	}
	spans, given := gateSpans(g, numbers), gateSpans(w.given, nil)
	for i, a := range spans {
		for _, b := range slices.Concat(spans[:i], given) {
			if meet(a, b) {
				t.Fatalf("%s: lists of %s share memory", what, briefGate(g))
			}
		}
	}
}

// scribbleGate writes into all lists of an answer.
func scribbleGate(g impl.Gate, numbers []int64) {
	for i := range numbers {
		numbers[i] = -9
	}
	for i, x := range g.Tenants {
		clear(x.List)
		g.Tenants[i] = tenant("scribbled", "s", -1)
	}
	for i, s := range g.Seats {
		scribble(s.Conn, nil)
		g.Seats[i] = impl.Seat{Out: "scribbled"}
	}
	for i := range g.Dials {
		g.Dials[i] = dial(-1, -2, "scribbled")
	}
	for i := range g.Flights {
		g.Flights[i] = flight(-1, -2, "scribbled", "s")
	}
}

// memoryGates have lists and texts of all kinds, right and wrong.
func memoryGates() []impl.Gate {
	busy := gateWith(busyGate(), func(g *impl.Gate) {
		g.Seats[0].Rest, g.Seats[2].Out = shown(dataOn(1, "begun"))[:9], "something was told"
		g.Seats[1].Rest, g.Seats[1].Conn.Flows[1].Tunnel.Down.Bytes = "", strings.Repeat("down", 100)
	})
	return []impl.Gate{
		freshGate(1), freshGate(4), busy,
		gateWith(busy, func(g *impl.Gate) { g.Seats[0].Bad, g.Seats[1].Conn.Dead = true, true }),
		gateWith(busy, func(g *impl.Gate) { g.Flights[0].Text = strings.Repeat("t", lastTime) }),
		gateWith(busy, func(g *impl.Gate) { g.Seats[1].Out = strings.Repeat("o", 200001) }),
		full(busy, 98, 96),
		gateWith(busy, func(g *impl.Gate) { g.Now = -1 }), gateWith(busy, func(g *impl.Gate) { g.Dials[0].Name = "carl" }),
		gateWith(busy, func(g *impl.Gate) { g.Seats[2].Conn.Get = top + 1 }), gateWith(busy, func(g *impl.Gate) { slices.Reverse(g.Tenants) }),
	}
}

// memoryActs are of each Kind, done and refused.
func memoryActs(g impl.Gate) []impl.Act {
	acts := []impl.Act{{}, ticks(3), ticks(0), drains(), comes(7, "none")}
	for seat := range int64(len(g.Seats)) {
		id := freshId(g.Seats[seat].Conn.Registry)
		head := shown(headBy(g, int64(seat), id, asking("a.x", bertsToken())...))
		refused := shown(headBy(g, int64(seat), id, asking("elsewhere", annasToken())...))
		data := shown(dataOn(1, strings.Repeat("data", 30)))
		acts = append(acts, comes(seat, ""), comes(seat, "\x00\x05\x01\x00"), comes(seat, head), comes(seat, head+data+"\x00\x07\x01"), comes(seat, refused), comes(seat, strings.Repeat("\xff", 30)))
		acts = append(acts, flushes(seat), comes(seat, strings.Repeat("l", 2001)), comes(seat, data+data+shown(frame(5, 0, 0, "ping"), settleTo(70))))
		for _, stream := range []int64{1, 3, 5, 7} {
			acts = append(acts, dials(seat, stream, true), dials(seat, stream, false), takes(seat, stream, 2), takes(seat, stream, 900), takes(seat, stream, -1),
				gives(seat, stream, "", true), gives(seat, stream, strings.Repeat("give", 200), false), gives(seat, stream, strings.Repeat("more", 500), true))
		}
	}
	return acts
}

// over has the Act's Text over a buffer, too.
func (w *watched) over(a impl.Act) impl.Act {
	a.Text = w.text(a.Text)
	return a
}

func TestGateArgumentsStayAndAnswersAreNewMemory(t *testing.T) {
	for _, g := range memoryGates() {
		for _, a := range memoryActs(g) {
			w := watchGate(g)
			then, _ := impl.Happen(w.given, w.over(a))
			w.isApart(t, briefAct(a), then, nil)
			w.stays(t, g)
			scribbleGate(then, nil)
			w.stays(t, g)
		}
		w := watchGate(g)
		impl.GateOk(w.given)
		for _, f := range g.Flights {
			text, _ := impl.WentTo(w.given, f.Seat, f.Id)
			w.partsFrom(t, "WentTo", slices.DeleteFunc([]string{text}, func(s string) bool { return len(s) < 2 }))
		}
		w.stays(t, g)
	}
}

func TestPlayArgumentsStayAndAnswersAreNewMemory(t *testing.T) {
	for _, g := range memoryGates() {
		acts := memoryActs(g)
		for _, list := range [][]impl.Act{nil, acts[:1], acts[:min(len(acts), 200)], slices.Repeat(acts, 9)} {
			w := watchGate(g)
			var watched []impl.Act
			for _, a := range list {
				watched = append(watched, w.over(a))
			}
			given, all := beside(watched, impl.Act{Kind: 71}, impl.Act{Kind: 72})
			then, numbers := impl.Play(w.given, given)
			w.isApart(t, "Play", then, numbers)
			w.stays(t, g)
			scribbleGate(then, numbers)
			w.stays(t, g)
			if !slices.Equal(all[0], all[1]) {
				t.Fatalf("the Acts became %v", all[0])
			}
		}
	}
}

// What was answered stays when what was handed in is changed later, down to the bytes of its texts, and
// when another answer to the same is.
func TestGateAnswersStayWhenTheArgumentsAreChanged(t *testing.T) {
	for _, g := range memoryGates() {
		for _, a := range memoryActs(g) {
			w := watchGate(g)
			over := w.over(a)
			then, n := impl.Happen(w.given, over)
			other, _ := impl.Happen(w.given, over)
			played, numbers := impl.Play(w.given, []impl.Act{over})
			text, is := impl.WentTo(w.given, 0, 7)
			scribbleGate(other, nil)
			w.changeAll()
			want, count := happenAsWritten(g, a)
			if !sameGate(then, want) || n != count || !sameGate(played, want) || (count == -2) != (len(numbers) == 0) {
				t.Fatalf("%s in %s became %d, %s\n%v, %s", briefAct(a), briefGate(g), n, briefGate(then), numbers, briefGate(played))
			}
			if wantText, wantIs := impl.WentTo(g, 0, 7); text != wantText || is != wantIs {
				t.Fatalf("WentTo became %q, %v", text, is)
			}
		}
	}
}

func TestNewGateIsNewMemory(t *testing.T) {
	for seats := range int64(6) {
		for _, tenantList := range [][]impl.Tenant{nil, twoTenants(), someTenants(8), someTenants(9)} {
			w := watch(tenantList)
			g, is := impl.NewGate(w.given, seats)
			w.stays(t, tenantList)
			w.apartFrom(t, gateTexts(g)...)
			spans := gateSpans(g, nil)
			for i, a := range spans {
				for _, b := range append(spans[:i:i], gateSpans(impl.Gate{Tenants: w.given}, nil)...) {
					if meet(a, b) {
						t.Fatalf("lists of %s share memory", briefGate(g))
					}
				}
			}
			// Nor does a later change of what was handed in change it, nor one seat the other.
			w.change()
			for i := range w.given {
				clear(w.given[i].List)
				w.given[i] = impl.Tenant{}
			}
			if want, wantIs := impl.NewGate(tenantList, seats); is != wantIs || !sameGate(g, want) {
				t.Fatalf("%d seats became %s", seats, briefGate(g))
			}
		}
	}
	g, _ := impl.NewGate(twoTenants(), 2)
	then, _ := impl.Happen(g, comes(0, shown(headBy(g, 0, 1, asking("b", bertsToken())...))))
	if !sameSeat(then.Seats[1], freshGate(2).Seats[1]) || !sameGate(g, freshGate(2)) {
		t.Fatal(briefGate(then))
	}
}

// A call hangs on what it is given alone: what was asked ahead of it, or is asked beside it, does not change it.
func TestGatesAreTheSameWhateverWasAskedAhead(t *testing.T) {
	type asked struct {
		g    impl.Gate
		a    impl.Act
		then impl.Gate
		n    int64
	}
	s := source{seed: 188}
	var all []asked
	for range 120 {
		x := asked{g: s.gate()}
		x.a = s.act(x.g)
		x.then, x.n = happenAsWritten(x.g, x.a)
		all = append(all, x)
	}
	same := func(x asked) bool {
		then, n := impl.Happen(x.g, x.a)
		played, numbers := impl.Play(x.g, []impl.Act{x.a, {}})
		return sameGate(then, x.then) && n == x.n && sameGate(played, x.then) && slices.Equal(numbers, []int64{x.n, -1})
	}
	for i, x := range slices.Backward(all) {
		if !same(x) {
			t.Fatalf("call %d of %s is another one backwards", i, briefGate(x.g))
		}
	}
	wrong := make(chan int, 8)
	for range cap(wrong) {
		go func() { wrong <- slices.IndexFunc(all, func(x asked) bool { return !same(x) }) }()
	}
	for range cap(wrong) {
		if i := <-wrong; i >= 0 {
			t.Errorf("call %d of %s is another one beside others", i, briefGate(all[i].g))
		}
	}
}

// Whatever is asked of whatever gate, it answers, and the argument stays.
func TestGatesOfWhatIsFarFromRight(t *testing.T) {
	far := []impl.Gate{{}, {Seats: make([]impl.Seat, 1)}, {Seats: make([]impl.Seat, 4), Dials: make([]impl.Dial, 200)}, {Seats: make([]impl.Seat, 5), Flights: make([]impl.Flight, 3)},
		{Tenants: make([]impl.Tenant, 9)}, {Dials: []impl.Dial{dial(-1, -1, "")}}}
	for _, number := range farNumbers() {
		far = append(far, impl.Gate{Now: number, Seats: []impl.Seat{{Conn: impl.Conn{Get: number, Flows: make([]impl.Flow, 3)}}}},
			gateWith(busyGate(), func(g *impl.Gate) { g.Dials[0].Seat, g.Flights[0].Seat = number, number }),
			gateWith(busyGate(), func(g *impl.Gate) { g.Dials[0].Id, g.Flights[0].Id = number, number }),
			gateWith(busyGate(), func(g *impl.Gate) { g.Seats[0].Conn.Registry.Top = number }))
	}
	for _, g := range far {
		right := gateAsWritten(g)
		isGateOk(t, g, right)
		for _, number := range append(farNumbers(), 0, 1) {
			for kind := range int64(9) {
				a := impl.Act{Kind: kind, Seat: number % 7, Id: number, Text: "\x00\xff", N: number, Yes: true}
				then, n := happenAsWritten(g, a)
				happens(t, g, a, then, n)
				a.Seat, a.Kind = number, number
				then, n = happenAsWritten(g, a)
				happens(t, g, a, then, n)
			}
			if _, is := impl.WentTo(g, number, number); is && !right {
				t.Fatal(briefGate(g))
			}
		}
	}
}
