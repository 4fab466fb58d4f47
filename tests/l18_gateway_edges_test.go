package tests

import (
	"math"
	"slices"
	"strings"
	"testing"

	"loop.example/g00296/impl"
)

// quotaGate lets bert have so many streams at one time.
func quotaGate(quota int64) impl.Gate {
	return gateWith(freshGate(3), func(g *impl.Gate) { g.Tenants[1].Quota = quota })
}

// Each Dial and each Flight counts as long as its stream is not closed, whichever seat it is of.
func TestOpenIsCountedOverAllSeats(t *testing.T) {
	bert := asking("b", bertsToken())
	for quota := range int64(6) {
		g := quotaGate(quota)
		for at := range int64(7) {
			code := int64(200)
			if at >= quota {
				code = 429
			}
			g = asks(t, g, at%3, 2*at+1, code, bert...)
			if code == 200 && at%2 == 0 {
				g, _ = did(t, g, dials(at%3, 2*at+1, true))
			}
			if code == 429 {
				break
			}
		}
		// Anna's own are not counted there, nor his with hers.
		asks(t, g, 2, 101, 200, asking("a.x", annasToken())...)
	}
}

// A place is free again once a stream is closed, whoever closed it, and in whatever way.
func TestAClosedStreamIsNotCounted(t *testing.T) {
	bert := asking("b", bertsToken())
	first := asks(t, quotaGate(2), 0, 1, 200, bert...)
	first = asks(t, first, 1, 1, 200, bert...)
	asks(t, first, 2, 1, 429, bert...)
	inFlight, _ := did(t, first, dials(1, 1, true))
	asks(t, inFlight, 2, 1, 429, bert...)
	ways := []struct {
		acts []impl.Act
		code int64
	}{
		{[]impl.Act{comes(1, shown(resetOn(1, 0)))}, 200},
		{[]impl.Act{comes(1, shown(lastDataOn(1, "x")))}, 429},
		{[]impl.Act{gives(1, 1, "x", true)}, 429},
		{[]impl.Act{comes(1, shown(lastDataOn(1, "x"))), gives(1, 1, "x", true)}, 200},
		{[]impl.Act{gives(1, 1, "x", true), comes(1, shown(lastDataOn(1, "x")))}, 200},
		{[]impl.Act{comes(1, shown(headOn(1, "")))}, 200},
		{[]impl.Act{comes(1, shown(windowOn(1, top)))}, 200},
		{[]impl.Act{comes(1, "\xff\xff\xff\xff\xff\xff\xff")}, 429}, // the connection fails, its streams are not closed
		{[]impl.Act{takes(1, 1, 5), flushes(1), drains()}, 429},
	}
	for i, x := range ways {
		g := inFlight
		for _, a := range x.acts {
			g, _ = did(t, g, a)
		}
		if g.Drained {
			g = gateWith(g, func(g *impl.Gate) { g.Seats[2].Conn.Away = false })
		}
		if then := asks(t, g, 2, 1, x.code, bert...); len(then.Flights) != 1 {
			t.Fatal(i, briefGate(then))
		}
	}
	// A Dial counts in the same way: with no it is gone, and its stream may go on.
	g, _ := did(t, first, dials(0, 1, false))
	asks(t, g, 2, 1, 200, bert...)
	g, _ = did(t, first, comes(0, shown(resetOn(1, 0))))
	if g = asks(t, g, 2, 1, 200, bert...); len(g.Dials) != 3 {
		t.Fatal(briefGate(g))
	}
}

// Several ask in the bytes of one Act: who came first is counted for who comes behind, and one that was closed between is not.
func TestSeveralAskInOneAct(t *testing.T) {
	for quota, codes := range map[int64][]int64{0: {429, 429, 429}, 1: {200, 429, 429}, 2: {200, 200, 429}, 3: {200, 200, 200}} {
		for _, reset := range []bool{false, true} {
			g, other := quotaGate(quota), table(400)
			text, want := "", impl.Gate{}
			for i := range int64(3) {
				block, then, _ := impl.Encoded(other, asking("b", bertsToken()))
				text, other = text+shown(headOn(2*i+1, block)), then
				if reset {
					text += shown(resetOn(2*i+1, 0))
				}
				if codes[i] == 200 || reset && quota > 0 {
					want.Dials = append(want.Dials, dial(1, 2*i+1, "bert"))
				}
			}
			if then, _ := did(t, g, comes(1, text)); !slices.Equal(then.Dials, want.Dials) {
				t.Fatal(quota, reset, briefGate(then))
			}
		}
	}
}

func TestAHundredDialsAndFlights(t *testing.T) {
	fields := asking("a.x", annasToken())
	for _, dialCount := range []int{0, 98, 99, 100} {
		for _, flightCount := range []int{0, 98, 99, 100} {
			g := full(freshGate(3), dialCount, flightCount)
			code := int64(200)
			if dialCount == 100 || flightCount == 100 {
				code = 429
			}
			then := asks(t, g, 0, 1, code, fields...)
			isGateOk(t, then, true)
			// What is wrong beside that is told first.
			asks(t, g, 0, 1, 401, asking("a.x", "")...)
			asks(t, g, 0, 1, 403, asking("z", annasToken())...)
			if code != 200 {
				continue
			}
			then, n := did(t, then, dials(0, 1, true))
			if n < 8 || len(then.Flights) != flightCount+1 || len(then.Dials) != dialCount {
				t.Fatal(n, briefGate(then))
			}
		}
	}
}

// Each of two was let in while there was room for a Flight more: a second one there is no room for.
func TestADialThatFindsAHundredFlights(t *testing.T) {
	g := asks(t, full(freshGate(3), 0, 99), 0, 1, 200, asking("a.x", annasToken())...)
	g = asks(t, g, 1, 1, 200, asking("b", bertsToken())...)
	for _, order := range [][2]int64{{0, 1}, {1, 0}} {
		then, n := did(t, g, dials(order[0], 1, true))
		if n < 8 || len(then.Flights) != 100 || len(then.Dials) != 1 {
			t.Fatal(n, briefGate(then))
		}
		refuses(t, then, dials(order[1], 1, true))
		last, n := did(t, then, dials(order[1], 1, false))
		if n < 8 || len(last.Flights) != 100 || len(last.Dials) != 0 {
			t.Fatal(n, briefGate(last))
		}
	}
}

// A right gate may be handed in with a Dial, or a Flight, whose stream is not there yet: it stays right when that comes.
func TestADialThatIsThereAheadOfItsStream(t *testing.T) {
	for _, name := range []string{"anna", "bert"} {
		g := freshGate(2)
		g.Dials = []impl.Dial{dial(0, 1, name)}
		then := asks(t, g, 0, 1, 429, asking("a.x", bertsToken())...)
		isGateOk(t, then, true)
		g.Dials, g.Flights = nil, []impl.Flight{flight(0, 1, name, "")}
		then = asks(t, g, 0, 1, 429, asking("a.x", bertsToken())...)
		isGateOk(t, then, true)
		// It is only that stream's: another seat, another Id.
		asks(t, g, 1, 1, 200, asking("a.x", bertsToken())...)
		asks(t, g, 0, 3, 200, asking("a.x", bertsToken())...)
	}
}

func TestActDial(t *testing.T) {
	g := asks(t, freshGate(2), 1, 3, 200, asking("a.x", annasToken())...)
	g = asks(t, g, 1, 5, 200, asking("a.x", bertsToken())...)
	for _, x := range [][2]int64{{0, 3}, {1, 1}, {1, 4}, {1, 7}, {1, 0}, {1, -3}, {-1, 3}, {2, 3}, {1, math.MaxInt64}, {1, math.MinInt64}} {
		refuses(t, g, dials(x[0], x[1], true))
		refuses(t, g, dials(x[0], x[1], false))
	}
	then, n := did(t, g, dials(1, 3, true))
	if told := replyTo(3, 200); n != int64(len(told)) || then.Seats[1].Out != told || !slices.Equal(then.Dials, []impl.Dial{dial(1, 5, "bert")}) || !slices.Equal(then.Flights, []impl.Flight{flight(1, 3, "anna", "")}) {
		t.Fatal(n, briefGate(then))
	}
	refuses(t, then, dials(1, 3, true))
	refuses(t, then, dials(1, 3, false))
	then, n = did(t, then, dials(1, 5, true))
	if told := shown(headOn(5, numbered(1))); n != int64(len(told)) || len(then.Dials) != 0 || !slices.Equal(then.Flights, []impl.Flight{flight(1, 3, "anna", ""), flight(1, 5, "bert", "")}) {
		t.Fatal(n, briefGate(then))
	}
	then, n = did(t, g, dials(1, 3, false))
	if told := replyTo(3, 502); n != int64(len(told)) || then.Seats[1].Out != told || !slices.Equal(then.Dials, []impl.Dial{dial(1, 5, "bert")}) || len(then.Flights) != 0 || stateAsWritten(then.Seats[1].Conn.Registry, 3) != theirs {
		t.Fatal(n, briefGate(then))
	}
	refuses(t, then, dials(1, 3, true))
	refuses(t, then, dials(1, 3, false))
}

// The client may be gone by when the Dial is answered: it goes all the same, and nothing is told.
func TestActDialOfAStreamThatIsClosed(t *testing.T) {
	g := asks(t, freshGate(1), 0, 1, 200, asking("a.x", annasToken())...)
	for _, text := range []string{shown(resetOn(1, 0)), "\xff\xff\xff\xff\xff\xff\xff"} {
		gone, _ := did(t, g, comes(0, text))
		for _, yes := range []bool{false, true} {
			then, n := did(t, gone, dials(0, 1, yes))
			if n != 0 || then.Seats[0].Out != gone.Seats[0].Out || len(then.Dials) != 0 || (len(then.Flights) == 1) != yes {
				t.Fatal(n, briefGate(then))
			}
			wentTo(t, then, 0, 1, "", yes)
		}
	}
}

// flying has one Flight, with these bytes on their way.
func flying(t *testing.T, up string) impl.Gate {
	t.Helper()
	g := asks(t, freshGate(2), 1, 1, 200, asking("a.x", annasToken())...)
	g, _ = did(t, g, dials(1, 1, true))
	g, _ = did(t, g, comes(1, shown(dataOn(1, up))))
	return g
}

func TestActTake(t *testing.T) {
	g := flying(t, "\x00some\xff")
	refuses(t, g, takes(1, 1, -1))
	refuses(t, g, takes(1, 1, math.MinInt64))
	for _, x := range [][2]int64{{0, 1}, {1, 3}, {1, 0}, {1, 2}, {-1, 1}, {2, 1}, {math.MaxInt64, 1}, {math.MinInt64, 1}} {
		refuses(t, g, takes(x[0], x[1], 1))
	}
	for n, text := range map[int64]string{0: "", 1: "\x00", 5: "\x00some", 6: "\x00some\xff", 7: "\x00some\xff", 2000: "\x00some\xff", math.MaxInt64: "\x00some\xff"} {
		then, count := did(t, g, takes(1, 1, n))
		told := ""
		if k := int64(len(text)); k > 0 {
			told = shown(windowOn(1, k), windowOn(0, k))
		}
		if wentTo(t, then, 1, 1, text, true); count != int64(len(told)) || then.Seats[1].Out != g.Seats[1].Out+told {
			t.Fatal(n, count, briefGate(then))
		}
	}
	// By and by it is all of it, in order.
	for i, want := range []string{"\x00s", "\x00som", "\x00some\xff", "\x00some\xff"} {
		g, _ = did(t, g, takes(1, 1, 2))
		if wentTo(t, g, 1, 1, want, true); g.Seats[1].Conn.Flows[0].Tunnel.Went != int64(len(want)) {
			t.Fatal(i, briefGate(g))
		}
	}
}

// It hangs on how many bytes there are, not on how many are asked for, whether the Text would be too long.
func TestActTakeAtTheLastByteOfText(t *testing.T) {
	for room := range int64(5) {
		for held := range int64(5) {
			g := gateWith(flying(t, "held"[:held]), func(g *impl.Gate) { g.Flights[0].Text = strings.Repeat("t", int(lastTime-room)) })
			for _, n := range []int64{0, 1, 2, 3, 4, 5, lastTime, math.MaxInt64} {
				a := takes(1, 1, n)
				if min(n, held) > room {
					refuses(t, g, a)
					continue
				}
				then, _ := did(t, g, a)
				if text, is := impl.WentTo(then, 1, 1); !is || int64(len(text)) != lastTime-room+min(n, held) || !strings.HasSuffix(text, "t"+"held"[:min(n, held)]) {
					t.Fatal(room, held, n, len(text))
				}
			}
		}
	}
}

func TestActGive(t *testing.T) {
	g := flying(t, "up")
	for _, x := range [][2]int64{{0, 1}, {1, 3}, {1, 0}, {1, 2}, {-1, 1}, {2, 1}, {math.MaxInt64, 1}, {1, math.MinInt64}} {
		refuses(t, g, gives(x[0], x[1], "text", false))
		refuses(t, g, gives(x[0], x[1], "", true))
	}
	for _, x := range []struct {
		text string
		end  bool
		told []impl.Frame
		n    int64
	}{
		{"", false, nil, 0},
		{"", true, []impl.Frame{lastDataOn(1, "")}, 0},
		{"\x00\xff", false, []impl.Frame{dataOn(1, "\x00\xff")}, 2},
		{"yo", true, []impl.Frame{lastDataOn(1, "yo")}, 2},
		{strings.Repeat("g", 500), true, []impl.Frame{lastDataOn(1, strings.Repeat("g", 500))}, 500},
		{strings.Repeat("g", 501), true, []impl.Frame{dataOn(1, strings.Repeat("g", 500))}, 501},
		{strings.Repeat("g", 1000), true, []impl.Frame{dataOn(1, strings.Repeat("g", 500))}, 1000},
		{strings.Repeat("g", 1001), true, []impl.Frame{dataOn(1, strings.Repeat("g", 500))}, 1000},
		{strings.Repeat("g", 2000), false, []impl.Frame{dataOn(1, strings.Repeat("g", 500))}, 1000},
	} {
		then, n := did(t, g, gives(1, 1, x.text, x.end))
		if n != x.n || then.Seats[1].Out != g.Seats[1].Out+shown(x.told...) {
			t.Fatal(len(x.text), x.end, n, briefGate(then))
		}
	}
	// Behind the end nothing more is taken; and where the window is used up, it waits.
	then, _ := did(t, g, gives(1, 1, "yo", true))
	if after, n := did(t, then, gives(1, 1, "more", false)); n != 0 || after.Seats[1].Out != then.Seats[1].Out {
		t.Fatal(n, briefGate(after))
	}
	then, _ = did(t, g, gives(1, 1, strings.Repeat("g", 700), false))
	if after, n := did(t, then, gives(1, 1, strings.Repeat("h", 900), true)); n != 800 || after.Seats[1].Out != then.Seats[1].Out {
		t.Fatal(n, briefGate(after))
	}
}

// A Dial is no Flight yet: nothing is taken of it, nor given to it.
func TestNothingFliesAheadOfTheDial(t *testing.T) {
	g := asks(t, freshGate(1), 0, 1, 200, asking("a.x", annasToken())...)
	g, _ = did(t, g, comes(0, shown(dataOn(1, "up"))))
	refuses(t, g, takes(0, 1, 1))
	refuses(t, g, gives(0, 1, "text", true))
	g, _ = did(t, g, dials(0, 1, false))
	refuses(t, g, takes(0, 1, 1))
	refuses(t, g, gives(0, 1, "text", true))
}

func TestActFlush(t *testing.T) {
	g := flying(t, "up")
	happens(t, g, flushes(1), g, 0)
	happens(t, g, flushes(0), g, 0)
	waits, _ := did(t, g, gives(1, 1, strings.Repeat("g", 700), true))
	happens(t, waits, flushes(1), waits, 0)
	// A grant comes: what waited is only told once it is Flushed.
	granted, n := did(t, waits, comes(1, shown(windowOn(1, 150))))
	if n != 0 || granted.Seats[1].Out != waits.Seats[1].Out {
		t.Fatal(n, briefGate(granted))
	}
	then, n := did(t, granted, flushes(1))
	if n != 157 || then.Seats[1].Out != waits.Seats[1].Out+shown(dataOn(1, strings.Repeat("g", 150))) {
		t.Fatal(n, briefGate(then))
	}
	then, _ = did(t, then, comes(1, shown(windowOn(1, 1000))))
	if then, n = did(t, then, flushes(1)); n != 57 || !strings.HasSuffix(then.Seats[1].Out, shown(lastDataOn(1, strings.Repeat("g", 50)))) {
		t.Fatal(n, briefGate(then))
	}
	happens(t, then, flushes(1), then, 0)
	// What is given to one stream brings out what waited on another.
	g = gateWith(busyGate(), func(g *impl.Gate) { g.Seats[0].Conn.Flows[1].Tunnel.Down.Bytes = "waited" })
	if then, n := did(t, g, gives(0, 1, "", false)); n != 0 || !strings.HasSuffix(then.Seats[0].Out, shown(dataOn(1, "down1"), dataOn(3, "waited"))) {
		t.Fatal(n, briefGate(then))
	}
}

func TestActTick(t *testing.T) {
	for _, now := range []int64{0, 1, 500, lastTime - 1, lastTime} {
		for _, seat := range []int64{-1, 0, 1, 2, math.MaxInt64} {
			g := gateWith(busyGate(), func(g *impl.Gate) { g.Now = now })
			for _, n := range append([]int64{-1, 0, 1, 2, lastTime, lastTime + 1, lastTime - now - 1, lastTime - now, lastTime - now + 1, math.MaxInt64 - now}, farNumbers()...) {
				a := ticks(n)
				a.Seat = seat
				if n < 1 || n > lastTime-now {
					refuses(t, g, a)
					continue
				}
				happens(t, g, a, gateWith(g, func(g *impl.Gate) { g.Now = now + n }), 0)
			}
		}
	}
}

func TestActDrain(t *testing.T) {
	for _, seat := range []int64{-1, 0, 3, 4, math.MinInt64} {
		a := drains()
		a.Seat = seat
		for _, g := range []impl.Gate{freshGate(1), freshGate(4), busyGate(), gateWith(busyGate(), func(g *impl.Gate) { g.Seats[0].Bad, g.Seats[1].Conn.Dead = true, true })} {
			drained := gateWith(g, func(g *impl.Gate) {
				g.Drained = true
				for i := range g.Seats {
					g.Seats[i].Conn.Away = true
				}
			})
			happens(t, g, a, drained, 0)
			happens(t, drained, a, drained, 0)
		}
	}
	// Whoever comes behind it is refused; whoever is there goes on.
	g := flying(t, "up")
	g = asks(t, g, 0, 1, 200, asking("b", bertsToken())...)
	g, _ = did(t, g, drains())
	then, n := did(t, g, comes(1, shown(headBy(g, 1, 3, asking("b", bertsToken())...))))
	if n != 8 || then.Seats[1].Out != g.Seats[1].Out+shown(resetOn(3, erRefused)) || len(then.Dials) != 1 {
		t.Fatal(n, briefGate(then))
	}
	g, _ = did(t, g, dials(0, 1, true))
	g, _ = did(t, g, takes(1, 1, 9))
	g, n = did(t, g, gives(0, 1, "yo", false))
	if wentTo(t, g, 1, 1, "up", true); n != 2 || len(g.Flights) != 2 {
		t.Fatal(n, briefGate(g))
	}
}

func TestKindsAndSeatsThatThereAreNot(t *testing.T) {
	for _, g := range []impl.Gate{freshGate(1), freshGate(4), busyGate()} {
		for _, kind := range append([]int64{0, 8, 9, -1, 256 + 1}, farNumbers()...) {
			for seat := range int64(6) {
				refuses(t, g, impl.Act{Kind: kind, Seat: seat - 1, Id: 1, Text: "text", N: 1, Yes: true})
			}
		}
		last := int64(len(g.Seats)) - 1
		for _, seat := range append([]int64{-1, last + 1, last + 2, 4}, farNumbers()...) {
			for kind := range int64(5) {
				refuses(t, g, impl.Act{Kind: kind + 1, Seat: seat, Id: 1, Text: shown(settled()), N: 1, Yes: true})
			}
		}
		for _, seat := range []int64{0, last} {
			if _, n := did(t, g, comes(seat, shown(frame(5, 0, 0, "ping")))); n != 11 && g.Seats[seat].Rest == "" {
				t.Fatal(seat, n)
			}
			if _, n := did(t, g, flushes(seat)); n < 0 {
				t.Fatal(seat, n)
			}
		}
	}
}

// Of a seat with more than 200000 bytes in Out nothing is done any more, but by what is of no seat.
func TestOutOfASeat(t *testing.T) {
	g := flying(t, "up")
	g = asks(t, g, 1, 3, 200, asking("b", bertsToken())...)
	acts := []impl.Act{comes(1, shown(frame(5, 0, 0, "ping"))), comes(1, ""), comes(1, "\xff\xff\xff\xff\xff\xff\xff"), dials(1, 3, true), dials(1, 3, false), takes(1, 1, 1), takes(1, 1, 0), gives(1, 1, "text", true), flushes(1)}
	for _, size := range []int{0, 199999, 200000, 200001, 300000, 400000} {
		filled := gateWith(g, func(g *impl.Gate) { g.Seats[1].Out = strings.Repeat("o", size) })
		for i, a := range acts {
			if size > 200000 {
				refuses(t, filled, a)
				continue
			}
			then, n := did(t, filled, a)
			if told := int64(len(then.Seats[1].Out) - size); n < 0 || a.Kind != impl.AcGive && n != told || a.Kind == impl.AcGive && (n != 4 || told != 11) {
				t.Fatal(size, i, n, briefGate(then))
			}
		}
		// The other seat goes on, and so does time, whichever Seat the Act names.
		if _, n := did(t, filled, comes(0, shown(frame(5, 0, 0, "ping")))); n != 11 {
			t.Fatal(size, n)
		}
		for _, a := range []impl.Act{{Kind: impl.AcTick, Seat: 1, N: 1}, {Kind: impl.AcDrain, Seat: 1}} {
			if _, n := did(t, filled, a); n != 0 {
				t.Fatal(size, n)
			}
		}
	}
}

// The most that one Act tells has room above 200000: all of twenty streams' two thousand bytes.
func TestOutHasRoomForWhatOneActTells(t *testing.T) {
	c := freshConn(20)
	c.Give = top
	for i := range int64(20) {
		c, _ = gotAsWritten(c, headOn(2*i+1, ""))
		c.Flows[i].Tunnel.Down = endedPipe(2000, strings.Repeat("d", 2000))
		c.Flows[i].Give = top
	}
	g := freshGate(1)
	g.Seats[0].Conn, g.Seats[0].Out = c, strings.Repeat("o", 200000)
	then, n := did(t, g, flushes(0))
	if n != 20*2*1007 || len(then.Seats[0].Out) != 200000+20*2*1007 {
		t.Fatal(n)
	}
	isGateOk(t, then, true)
	// Or as many pings as come at one time.
	g = gateWith(freshGate(1), func(g *impl.Gate) {
		pings := strings.Repeat(shown(frame(5, 0, 0, "ping")), 400)
		g.Seats[0].Rest, g.Seats[0].Out = pings[:2000], strings.Repeat("o", 200000)
	})
	then, n = did(t, g, comes(0, strings.Repeat(shown(frame(5, 0, 0, "ping")), 400)[2000:4000]))
	if n != 363*11 || len(then.Seats[0].Rest) != 7 {
		t.Fatal(n, len(then.Seats[0].Rest))
	}
}

// playsAsWritten asks that Play is the Acts one by one.
func playsAsWritten(t *testing.T, g impl.Gate, list []impl.Act) impl.Gate {
	t.Helper()
	was, acts := copiedGate(g), slices.Clone(list)
	got, numbers := impl.Play(g, list)
	then, want := g, []int64(nil)
	for _, a := range list {
		next, n := impl.Happen(then, a)
		then, want = next, append(want, n)
	}
	if !sameGate(got, then) || !slices.Equal(numbers, want) {
		t.Fatalf("%d acts in %s made %v, %s\nnot %v, %s", len(list), briefGate(was), numbers, briefGate(got), want, briefGate(then))
	}
	if !sameGate(g, was) || !slices.Equal(list, acts) || gateAsWritten(was) && !impl.GateOk(got) {
		t.Fatalf("%d acts in %s: %s", len(list), briefGate(was), briefGate(g))
	}
	return got
}

func TestPlay(t *testing.T) {
	for _, g := range rightGates() {
		for _, list := range [][]impl.Act{nil, {}, {{}}, {ticks(1)}, {ticks(0), ticks(1), ticks(2)}, {drains(), flushes(0), drains()}, {comes(0, shown(settled())[:3]), comes(0, shown(settled())[3:])}} {
			playsAsWritten(t, g, list)
		}
	}
	g := freshGate(1)
	head := shown(headBy(g, 0, 1, asking("a.x", annasToken())...))
	way := []impl.Act{comes(0, head[:5]), takes(0, 1, 3), comes(0, head[5:]), dials(0, 1, true), dials(0, 1, true), comes(0, shown(dataOn(1, "hello"))), takes(0, 1, 4), gives(0, 1, "yo", false), ticks(2), gives(0, 1, "", true), flushes(1), drains()}
	then, numbers := impl.Play(g, way)
	reply := int64(len(replyTo(1, 200)))
	if want := []int64{0, -1, 0, reply, -1, 0, 20, 2, 0, 0, -1, 0}; !slices.Equal(numbers, want) || then.Now != 2 || !then.Drained {
		t.Fatal(numbers, want, briefGate(then))
	}
	wentTo(t, then, 0, 1, "hell", true)
	if got := playsAsWritten(t, g, way); !sameGate(got, then) {
		t.Fatal(briefGate(got))
	}
}

func TestPlayOfTwoHundred(t *testing.T) {
	for _, count := range []int{0, 1, 199, 200, 201, 400} {
		for _, a := range []impl.Act{ticks(1), {}, comes(0, "\x00")} {
			g := busyGate()
			then, numbers := impl.Play(g, slices.Repeat([]impl.Act{a}, count))
			if count > 200 && (!isZeroGate(then) || len(numbers) != 0) {
				t.Fatal(count, numbers, briefGate(then))
			}
			if count <= 200 && (len(numbers) != count || !impl.GateOk(then)) {
				t.Fatal(count, numbers, briefGate(then))
			}
			if !sameGate(g, busyGate()) {
				t.Fatal(briefGate(g))
			}
		}
	}
	if then, numbers := impl.Play(freshGate(1), slices.Repeat([]impl.Act{ticks(3)}, 200)); then.Now != 600 || !slices.Equal(numbers, make([]int64, 200)) {
		t.Fatal(numbers, briefGate(then))
	}
}

func TestWentTo(t *testing.T) {
	g := busyGate()
	g.Flights[1].Text = "\x00\xff"
	for _, f := range g.Flights {
		wentTo(t, g, f.Seat, f.Id, f.Text, true)
	}
	for _, d := range g.Dials {
		wentTo(t, g, d.Seat, d.Id, "", false)
	}
	for _, x := range [][2]int64{{0, 0}, {0, 3}, {1, 7}, {1, 77}, {2, 1}, {-1, 1}, {3, 1}, {0, -1}, {math.MaxInt64, math.MaxInt64}, {math.MinInt64, math.MinInt64}, {1 << 32, 1}, {0, 1<<32 + 1}} {
		wentTo(t, g, x[0], x[1], "", false)
	}
	long := gateWith(g, func(g *impl.Gate) { g.Flights[3].Text = strings.Repeat("t", 1000000) })
	wentTo(t, long, 0, 77, strings.Repeat("t", 1000000), true)
	hundred := full(freshGate(2), 100, 100)
	for i := range hundred.Flights {
		hundred.Flights[i].Text = strings.Repeat("t", i)
	}
	for i, f := range hundred.Flights {
		wentTo(t, hundred, f.Seat, f.Id, strings.Repeat("t", i), true)
	}
}
