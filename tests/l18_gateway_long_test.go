package tests

import (
	"slices"
	"strings"
	"testing"

	"loop.example/g00296/impl"
)

// gate is right: up to four seats with connections of all kinds, and Dials and Flights of streams they
// have, or have had, or never had.
func (s *source) gate() impl.Gate {
	g := freshGate(0)
	g.Now, g.Drained = s.upTo(60), s.next(9) == 0
	g.Tenants[0].Quota, g.Tenants[1].Quota = s.upTo(4), s.upTo(8)
	for range 1 + s.next(4) {
		x := seatOf(s.conn())
		x.Bad, x.Out = s.next(12) == 0, s.bytes(s.upTo(9))
		if s.next(3) == 0 {
			whole := shown(s.frame(x.Conn))
			x.Rest = whole[:s.next(uint32(len(whole)+1))]
		}
		if s.next(20) == 0 {
			x.Out = strings.Repeat("o", 199990+s.next(20))
		}
		g.Seats = append(g.Seats, x)
	}
	for range s.next(12) {
		seat := int64(s.next(uint32(len(g.Seats))))
		id, name := max(1, s.streamId(g.Seats[seat].Conn.Registry)), []string{"anna", "bert"}[s.next(2)]
		x := &acting{Gate: g}
		switch {
		case x.hasDial(seat, id) || x.flightAt(seat, id) != nil:
		case s.next(3) == 0:
			g.Dials = append(g.Dials, dial(seat, id, name))
		case s.next(20) == 0:
			g.Flights = append(g.Flights, flight(seat, id, name, strings.Repeat("t", lastTime-s.next(30))))
		default:
			g.Flights = append(g.Flights, flight(seat, id, name, s.bytes(s.upTo(9))))
		}
	}
	return g
}

// token is mostly one that is let in.
func (s *source) token(now int64) string {
	name := s.next(2)
	until, key := min(now+1+s.upTo(20), lastTime), name
	switch s.next(10) {
	case 0:
		until = max(0, now-s.upTo(2))
	case 1:
		key = 1 - key
	case 2:
		return s.text(s.next(20))
	}
	return tokenAsWritten([]string{"anna", "bert"}[name], until, []string{"k1", "k2"}[key])
}

func (s *source) target() string { return []string{"a.x", "b.y", "z", ""}[s.next(4)] }

// come has the bytes of frames that make sense there, mostly whole ones.
func (s *source) come(g impl.Gate, seat int64) string {
	x, text := g.Seats[seat], ""
	if s.next(3) > 0 {
		x.Rest = ""
	}
	for range s.next(4) {
		f := s.frame(x.Conn)
		if s.next(3) == 0 {
			f = headBy(g, seat, freshId(x.Conn.Registry), asking(s.target(), s.token(g.Now))...)
		}
		whole := shown(f)
		text += whole[min(len(x.Rest), len(whole)):]
		// What comes behind it is by what the connection is then.
		g, _ = happenAsWritten(g, comes(seat, text[:min(len(text), 2000)]))
		x, text = g.Seats[seat], text[:min(len(text), 2000)]
		x.Rest = ""
	}
	switch s.next(6) {
	case 0:
		return text[:s.next(uint32(len(text)+1))]
	case 1:
		return text + s.bytes(s.upTo(9))
	}
	return text
}

// act is of a seat and a stream that there mostly are.
func (s *source) act(g impl.Gate) impl.Act {
	seat := int64(s.next(uint32(len(g.Seats))))
	id := s.streamId(g.Seats[seat].Conn.Registry)
	if n := len(g.Flights); n > 0 && s.next(3) > 0 {
		f := g.Flights[n-1-s.next(uint32(min(n, 4)))]
		seat, id = f.Seat, f.Id
	}
	switch s.next(16) {
	case 0, 1, 2, 3, 4:
		return comes(seat, s.come(g, seat))
	case 5, 6, 7:
		if n := len(g.Dials); n > 0 && s.next(5) > 0 {
			d := g.Dials[s.next(uint32(n))]
			seat, id = d.Seat, d.Id
		}
		return dials(seat, id, s.next(3) > 0)
	case 8, 9:
		return takes(seat, id, s.upTo(60)-1)
	case 10, 11, 12:
		return gives(seat, id, s.bytes(s.upTo(1200)), s.next(3) == 0)
	case 13:
		return flushes(seat)
	case 14:
		return ticks(s.upTo(3))
	}
	if s.next(12) == 0 {
		return drains()
	}
	return impl.Act{Kind: s.upTo(9), Seat: s.upTo(5) - 1, Id: id, Text: strings.Repeat("t", 1999+s.next(3)), N: s.upTo(3) - 1}
}

func TestManyGatesAsWritten(t *testing.T) {
	s := source{seed: 18}
	met := map[int64]int{}
	for range 700 {
		g := s.gate()
		isGateOk(t, g, true)
		for range 8 {
			a := s.act(g)
			if _, n := did(t, g, a); n >= 0 {
				met[a.Kind]++
			}
		}
	}
	for kind := range int64(7) {
		if met[kind+1] < 50-45*int(kind/6) {
			t.Fatalf("too few are done: %v", met)
		}
	}
}

// Whatever happens to a right gate, it is right behind it, and goes on as the chapter says; Play is the same.
func TestGatesStayRight(t *testing.T) {
	flights, bad := 0, 0
	for seed := range uint32(100) {
		s := source{seed: 1800 + seed}
		g := gateWith(freshGate(1+int(seed%4)), func(g *impl.Gate) { g.Tenants[0].Quota, g.Tenants[1].Quota = 9, 20 })
		if seed%3 == 0 {
			g = s.gate()
		}
		first, list := g, []impl.Act(nil)
		for range 110 {
			a := s.act(g)
			then, _ := did(t, g, a)
			// Most that would be the end of a seat is asked for, and left aside, so that the way is long.
			dead := slices.ContainsFunc(then.Seats, func(x impl.Seat) bool { return x.Conn.Dead })
			if !dead || seed%3 == 0 || s.next(20) == 0 {
				g, list = then, append(list, a)
			}
		}
		isGateOk(t, g, true)
		if then := playsAsWritten(t, first, list); !sameGate(then, g) {
			t.Fatalf("seed %d: %s, not %s", seed, briefGate(then), briefGate(g))
		}
		flights += len(g.Flights)
		for _, x := range g.Seats {
			if x.Bad {
				bad++
			}
		}
	}
	if flights < 150 || bad < 5 {
		t.Fatal(flights, bad)
	}
}

// visit is one stream as its client, and where it leads, know it.
type visit struct {
	name        string
	code        int64 // what it is to be told: 200 once it is let in
	dialed, yes bool
	sent, given string
	told        int64 // the status that came
	came        string
	end         bool
	reset       bool
}

// guest is the client of one seat.
type guest struct {
	heads, replies impl.Table
	wire           string // what is still to come of the frame it sends
	frame          impl.Frame
	read           int
	visits         map[int64]*visit
	ids            []int64
}

// party is a gate beside all that its clients know.
type party struct {
	source
	g      impl.Gate
	guests []*guest
	met    map[string]int
}

func newParty(seed uint32, seats int) *party {
	p := &party{source: source{seed: seed}, g: freshGate(seats), met: map[string]int{}}
	p.g.Tenants[0].Quota, p.g.Tenants[1].Quota = int64(seed%3), int64(1+seed%4)
	for range seats {
		p.guests = append(p.guests, &guest{heads: table(400), replies: table(400), visits: map[int64]*visit{}})
	}
	return p
}

func (p *party) happens(t *testing.T, a impl.Act) int64 {
	t.Helper()
	then, n := impl.Happen(p.g, a)
	if n == -2 || !impl.GateOk(then) {
		t.Fatalf("%s in %s made %d, %s", briefAct(a), briefGate(p.g), n, briefGate(then))
	}
	if told := len(then.Seats[a.Seat].Out) - len(p.g.Seats[a.Seat].Out); n >= 0 && a.Kind != impl.AcGive && int64(told) != n {
		t.Fatalf("%s told %d bytes, not %d", briefAct(a), told, n)
	}
	p.g = then
	p.reads(t, a.Seat)
	return n
}

// reads is what each client does with what came to Out.
func (p *party) reads(t *testing.T, seat int64) {
	t.Helper()
	x := p.guests[seat]
	frames, rest, right := impl.Frames(p.g.Seats[seat].Out[x.read:])
	if !right || rest != "" {
		t.Fatalf("Out ends with %q", rest)
	}
	x.read = len(p.g.Seats[seat].Out)
	for _, f := range frames {
		v := x.visits[f.Stream]
		switch f.Kind {
		case impl.FrHead:
			fields, then, is := impl.Decoded(x.replies, f.Body)
			if !is || len(fields) != 1 || v.told != 0 || v.end {
				t.Fatalf("%d of seat %d is told %v behind %d", f.Stream, seat, fields, v.told)
			}
			x.replies = then
			v.told = map[string]int64{"200": 200, "401": 401, "403": 403, "429": 429, "502": 502}[fields[0].Value]
			v.end = f.Flags == 1
			p.met[fields[0].Value]++
		case impl.FrData:
			v.came += f.Body
			if v.told != 200 || v.end || !strings.HasPrefix(v.given, v.came) {
				t.Fatalf("%d of seat %d is told %d bytes that were not given", f.Stream, seat, len(f.Body))
			}
			v.end = f.Flags == 1
			p.met["told"] += len(f.Body)
		case impl.FrReset:
			if v != nil {
				v.reset = true
			}
		}
	}
}

func (p *party) state(seat, id int64) int64 { return impl.StateOf(p.g.Seats[seat].Conn.Registry, id) }

// openOf is by what the clients know, not by the gate's Dials and Flights.
func (p *party) openOf(name string) int64 {
	n := int64(0)
	for seat, x := range p.guests {
		for id, v := range x.visits {
			if v.name == name && v.code == 200 && (!v.dialed || v.yes) && p.state(int64(seat), id) != closed {
				n++
			}
		}
	}
	return n
}

// sends has the guest begin a frame, where the last one is through.
func (p *party) sends(seat int64) {
	x, c := p.guests[seat], p.g.Seats[seat].Conn
	if len(x.ids) == 0 || p.next(5) == 0 {
		block, _, _ := impl.Encoded(x.heads, asking(p.target(), p.token(p.g.Now)))
		x.frame = frame(2, int64(p.next(9)/8), freshId(c.Registry), block)
	} else {
		id := x.ids[len(x.ids)-1-p.next(uint32(min(len(x.ids), 6)))]
		o := flowIn(&c, id)
		room := min(o.Tunnel.Up.Room-int64(len(o.Tunnel.Up.Bytes)), o.Get, c.Get, 400)
		switch p.next(10) {
		case 0, 1:
			x.frame = resetOn(id, 1)
		case 2:
			x.frame = windowOn(id*int64(p.next(2)), 1+p.upTo(700))
		case 3:
			x.frame = lastDataOn(id, p.bytes(p.upTo(max(room, 0))))
		default:
			x.frame = dataOn(id, p.bytes(p.upTo(max(room, 0))))
		}
		// Nobody speaks behind an end here: what that makes is asked in the tests of chapter 17.
		if state := p.state(seat, id); x.frame.Kind == impl.FrData && state != open && state != theirs {
			x.frame = settled()
		}
	}
	x.wire = shown(x.frame)
}

// comes brings some bytes of the frame; with its last ones, what is to become of it is known ahead.
func (p *party) comes(t *testing.T, seat int64) {
	t.Helper()
	x := p.guests[seat]
	if x.wire == "" {
		p.sends(seat)
	}
	n := len(x.wire)
	if p.next(4) == 0 {
		n = p.next(uint32(n + 1))
	}
	text := x.wire[:n]
	x.wire = x.wire[n:]
	f := x.frame
	if x.wire != "" {
		if told := p.happens(t, comes(seat, text)); told != 0 {
			t.Fatal("a piece of a frame is answered")
		}
		return
	}
	known := len(p.g.Dials)
	switch f.Kind {
	case impl.FrHead:
		p.opens(t, seat, f)
	case impl.FrData:
		if v := x.visits[f.Stream]; p.state(seat, f.Stream) == open || p.state(seat, f.Stream) == theirs {
			v.sent += f.Body
		}
	}
	p.happens(t, comes(seat, text))
	if v := x.visits[f.Stream]; f.Kind == impl.FrHead && v != nil {
		asked := v.code == 200 && len(p.g.Dials) == known+1
		answered := v.code != 200 && len(p.g.Dials) == known && v.told == v.code && v.end
		if !asked && !answered {
			t.Fatalf("%#v: %s", v, briefGate(p.g))
		}
	}
}

// opens reckons what becomes of a head before it is through.
func (p *party) opens(t *testing.T, seat int64, f impl.Frame) {
	t.Helper()
	x, c := p.guests[seat], p.g.Seats[seat].Conn
	fields, then, is := impl.Decoded(x.heads, f.Body)
	if !is {
		t.Fatal(f)
	}
	x.heads = then
	if c.Away || impl.Live(c.Registry) == c.Registry.Limit || len(c.Registry.Entries) == 60 {
		p.met["refused"]++
		return
	}
	token := valueOf(fields, "token")
	name, _, _ := readAsWritten(token)
	code := admittedAsWritten(p.g.Tenants, token, valueOf(fields, "to"), p.g.Now, p.openOf(name))
	x.visits[f.Stream] = &visit{name: name, code: code}
	x.ids = append(x.ids, f.Stream)
}

func (p *party) some() (int64, int64, *visit) {
	seat := int64(p.next(uint32(len(p.guests))))
	x := p.guests[seat]
	if len(x.ids) == 0 {
		return seat, 1, &visit{}
	}
	id := x.ids[len(x.ids)-1-p.next(uint32(min(len(x.ids), 6)))]
	return seat, id, x.visits[id]
}

func (p *party) step(t *testing.T) {
	t.Helper()
	seat, id, v := p.some()
	flies := v.code == 200 && v.yes
	switch p.next(12) {
	case 0, 1, 2, 3:
		p.comes(t, seat)
	case 4, 5:
		yes, waits := p.next(3) > 0, v.code == 200 && !v.dialed
		if n := p.happens(t, dials(seat, id, yes)); (n >= 0) != waits {
			t.Fatalf("%d of seat %d is dialed: %d, %#v", id, seat, n, v)
		}
		if waits {
			v.dialed, v.yes = true, yes
		}
	case 6, 7:
		if n := p.happens(t, takes(seat, id, p.upTo(500))); (n >= 0) != flies {
			t.Fatalf("%d of seat %d is taken: %d, %#v", id, seat, n, v)
		}
	case 8, 9:
		text, end := p.bytes(p.upTo(500)), p.next(6) == 0
		then, n := happenAsWritten(p.g, gives(seat, id, text, end))
		v.given += text[:max(n, 0)]
		if got := p.happens(t, gives(seat, id, text, end)); got != n || (n >= 0) != flies || !sameGate(p.g, then) {
			t.Fatalf("%d of seat %d is given: %d, not %d, %#v", id, seat, got, n, v)
		}
	case 10:
		p.happens(t, flushes(seat))
	default:
		p.happens(t, ticks(p.upTo(2)))
	}
}

// holds asks that the gate has the Dials and the Flights of those who were let in, and of nobody else.
func (p *party) holds(t *testing.T) {
	t.Helper()
	dialCount, flightCount, live := 0, 0, map[string]int64{}
	for seat, x := range p.guests {
		for id, v := range x.visits {
			gateHas := &acting{Gate: p.g}
			if waits := v.code == 200 && !v.dialed; waits != gateHas.hasDial(int64(seat), id) {
				t.Fatalf("%d of seat %d: %#v, %s", id, seat, v, briefGate(p.g))
			} else if waits {
				dialCount++
			}
			text, is := impl.WentTo(p.g, int64(seat), id)
			if is != (v.code == 200 && v.yes) || !strings.HasPrefix(v.sent, text) {
				t.Fatalf("%d of seat %d: %q went, %#v", id, seat, text, v)
			}
			if !is {
				continue
			}
			flightCount++
			if f := gateHas.flightAt(int64(seat), id); f.Name != v.name || !slices.Contains([]string{"anna", "bert"}, v.name) {
				t.Fatalf("%#v of %#v", f, v)
			}
		}
	}
	if len(p.g.Dials) != dialCount || len(p.g.Flights) != flightCount {
		t.Fatalf("%d Dials and %d Flights: %s", dialCount, flightCount, briefGate(p.g))
	}
	for _, x := range p.g.Tenants {
		if live[x.Name] = p.openOf(x.Name); live[x.Name] > x.Quota {
			t.Fatalf("%s has %d of %d", x.Name, live[x.Name], x.Quota)
		}
	}
}

// Nobody has a Flight that was not Admitted, nor more of them than the Quota; what went out of it is what was sent, and
// what lies in Out is what was answered and given.
func TestNobodyFliesWhoWasNotAdmitted(t *testing.T) {
	met := map[string]int{}
	for seed := range uint32(40) {
		p := newParty(180+seed, 1+int(seed%4))
		for step := range 450 {
			if step == 400 {
				p.happens(t, drains())
			}
			p.step(t)
			p.holds(t)
		}
		for _, f := range p.g.Flights {
			met["went"] += len(f.Text)
		}
		for what, n := range p.met {
			met[what] += n
		}
	}
	for what, least := range map[string]int{"200": 100, "401": 50, "403": 30, "429": 15, "502": 20, "told": 5000, "went": 5000, "refused": 20} {
		if met[what] < least {
			t.Fatalf("too little of %s: %v", what, met)
		}
	}
}
