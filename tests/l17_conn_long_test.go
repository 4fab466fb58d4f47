package tests

import (
	"slices"
	"strings"
	"testing"
	"unsafe"

	"loop.example/g00296/impl"
)

// someWindow is mostly near nought or near an end.
func (s *source) someWindow() int64 {
	switch s.next(6) {
	case 0:
		return s.window()
	case 1:
		return top - int64(s.next(1200))
	case 2:
		return int64(s.next(12)) - 2
	default:
		return int64(s.next(2000))
	}
}

// conn is right: up to eight streams in any state, of which some have said more than others.
func (s *source) conn() impl.Conn {
	c := freshConn(0)
	c.Get, c.Give, c.First = s.someWindow(), s.someWindow(), max(0, s.someWindow())
	c.Away, c.Dead = s.next(6) == 0, s.next(30) == 0
	for range s.next(9) {
		c.Registry.Top += int64(2*s.next(3)) + 1 + c.Registry.Top%2
		c.Registry.Entries = append(c.Registry.Entries, entry(c.Registry.Top, int64(1+s.next(4))))
		f := flow(c.Registry.Top, s.someWindow(), s.someWindow(), s.tunnel(), s.fields(3)...)
		f.Ended = s.next(5) == 0
		c.Flows = append(c.Flows, f)
	}
	c.Registry.Limit = liveAsWritten(c.Registry) + int64(s.next(3))
	c.InTable, c.OutTable = table(int64(s.next(400))), table(int64(s.next(400)))
	for _, f := range s.fields(6) {
		c.InTable = notedAsWritten(c.InTable, f)
	}
	for range s.next(4) {
		c.OutTable = notedAsWritten(c.OutTable, field(":status", []string{"200", "404", "502"}[s.next(3)]))
	}
	return c
}

// frame is on a stream near those there are, and mostly right.
func (s *source) frame(c impl.Conn) impl.Frame {
	id := s.streamId(c.Registry)
	switch s.next(12) {
	case 0:
		return settleTo(s.upTo(top))
	case 1:
		return []impl.Frame{settled(), frame(5, int64(s.next(2)), 0, s.bytes(4)), awayWith(s.upTo(9))}[s.next(3)]
	case 2:
		return windowOn(id*int64(s.next(2)), s.upTo(top))
	case 3:
		return resetOn(id, s.upTo(255))
	case 4, 5, 6:
		return s.head(c, id)
	case 7:
		return frame(int64(s.next(9)), int64(s.next(5)), id*int64(s.next(2)), s.bytes(s.upTo(5)))
	default:
		return s.data(c, id)
	}
}

func (s *source) head(c impl.Conn, id int64) impl.Frame {
	if s.next(3) > 0 {
		id = freshId(c.Registry)
	}
	block, _, _ := impl.Encoded(c.InTable, s.fields(20))
	if s.next(8) == 0 {
		block += s.bytes(s.upTo(3))
	}
	return frame(2, int64(s.next(2)), id, block[:min(len(block), 1000)])
}

// data is often around how much a window, or the tunnel, has room for.
func (s *source) data(c impl.Conn, id int64) impl.Frame {
	edges := []int64{20, 1000, c.Get, c.Get + 1}
	if i := slices.IndexFunc(c.Flows, func(f impl.Flow) bool { return f.Id == id }); i >= 0 {
		f := c.Flows[i]
		room := f.Tunnel.Up.Room - int64(len(f.Tunnel.Up.Bytes))
		edges = append(edges, f.Get, f.Get+1, room, room+1, room+2)
	}
	n := min(max(0, edges[s.next(uint32(len(edges)))]), 1000)
	body := s.bytes(n)
	if n > 0 && s.next(3) == 0 {
		pad := byte(s.next(uint32(min(n, 256))))
		return frame(1, 2+int64(s.next(2)), id, string([]byte{pad})+body[1:])
	}
	return frame(1, int64(s.next(2)), id, body)
}

// tally has how many frames of each Kind were told.
type tally [8]int

func (n *tally) add(told []impl.Frame) {
	for _, f := range told {
		n[f.Kind]++
	}
}

// did asks one of the five functions about the connection, and has what it became.
func (s *source) did(t *testing.T, c impl.Conn, n *tally) impl.Conn {
	t.Helper()
	id := s.streamId(c.Registry)
	switch s.next(10) {
	case 0, 1, 2, 3, 4:
		f := s.frame(c)
		then, told := gotAsWritten(c, f)
		isGot(t, c, f, then, told...)
		n.add(told)
		return then
	case 5:
		most := s.upTo(2000) - 1
		then, told, gone := tookAsWritten(c, id, most)
		isTook(t, c, id, most, then, gone, told...)
		n.add(told)
		return then
	case 6:
		code := []int64{200, 200, 200, 100 + s.upTo(899), s.upTo(1100)}[s.next(5)]
		then, told := repliedAsWritten(c, id, code)
		isReplied(t, c, id, code, then, told...)
		n.add(told)
		return then
	case 7, 8:
		text, end := s.bytes(s.upTo(1200)), s.next(3) == 0
		then, took := givenAsWritten(c, id, text, end)
		isGiven(t, c, id, text, end, then, took)
		return then
	default:
		then, told := flushedAsWritten(c)
		isFlushed(t, c, then, told...)
		n.add(told)
		return then
	}
}

func TestManyConnsAsWritten(t *testing.T) {
	s := source{seed: 17}
	var n tally
	for range 2500 {
		c := s.conn()
		isConnOk(t, c, true)
		for range 6 {
			s.did(t, c, &n)
		}
	}
	for kind, told := range n {
		if kind > 0 && told < 40 {
			t.Fatalf("too few are told: %v", n)
		}
	}
}

// Whatever a connection Got, Took, Replied, was Given or Flushed, it is right, and goes on as the chapter says.
func TestConnsStayRight(t *testing.T) {
	var n tally
	dead, streams := 0, 0
	for seed := range uint32(120) {
		s := source{seed: 1700 + seed}
		c := freshConn(int64(seed % 21))
		if seed%3 == 0 {
			c = s.conn()
		}
		for range 150 {
			then := s.did(t, c, &n)
			// Most that would be the end is asked for, and left aside, so that the way is long.
			if !then.Dead || s.next(40) == 0 {
				c = then
			}
		}
		isConnOk(t, c, true)
		if c.Dead {
			dead++
		}
		streams += len(c.Flows)
	}
	if dead < 20 || dead > 110 || streams < 200 {
		t.Fatal(dead, streams, n)
	}
}

// talk is one stream as the other end knows it: what it let be told and what was, what was Given and what
// came of it, and the same of what it sent itself.
type talk struct {
	let, told          int64
	may                int64
	given, came        string
	sent, took         string
	ended, shut, reset bool
}

// peer is an other end that keeps to its windows.
type peer struct {
	source
	c              impl.Conn
	let, told, may int64
	first          int64
	heads, replies impl.Table // they go along with InTable and OutTable
	talks          map[int64]*talk
	ids            []int64
	met            map[string]int
}

func newPeer(t *testing.T, seed uint32, limit int64) *peer {
	c, is := impl.NewConn(limit)
	if !is {
		t.Fatal(limit)
	}
	return &peer{source: source{seed: seed}, c: c, let: 2000, may: 2000, first: 500, heads: table(400), replies: table(400),
		talks: map[int64]*talk{}, met: map[string]int{}}
}

// got sends a frame and hears what is told of it.
func (p *peer) got(t *testing.T, f impl.Frame) []impl.Frame {
	t.Helper()
	c, told := impl.Got(p.c, f)
	p.c = c
	p.hear(t, told)
	return told
}

func (p *peer) hear(t *testing.T, told []impl.Frame) {
	t.Helper()
	for _, f := range told {
		if !impl.FrameOk(f) {
			t.Fatalf("%#v is told, which is no frame", f)
		}
		x := p.talks[f.Stream]
		switch f.Kind {
		case impl.FrData:
			p.hearData(t, x, f)
		case impl.FrHead:
			p.hearHead(t, x, f)
		case impl.FrReset:
			if x != nil {
				x.reset = true
			}
		case impl.FrWindow:
			if f.Stream == 0 {
				p.may += impl.Number(f.Body)
			} else {
				x.may += impl.Number(f.Body)
			}
		case impl.FrAway:
			t.Fatalf("%#v is told to one that does nothing wrong", f)
		}
	}
}

func (p *peer) hearData(t *testing.T, x *talk, f impl.Frame) {
	t.Helper()
	n := int64(len(f.Body))
	x.told += n
	p.told += n
	if n > 0 && (x.told > x.let || p.told > p.let) {
		t.Fatalf("stream %d was told %d of %d, all of them %d of %d", f.Stream, x.told, x.let, p.told, p.let)
	}
	if x.ended || x.reset {
		t.Fatalf("%#v is told behind the end", f)
	}
	x.came += f.Body
	if !strings.HasPrefix(x.given, x.came) || f.Flags > 1 {
		t.Fatalf("stream %d was not given what is told: %d bytes came", f.Stream, len(x.came))
	}
	p.met["told"] += len(f.Body)
	if x.ended = f.Flags == 1; x.ended {
		p.met["end told"]++
		if x.given != x.came {
			t.Fatalf("%d of %d bytes were told ahead of the end", len(x.came), len(x.given))
		}
	}
}

func (p *peer) hearHead(t *testing.T, x *talk, f impl.Frame) {
	t.Helper()
	fields, then, is := impl.Decoded(p.replies, f.Body)
	if !is || len(fields) != 1 || fields[0].Name != ":status" || (fields[0].Value == "200") != (f.Flags == 0) || x.ended {
		t.Fatalf("%#v is told: %v, %v", f, fields, is)
	}
	p.replies = then
	x.ended = f.Flags == 1
	p.met["reply"]++
}

// some is one of the streams there were, mostly of the newest.
func (p *peer) some() (int64, *talk) {
	if len(p.ids) == 0 {
		return 0, &talk{shut: true, ended: true, reset: true}
	}
	at := len(p.ids) - 1 - p.next(uint32(min(len(p.ids), 5)))
	return p.ids[at], p.talks[p.ids[at]]
}

func (p *peer) opens(t *testing.T) {
	t.Helper()
	id := freshId(p.c.Registry)
	fields := p.fields(5)
	block, then, _ := impl.Encoded(p.heads, fields)
	p.heads = then
	told := p.got(t, headOn(id, block))
	if len(told) > 0 {
		p.met["refused"]++
		return
	}
	p.talks[id] = &talk{let: p.first, may: 1000}
	p.ids = append(p.ids, id)
	if !slices.Equal(flowIn(&p.c, id).Fields, fields) {
		t.Fatalf("stream %d has %v, not %v", id, flowIn(&p.c, id).Fields, fields)
	}
}

// sends is data within both windows, with a pad now and then.
func (p *peer) sends(t *testing.T) {
	t.Helper()
	id, x := p.some()
	if x.shut || x.reset {
		return
	}
	n := p.upTo(min(p.may, x.may, 1000))
	body, text, flags := p.bytes(n), "", int64(0)
	if text = body; n > 0 && p.next(3) == 0 {
		pad := p.upTo(min(n-1, 255))
		body = string([]byte{byte(pad)}) + body[1:]
		text, flags = body[1:n-pad], 2
	}
	if p.next(12) == 0 {
		flags++
		x.shut = true
	}
	p.may -= n
	x.may -= n
	x.sent += text
	p.got(t, frame(1, flags, id, body))
	if x.reset {
		t.Fatalf("stream %d failed: %s", id, brief(p.c))
	}
	p.met["sent"] += len(text)
}

func (p *peer) grants(t *testing.T) {
	t.Helper()
	n := 1 + p.upTo(600)
	id, x := p.some()
	if p.next(2) == 0 || id == 0 {
		p.let += n
		p.got(t, windowOn(0, n))
		return
	}
	if impl.StateOf(p.c.Registry, id) != closed {
		x.let += n
	}
	p.got(t, windowOn(id, n))
}

// settles changes how much each stream was let from the first, so that some were told more than they may be now.
func (p *peer) settles(t *testing.T) {
	t.Helper()
	n := p.upTo(900)
	for _, x := range p.talks {
		x.let += n - p.first
	}
	p.first = n
	if told := p.got(t, settleTo(n)); !slices.Equal(told, []impl.Frame{settled()}) {
		t.Fatal(told)
	}
}

func (p *peer) takes(t *testing.T) {
	t.Helper()
	id, x := p.some()
	c, told, gone := impl.Took(p.c, id, p.upTo(1000)-1)
	p.c = c
	x.took += gone
	p.hear(t, told)
	if !strings.HasPrefix(x.sent, x.took) {
		t.Fatalf("stream %d: %q was not sent", id, gone)
	}
	p.met["took"] += len(gone)
}

func (p *peer) gives(t *testing.T) {
	t.Helper()
	id, x := p.some()
	text, end := p.bytes(p.upTo(700)), p.next(10) == 0
	c, n := impl.Given(p.c, id, text, end)
	p.c = c
	x.given += text[:n]
}

func (p *peer) step(t *testing.T) {
	t.Helper()
	switch p.next(16) {
	case 0:
		p.opens(t)
	case 1, 2, 3:
		p.sends(t)
	case 4, 5:
		p.grants(t)
	case 6:
		p.settles(t)
	case 7, 8, 9:
		p.takes(t)
	case 10, 11, 12:
		p.gives(t)
	case 13:
		id, x := p.some()
		switch p.next(12) {
		case 0:
			if id > 0 {
				x.reset = true
				p.got(t, resetOn(id, p.upTo(255)))
			}
		default:
			code := []int64{200, 200, 200, 200, 100, 404, 999}[p.next(7)]
			c, told := impl.Replied(p.c, id, code)
			p.c = c
			p.hear(t, told)
		}
	default:
		c, told := impl.Flushed(p.c)
		p.c = c
		p.hear(t, told)
	}
}

// holds asks that both ends reckon alike, and that no byte is lost between them.
func (p *peer) holds(t *testing.T) {
	t.Helper()
	if !impl.ConnOk(p.c) || p.c.Dead || p.c.Get != p.may || p.c.Give != p.let-p.told || p.c.First != p.first || !sameTable(p.c.InTable, p.heads) || !sameTable(p.c.OutTable, p.replies) {
		t.Fatalf("the other end has %d, %d less %d, %d, %v, %v: %s", p.may, p.let, p.told, p.first, p.heads, p.replies, brief(p.c))
	}
	for _, f := range p.c.Flows {
		x := p.talks[f.Id]
		if f.Get != x.may || f.Give != x.let-x.told || f.Tunnel.Went != int64(len(x.took)) || f.Tunnel.Came != int64(len(x.came)) {
			t.Fatalf("the other end has %d, %d less %d on stream %d: %s", x.may, x.let, x.told, f.Id, brief(p.c))
		}
		if !f.Tunnel.Up.Broken && x.took+f.Tunnel.Up.Bytes != x.sent || !f.Tunnel.Down.Broken && x.came+f.Tunnel.Down.Bytes != x.given {
			t.Fatalf("of stream %d bytes are lost: %s", f.Id, brief(p.c))
		}
	}
}

// Over a long way what is told of a stream is what was Given to it, in order, within both windows, and nothing
// behind its end; and what was Took is what was sent.
func TestNoMoreIsToldThanBothWindowsLet(t *testing.T) {
	met := map[string]int{}
	for seed := range uint32(12) {
		p := newPeer(t, seed, int64(3+seed))
		for range 900 {
			p.step(t)
			p.holds(t)
		}
		for what, n := range p.met {
			met[what] += n
		}
	}
	for what, least := range map[string]int{"told": 20000, "sent": 20000, "took": 20000, "end told": 20, "reply": 100, "refused": 20} {
		if met[what] < least {
			t.Fatalf("too little of %s: %v", what, met)
		}
	}
}

// Replies are read by a table that goes along, though the rows go as others come.
func TestRepliesAreReadByATableThatGoesAlong(t *testing.T) {
	for _, room := range []int64{0, 17, 18, 19, 40, 400, 1000} {
		c := with(freshConn(20), func(c *impl.Conn) { c.OutTable = table(room) })
		other := table(room)
		s := source{seed: uint32(room)}
		for i := range int64(120) {
			c, _ = impl.Got(c, headOn(2*i+1, ""))
			code := 100 + s.upTo(899)
			if s.next(2) == 0 {
				code = 200
			}
			then, told := impl.Replied(c, 2*i+1, code)
			if len(told) != 1 {
				t.Fatal(i, told, brief(c))
			}
			fields, next, is := impl.Decoded(other, told[0].Body)
			if !is || len(fields) != 1 || !sameTable(next, then.OutTable) || code == 200 && fields[0].Value != "200" {
				t.Fatalf("%d: %v, %v, %v", code, fields, is, next)
			}
			other = next
			// Closed and swept away, so that there is always room for one more.
			c, _ = impl.Got(then, resetOn(2*i+1, 0))
			c.Registry = impl.Swept(c.Registry)
			c.Flows = nil
		}
	}
}

// watchedConn has all texts over buffers, and all lists amidst others that show a write beside them.
type watchedConn struct {
	watched
	given   impl.Conn
	entries [2][]impl.Entry
	flows   [2][]impl.Flow
	rows    [][2][]impl.Field
}

// beside has a list amidst others: what is given of it, all of it, and a copy of that.
func beside[T any](items []T, ahead, behind T) (given []T, all [2][]T) {
	every := slices.Concat([]T{ahead}, items, []T{behind, behind})
	return every[1 : 1+len(items)], [2][]T{every, slices.Clone(every)}
}

func (w *watchedConn) list(fields []impl.Field) []impl.Field {
	var over []impl.Field
	for _, f := range fields {
		over = append(over, w.field(f))
	}
	given, all := beside(over, field("ahead", "a"), field("behind", "b"))
	w.rows = append(w.rows, all)
	return given
}

func watchConn(c impl.Conn) *watchedConn {
	w := &watchedConn{given: c}
	w.given.Registry.Entries, w.entries = beside(c.Registry.Entries, entry(71, 72), entry(73, 74))
	w.given.InTable.Rows, w.given.OutTable.Rows = w.list(c.InTable.Rows), w.list(c.OutTable.Rows)
	var over []impl.Flow
	for _, f := range c.Flows {
		f.Fields = w.list(f.Fields)
		f.Tunnel = w.tunnel(f.Tunnel)
		over = append(over, f)
	}
	w.given.Flows, w.flows = beside(over, flow(75, 1, 2, impl.Tunnel{}), flow(77, 3, 4, impl.Tunnel{}))
	return w
}

func (w *watchedConn) stays(t *testing.T, c impl.Conn) {
	t.Helper()
	w.stay(t)
	if !sameConn(w.given, c) || !slices.Equal(w.entries[0], w.entries[1]) || !slices.EqualFunc(w.flows[0], w.flows[1], sameFlow) {
		t.Fatalf("%s became %s, %v", brief(c), brief(w.given), w.entries)
	}
	for _, rows := range w.rows {
		if !slices.Equal(rows[0], rows[1]) {
			t.Fatalf("%v became %v", rows[1], rows[0])
		}
	}
}

// changeAll writes into all that was handed in.
func (w *watchedConn) changeAll() {
	w.change()
	for i := range w.entries[0] {
		w.entries[0][i] = entry(-5, -6)
	}
	for _, rows := range w.rows {
		for i := range rows[0] {
			rows[0][i] = field("changed", "changed")
		}
	}
	for i := range w.flows[0] {
		w.flows[0][i] = flow(-7, -8, -9, impl.Tunnel{})
	}
}

func spanOf[T any](list []T) [2]uintptr {
	var one T
	from := uintptr(unsafe.Pointer(unsafe.SliceData(list)))
	if cap(list) == 0 {
		return [2]uintptr{}
	}
	return [2]uintptr{from, from + uintptr(cap(list))*unsafe.Sizeof(one)}
}

func connSpans(c impl.Conn, told []impl.Frame) [][2]uintptr {
	all := [][2]uintptr{spanOf(c.Registry.Entries), spanOf(c.InTable.Rows), spanOf(c.OutTable.Rows), spanOf(c.Flows), spanOf(told)}
	for _, f := range c.Flows {
		all = append(all, spanOf(f.Fields))
	}
	return all
}

// connTexts are those in which memory could be shared.
func connTexts(c impl.Conn, told []impl.Frame, more ...string) []string {
	for _, x := range told {
		more = append(more, x.Body)
	}
	for _, f := range slices.Concat(c.InTable.Rows, c.OutTable.Rows) {
		more = append(more, f.Name, f.Value)
	}
	for _, x := range c.Flows {
		for _, f := range x.Fields {
			more = append(more, f.Name, f.Value)
		}
		more = append(more, x.Tunnel.Up.Bytes, x.Tunnel.Down.Bytes)
	}
	return slices.DeleteFunc(more, func(s string) bool { return len(s) < 2 })
}

// isApart asks that an answer shares no memory with what was handed in, nor two lists or texts of it with each other.
func (w *watchedConn) isApart(t *testing.T, what string, c impl.Conn, told []impl.Frame, more ...string) {
	t.Helper()
	w.partsFrom(t, what, connTexts(c, told, more...))
	spans := connSpans(c, told)
	for i, a := range spans {
		for _, b := range slices.Concat(spans[:i], connSpans(w.given, nil)) {
			if meet(a, b) {
				t.Fatalf("%s: lists of %s share memory", what, brief(c))
			}
		}
	}
}

// scribble writes into all lists of an answer.
func scribble(c impl.Conn, told []impl.Frame) {
	for i := range told {
		told[i] = frame(-1, -2, -3, "scribbled")
	}
	for i := range c.Registry.Entries {
		c.Registry.Entries[i] = entry(-1, -2)
	}
	for _, x := range c.Flows {
		for i := range x.Fields {
			x.Fields[i] = field("scribbled", "s")
		}
	}
	for i := range c.Flows {
		c.Flows[i] = flow(-1, -2, -3, impl.Tunnel{})
	}
	for i := range c.InTable.Rows {
		c.InTable.Rows[i] = field("scribbled", "i")
	}
	for i := range c.OutTable.Rows {
		c.OutTable.Rows[i] = field("scribbled", "o")
	}
}

// memoryConns have lists and texts of all kinds, right and wrong.
func memoryConns() []impl.Conn {
	fields := list(field("to", "elsewhere"), field("token", "anna.50.1"))
	full := with(fourStates(), func(c *impl.Conn) {
		c.InTable, c.OutTable = table(400, fields...), table(400, field(":status", "404"), field(":status", "200"))
		c.Flows[0].Fields = fields
		c.Flows[0].Tunnel = tunnel(pipe(2000, strings.Repeat("up", 400)), endedPipe(2000, strings.Repeat("down", 500)), 5, 6)
		c.Give, c.Flows[0].Give = 9000, 8000
	})
	return []impl.Conn{
		freshConn(3), fourStates(), full,
		with(full, func(c *impl.Conn) { c.Away = true }), with(full, func(c *impl.Conn) { c.Dead = true }),
		with(full, func(c *impl.Conn) { c.Get = -1 }), with(full, func(c *impl.Conn) { c.Registry.Limit = 3 }),
		with(full, func(c *impl.Conn) { c.Give = top + 1 }), with(full, func(c *impl.Conn) { c.Registry.Limit = 1 }),
		with(full, func(c *impl.Conn) { c.Flows = c.Flows[1:] }), with(full, func(c *impl.Conn) { c.InTable.Room = 5 }),
		with(full, func(c *impl.Conn) { c.Flows[0].Fields = repeated(fields[0], 21) }),
	}
}

// memoryFrames are of each Kind, with each outcome of the connections above.
func memoryFrames(c impl.Conn) []impl.Frame {
	block, _, _ := impl.Encoded(c.InTable, list(field("to", "elsewhere"), field("another", "field"), field("to", "there")))
	text := strings.Repeat("text", 60)
	return []impl.Frame{
		{}, settled(), settleTo(700), settleTo(top), frame(5, 0, 0, "ping"), frame(5, 1, 0, "pong"), awayWith(3),
		windowOn(0, 70000), windowOn(0, top), windowOn(1, 70000), windowOn(1, top), windowOn(7, 5), windowOn(13, 5),
		headOn(11, block), lastHeadOn(11, block), headOn(11, "\x00\x00"), headOn(1, block), headOn(7, block), headOn(12, block),
		dataOn(1, text), lastDataOn(1, text), lastDataOn(5, text), dataOn(1, text+text+text+text), frame(1, 3, 1, "\x05"+text), dataOn(3, text), dataOn(7, text), dataOn(13, text), resetOn(1, 1), resetOn(13, 1),
	}
}

// connCall is one call of a function, and the same as these tests read the chapter.
type connCall struct {
	what string
	do   func(w *watchedConn, c impl.Conn) (impl.Conn, []impl.Frame, string)
	want func(c impl.Conn) (impl.Conn, []impl.Frame, string)
}

func connCalls(c impl.Conn) []connCall {
	var calls []connCall
	for _, f := range memoryFrames(c) {
		calls = append(calls, connCall{"Got", func(w *watchedConn, c impl.Conn) (impl.Conn, []impl.Frame, string) {
			then, told := impl.Got(c, frame(f.Kind, f.Flags, f.Stream, w.text(f.Body)))
			return then, told, ""
		}, func(c impl.Conn) (impl.Conn, []impl.Frame, string) {
			then, told := gotAsWritten(c, f)
			return then, told, ""
		}})
	}
	for _, id := range []int64{0, 1, 3, 5, 7, 9} {
		calls = append(calls, connCall{"Took", func(_ *watchedConn, c impl.Conn) (impl.Conn, []impl.Frame, string) {
			return impl.Took(c, id, 500)
		}, func(c impl.Conn) (impl.Conn, []impl.Frame, string) { return tookAsWritten(c, id, 500) }})
		for _, code := range []int64{99, 200, 404, 502} {
			calls = append(calls, connCall{"Replied", func(_ *watchedConn, c impl.Conn) (impl.Conn, []impl.Frame, string) {
				then, told := impl.Replied(c, id, code)
				return then, told, ""
			}, func(c impl.Conn) (impl.Conn, []impl.Frame, string) {
				then, told := repliedAsWritten(c, id, code)
				return then, told, ""
			}})
		}
		for _, text := range []string{"", "text", strings.Repeat("long", 600)} {
			calls = append(calls, connCall{"Given", func(w *watchedConn, c impl.Conn) (impl.Conn, []impl.Frame, string) {
				then, _ := impl.Given(c, id, w.text(text), true)
				return then, nil, ""
			}, func(c impl.Conn) (impl.Conn, []impl.Frame, string) {
				then, _ := givenAsWritten(c, id, text, true)
				return then, nil, ""
			}})
		}
	}
	return append(calls, connCall{"Flushed", func(_ *watchedConn, c impl.Conn) (impl.Conn, []impl.Frame, string) {
		then, told := impl.Flushed(c)
		return then, told, ""
	}, func(c impl.Conn) (impl.Conn, []impl.Frame, string) {
		then, told := flushedAsWritten(c)
		return then, told, ""
	}})
}

func TestConnArgumentsStayAndAnswersAreNewMemory(t *testing.T) {
	for _, c := range memoryConns() {
		for _, call := range connCalls(c) {
			w := watchConn(c)
			then, told, more := call.do(w, w.given)
			w.isApart(t, call.what, then, told, more)
			w.stays(t, c)
			scribble(then, told)
			w.stays(t, c)
			impl.ConnOk(w.given)
			w.stays(t, c)
		}
	}
}

// What was answered stays when what was handed in is changed later, down to the bytes of its texts.
func TestConnAnswersStayWhenTheArgumentsAreChanged(t *testing.T) {
	for _, c := range memoryConns() {
		for _, call := range connCalls(c) {
			w := watchConn(c)
			then, told, more := call.do(w, w.given)
			other, otherTold, _ := call.do(w, w.given)
			scribble(other, otherTold)
			w.changeAll()
			want, wantTold, wantMore := call.want(copiedConn(c))
			if !sameConn(then, want) || !slices.Equal(told, wantTold) || more != wantMore {
				t.Fatalf("%s of %s became %s, %#v, %q", call.what, brief(c), brief(then), told, more)
			}
		}
	}
}

// A fresh connection's two tables are apart, too, once there are rows in both.
func TestBothTablesOfAConnAreApart(t *testing.T) {
	c, _ := impl.NewConn(5)
	block, _, _ := impl.Encoded(c.InTable, list(field(":status", "404")))
	c, _ = impl.Got(c, headOn(1, block))
	c, _ = impl.Replied(c, 1, 404)
	if !sameTable(c.InTable, table(400, field(":status", "404"))) || !sameTable(c.OutTable, c.InTable) {
		t.Fatal(brief(c))
	}
	(&watchedConn{}).isApart(t, "Replied", c, nil)
}

// A call hangs on what it is given alone: what was asked ahead of it, or is asked beside it, does not change it.
func TestConnsAreTheSameWhateverWasAskedAhead(t *testing.T) {
	type asked struct {
		c     impl.Conn
		f     impl.Frame
		then  impl.Conn
		told  []impl.Frame
		flush []impl.Frame
	}
	s := source{seed: 171}
	var all []asked
	for range 150 {
		x := asked{c: s.conn()}
		x.f = s.frame(x.c)
		x.then, x.told = gotAsWritten(x.c, x.f)
		_, x.flush = flushedAsWritten(x.c)
		all = append(all, x)
	}
	same := func(x asked) bool {
		then, told := impl.Got(x.c, x.f)
		return sameConn(then, x.then) && slices.Equal(told, x.told) && slices.Equal(flushedFrames(x.c), x.flush)
	}
	for i, x := range slices.Backward(all) {
		if !same(x) {
			t.Fatalf("call %d of %s is another one backwards", i, brief(x.c))
		}
	}
	wrong := make(chan int, 8)
	for range cap(wrong) {
		go func() { wrong <- slices.IndexFunc(all, func(x asked) bool { return !same(x) }) }()
	}
	for range cap(wrong) {
		if i := <-wrong; i >= 0 {
			t.Errorf("call %d of %s is another one beside others", i, brief(all[i].c))
		}
	}
}
