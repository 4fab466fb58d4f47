package tests

import (
	"fmt"
	"slices"
	"strings"
	"testing"

	"loop.example/g00296/impl"
)

// The document's numbers, so that a constant of the program that is another one is seen.
const erProtocol, erFlow, erState, erTable, erRefused = 1, 2, 3, 4, 5

func threeBytes(n int64) string { return string([]byte{byte(n >> 16), byte(n >> 8), byte(n)}) }

// The frames that come, or are told, in few words.

func dataOn(stream int64, body string) impl.Frame { return frame(1, 0, stream, body) }

func lastDataOn(stream int64, body string) impl.Frame { return frame(1, 1, stream, body) }

func headOn(stream int64, block string) impl.Frame { return frame(2, 0, stream, block) }

func lastHeadOn(stream int64, block string) impl.Frame { return frame(2, 1, stream, block) }

func resetOn(stream, code int64) impl.Frame { return frame(3, 0, stream, string([]byte{byte(code)})) }

func settleTo(n int64) impl.Frame { return frame(4, 0, 0, threeBytes(n)) }

func settled() impl.Frame { return frame(4, 0, 0, "") }

func awayWith(code int64) impl.Frame { return frame(6, 0, 0, "\x00"+threeBytes(code)) }

func windowOn(stream, n int64) impl.Frame { return frame(7, 0, stream, threeBytes(n)) }

func flow(id, get, give int64, x impl.Tunnel, fields ...impl.Field) impl.Flow {
	return impl.Flow{Id: id, Get: get, Give: give, Fields: fields, Tunnel: x}
}

func emptyTunnel() impl.Tunnel { return tunnel(pipe(1000, ""), pipe(1000, ""), 0, 0) }

func freshConn(limit int64) impl.Conn {
	return impl.Conn{Registry: registry(limit, 0), InTable: table(400), OutTable: table(400), Get: 2000, Give: 2000, First: 500}
}

// fourStates has a stream in each state behind its head: 1 is open, only this end speaks on 3, only the
// other one on 5, and 7 is closed, with bytes that are still to be taken. 9 is used up without an Entry.
func fourStates() impl.Conn {
	ended := flow(5, 800, 300, tunnel(pipe(1000, "up5"), endedPipe(1000, ""), 0, 7), field("to", "c.x"))
	ended.Ended = true
	over := flow(7, 700, 200, tunnel(endedPipe(1000, "up7"), endedPipe(1000, ""), 3, 4), field("to", "d.x"), field("token", "t"))
	over.Ended = true
	return impl.Conn{
		Registry: registry(5, 9, entry(1, open), entry(3, mine), entry(5, theirs), entry(7, closed)),
		InTable:  table(400, field("token", "t"), field("to", "d.x")),
		OutTable: table(300, field(":status", "200")),
		Get:      2000, Give: 1500, First: 500,
		Flows: []impl.Flow{
			flow(1, 1000, 500, tunnel(pipe(1000, "up1"), pipe(1000, "down1"), 10, 20), field("to", "a.x")),
			flow(3, 900, 400, tunnel(endedPipe(1000, "up3"), pipe(1000, "down3"), 5, 6)),
			ended, over,
		},
	}
}

func sameFlow(a, b impl.Flow) bool {
	return a.Id == b.Id && a.Get == b.Get && a.Give == b.Give && slices.Equal(a.Fields, b.Fields) && a.Tunnel == b.Tunnel && a.Ended == b.Ended
}

func sameConn(a, b impl.Conn) bool {
	return sameRegistry(a.Registry, b.Registry) && sameTable(a.InTable, b.InTable) && sameTable(a.OutTable, b.OutTable) &&
		a.Get == b.Get && a.Give == b.Give && a.First == b.First && slices.EqualFunc(a.Flows, b.Flows, sameFlow) && a.Away == b.Away && a.Dead == b.Dead
}

func copiedConn(c impl.Conn) impl.Conn {
	c.Registry = copiedRegistry(c.Registry)
	c.InTable.Rows, c.OutTable.Rows = slices.Clone(c.InTable.Rows), slices.Clone(c.OutTable.Rows)
	c.Flows = slices.Clone(c.Flows)
	for i, f := range c.Flows {
		c.Flows[i].Fields = slices.Clone(f.Fields)
	}
	return c
}

// with is the connection with something else about it.
func with(c impl.Conn, change func(*impl.Conn)) impl.Conn {
	c = copiedConn(c)
	change(&c)
	return c
}

// flowIn is that of a stream that has one.
func flowIn(c *impl.Conn, id int64) *impl.Flow {
	return &c.Flows[slices.IndexFunc(c.Flows, func(f impl.Flow) bool { return f.Id == id })]
}

func setState(c *impl.Conn, id, state int64) {
	for i, e := range c.Registry.Entries {
		if e.Id == id {
			c.Registry.Entries[i].State = state
		}
	}
}

// setFailed is what is left of a stream that failed, or was reset.
func setFailed(c *impl.Conn, id int64) {
	setState(c, id, closed)
	x := &flowIn(c, id).Tunnel
	*x = tornAsWritten(*x)
}

// setDead is what is left of a connection that failed.
func setDead(c *impl.Conn) {
	c.Dead = true
	for i, f := range c.Flows {
		c.Flows[i].Tunnel = tornAsWritten(f.Tunnel)
	}
}

// brief tells a connection without hundreds of bytes.
func brief(c impl.Conn) string {
	s := fmt.Sprintf("{%v in %v out %v get %d give %d first %d away %v dead %v", c.Registry, c.InTable, c.OutTable, c.Get, c.Give, c.First, c.Away, c.Dead)
	for _, f := range c.Flows {
		s += fmt.Sprintf(" [%d get %d give %d %v %s ended %v]", f.Id, f.Get, f.Give, f.Fields, short(f.Tunnel), f.Ended)
	}
	return cut(s+"}", 4000)
}

func briefFrames(frames []impl.Frame) string { return cut(fmt.Sprintf("%#v", frames), 2000) }

func cut(s string, most int) string {
	if len(s) > most {
		return s[:most] + ".."
	}
	return s
}

// connAsWritten is what the chapter wants, want by want; the registry, the fields and the tunnels are
// held against the tests' own reading, too.
func connAsWritten(c impl.Conn) bool {
	if !registryAsWritten(c.Registry) || !impl.TableOk(c.InTable) || !impl.TableOk(c.OutTable) {
		return false
	}
	if !isWindowNumber(c.Get) || !isWindowNumber(c.Give) || c.First < 0 || c.First > top || len(c.Flows) != len(c.Registry.Entries) {
		return false
	}
	for i, f := range c.Flows {
		if f.Id != c.Registry.Entries[i].Id || !isWindowNumber(f.Get) || !isWindowNumber(f.Give) || len(f.Fields) > 20 || !tunnelAsWritten(f.Tunnel) {
			return false
		}
		for _, x := range f.Fields {
			if len(x.Name) < 1 || len(x.Name) > 40 || len(x.Value) > 60 {
				return false
			}
		}
	}
	return true
}

func isWindowNumber(n int64) bool { return n >= -top && n <= top }

// telling is a connection beside what is told, as these tests read the chapter.
type telling struct {
	impl.Conn
	told []impl.Frame
}

func (x *telling) tells(frames ...impl.Frame) { x.told = append(x.told, frames...) }

func (x *telling) state(id int64) int64 { return stateAsWritten(x.Registry, id) }

func (x *telling) event(id, event int64) { x.Registry, _ = happenedAsWritten(x.Registry, id, event) }

func (x *telling) connFails(code int64) {
	setDead(&x.Conn)
	x.tells(awayWith(code))
}

func (x *telling) streamFails(id, code int64) {
	setFailed(&x.Conn, id)
	x.tells(resetOn(id, code))
}

func (x *telling) connBack(n int64) {
	if n > 0 {
		x.Get += n
		x.tells(windowOn(0, n))
	}
}

func (x *telling) streamBack(id, n int64) {
	if n > 0 {
		flowIn(&x.Conn, id).Get += n
		x.tells(windowOn(id, n))
	}
}

func gotAsWritten(c impl.Conn, f impl.Frame) (impl.Conn, []impl.Frame) {
	if !connAsWritten(c) {
		return impl.Conn{}, nil
	}
	x := &telling{Conn: copiedConn(c)}
	if c.Dead || !frameAsWritten(f) {
		return x.Conn, nil
	}
	switch f.Kind {
	case impl.FrSettle:
		x.settle(f)
	case impl.FrPing:
		if f.Flags == 0 {
			x.tells(frame(5, 1, 0, f.Body))
		}
	case impl.FrAway:
		x.Away = true
	case impl.FrWindow:
		x.window(f)
	case impl.FrHead:
		x.head(f)
	case impl.FrData:
		x.data(f)
	case impl.FrReset:
		switch x.state(f.Stream) {
		case idle:
			x.connFails(erProtocol)
		default:
			x.event(f.Stream, gotReset)
			if slices.ContainsFunc(x.Flows, func(o impl.Flow) bool { return o.Id == f.Stream }) {
				setFailed(&x.Conn, f.Stream)
			}
		}
	}
	return x.Conn, x.told
}

func (x *telling) settle(f impl.Frame) {
	if f.Body == "" {
		return
	}
	n := impl.Number(f.Body)
	for _, o := range x.Flows {
		if !isWindowNumber(o.Give - x.First + n) {
			x.connFails(erFlow)
			return
		}
	}
	for i := range x.Flows {
		x.Flows[i].Give += n - x.First
	}
	x.First = n
	x.tells(settled())
}

func (x *telling) window(f impl.Frame) {
	n := impl.Number(f.Body)
	state := x.state(f.Stream)
	switch {
	case f.Stream == 0 && x.Give+n > top:
		x.connFails(erFlow)
	case f.Stream == 0:
		x.Give += n
	case state == idle:
		x.connFails(erProtocol)
	case state == closed:
	case flowIn(&x.Conn, f.Stream).Give+n > top:
		x.streamFails(f.Stream, erFlow)
	default:
		flowIn(&x.Conn, f.Stream).Give += n
	}
}

func (x *telling) head(f impl.Frame) {
	// How a block is read is asked in the tests of chapter 6.
	fields, then, is := impl.Decoded(x.InTable, f.Body)
	if !is {
		x.connFails(erTable)
		return
	}
	x.InTable = then
	switch state := x.state(f.Stream); state {
	case closed:
	case open, mine, theirs:
		x.streamFails(f.Stream, erState)
	case idle:
		r, code := openedAsWritten(x.Registry, f.Stream)
		x.Registry = r
		if code == reBad {
			x.connFails(erProtocol)
			return
		}
		if code == reFull {
			x.tells(resetOn(f.Stream, erRefused))
			return
		}
		x.Flows = append(x.Flows, flow(f.Stream, 1000, x.First, emptyTunnel(), fields...))
		if x.Away {
			x.streamFails(f.Stream, erRefused)
		} else if f.Flags == 1 {
			x.event(f.Stream, gotEnd)
			flowIn(&x.Conn, f.Stream).Tunnel.Up.Ended = true
		}
	}
}

func (x *telling) data(f impl.Frame) {
	n, payload := int64(len(f.Body)), payloadAsWritten(f)
	if n > x.Get {
		x.connFails(erFlow)
		return
	}
	x.Get -= n
	switch x.state(f.Stream) {
	case idle:
		x.connFails(erProtocol)
		return
	case mine:
		x.connBack(n)
		x.streamFails(f.Stream, erState)
		return
	case closed:
		x.connBack(n)
		return
	}
	o := flowIn(&x.Conn, f.Stream)
	is := false
	if n <= o.Get {
		o.Get -= n
		o.Tunnel, is = inAsWritten(o.Tunnel, payload, f.Flags%2 == 1)
	}
	if !is {
		x.connBack(n)
		x.streamFails(f.Stream, erFlow)
		return
	}
	if f.Flags%2 == 1 {
		x.event(f.Stream, gotEnd)
	}
	x.streamBack(f.Stream, n-int64(len(payload)))
	x.connBack(n - int64(len(payload)))
}

// doing is the connection to do something to, where it lets anything be done.
func doing(c impl.Conn, id int64) (*telling, bool) {
	if !connAsWritten(c) {
		return &telling{}, false
	}
	has := slices.ContainsFunc(c.Flows, func(f impl.Flow) bool { return f.Id == id })
	return &telling{Conn: copiedConn(c)}, has && !c.Dead
}

func maySendAsWritten(state int64) bool { return state == open || state == mine }

func tookAsWritten(c impl.Conn, id, n int64) (impl.Conn, []impl.Frame, string) {
	x, may := doing(c, id)
	if !may {
		return x.Conn, nil, ""
	}
	o := flowIn(&x.Conn, id)
	goes := min(max(n, 0), top-c.Get, top-o.Get)
	gone := ""
	o.Tunnel, gone = outAsWritten(o.Tunnel, goes)
	if x.state(id) != closed {
		x.streamBack(id, int64(len(gone)))
	}
	x.connBack(int64(len(gone)))
	return x.Conn, x.told, gone
}

func repliedAsWritten(c impl.Conn, id, code int64) (impl.Conn, []impl.Frame) {
	x, may := doing(c, id)
	if !may || !maySendAsWritten(x.state(id)) || code < 100 || code > 999 {
		return x.Conn, nil
	}
	parts, then := encodedAsWritten(x.OutTable, list(field(":status", fmt.Sprint(code))))
	x.OutTable = then
	if code == 200 {
		x.tells(headOn(id, parts[0]))
		return x.Conn, x.told
	}
	x.tells(lastHeadOn(id, parts[0]))
	x.event(id, sentEnd)
	flowIn(&x.Conn, id).Tunnel.Down.Ended = true
	return x.Conn, x.told
}

func givenAsWritten(c impl.Conn, id int64, s string, end bool) (impl.Conn, int64) {
	x, may := doing(c, id)
	if !may || !maySendAsWritten(x.state(id)) {
		return x.Conn, 0
	}
	o, took := flowIn(&x.Conn, id), int64(0)
	o.Tunnel, took = backAsWritten(o.Tunnel, s, end)
	return x.Conn, took
}

func flushedAsWritten(c impl.Conn) (impl.Conn, []impl.Frame) {
	if !connAsWritten(c) {
		return impl.Conn{}, nil
	}
	x := &telling{Conn: copiedConn(c)}
	if c.Dead {
		return x.Conn, nil
	}
	for i := range x.Flows {
		o := &x.Flows[i]
		if !maySendAsWritten(x.state(o.Id)) {
			continue
		}
		var told []impl.Frame
		for {
			down := o.Tunnel.Down.Bytes
			n := min(x.Give, o.Give, 1000, int64(len(down)), lastTime-o.Tunnel.Came)
			if n <= 0 {
				break
			}
			told = append(told, dataOn(o.Id, down[:n]))
			o.Tunnel.Down.Bytes = down[n:]
			o.Tunnel.Came += n
			o.Give -= n
			x.Give -= n
		}
		if o.Tunnel.Down.Bytes == "" && o.Tunnel.Down.Ended && !o.Ended {
			if told == nil {
				told = append(told, dataOn(o.Id, ""))
			}
			told[len(told)-1].Flags = 1
			o.Ended = true
			x.event(o.Id, sentEnd)
		}
		x.tells(told...)
	}
	return x.Conn, x.told
}

// Each asks for the connection then and for what is told, and, whatever is asked, that what was handed
// in is as it was, that what is answered is right where it was, and that each frame told is one.

func isGot(t *testing.T, c impl.Conn, f impl.Frame, then impl.Conn, told ...impl.Frame) {
	t.Helper()
	was := copiedConn(c)
	got, said := impl.Got(c, f)
	if !isConn(t, c, was, got, then, said, told) {
		t.Fatalf("that was Got of %s", cut(fmt.Sprintf("%#v", f), 300))
	}
}

func isTook(t *testing.T, c impl.Conn, id, n int64, then impl.Conn, gone string, told ...impl.Frame) {
	t.Helper()
	was := copiedConn(c)
	got, said, s := impl.Took(c, id, n)
	if !isConn(t, c, was, got, then, said, told) || s != gone {
		t.Fatalf("that was Took of %d, %d: %q, not %q", id, n, cut(s, 300), cut(gone, 300))
	}
}

func isReplied(t *testing.T, c impl.Conn, id, code int64, then impl.Conn, told ...impl.Frame) {
	t.Helper()
	was := copiedConn(c)
	got, said := impl.Replied(c, id, code)
	if !isConn(t, c, was, got, then, said, told) {
		t.Fatalf("that was Replied of %d, %d", id, code)
	}
}

func isGiven(t *testing.T, c impl.Conn, id int64, s string, end bool, then impl.Conn, n int64) {
	t.Helper()
	was := copiedConn(c)
	got, took := impl.Given(c, id, s, end)
	if !isConn(t, c, was, got, then, nil, nil) || took != n {
		t.Fatalf("that was Given of %d, %d bytes, %v: %d, not %d", id, len(s), end, took, n)
	}
}

func isFlushed(t *testing.T, c, then impl.Conn, told ...impl.Frame) {
	t.Helper()
	was := copiedConn(c)
	got, said := impl.Flushed(c)
	if !isConn(t, c, was, got, then, said, told) {
		t.Fatal("that was Flushed")
	}
}

// isConn tells what is not as asked, and leaves it to whoever asks to tell what was called.
func isConn(t *testing.T, c, was, got, then impl.Conn, said, told []impl.Frame) bool {
	t.Helper()
	switch {
	case !sameConn(got, then):
		t.Errorf("%s:\n%s, not\n%s", brief(was), brief(got), brief(then))
	case !slices.Equal(said, told):
		t.Errorf("%s told %s, not %s", brief(was), briefFrames(said), briefFrames(told))
	case !sameConn(c, was):
		t.Errorf("%s was changed: %s", brief(was), brief(c))
	case connAsWritten(was) && !impl.ConnOk(got):
		t.Errorf("%s became %s, which is not right", brief(was), brief(got))
	case slices.ContainsFunc(said, func(f impl.Frame) bool { return !impl.FrameOk(f) }):
		t.Errorf("%s told %s, which are not all right", brief(was), briefFrames(said))
	}
	return !t.Failed()
}

func isConnOk(t *testing.T, c impl.Conn, right bool) {
	t.Helper()
	if impl.ConnOk(c) != right {
		t.Fatalf("ConnOk(%s) is not %v", brief(c), right)
	}
}

// connAllAsWritten asks each function about the connection, with frames and numbers around its edges.
func connAllAsWritten(t *testing.T, c impl.Conn) {
	t.Helper()
	isConnOk(t, c, connAsWritten(c))
	for _, f := range framesAround(c) {
		then, told := gotAsWritten(c, f)
		isGot(t, c, f, then, told...)
	}
	for _, id := range streamsAround(c) {
		for _, n := range []int64{-1, 0, 1, 2, 3, 4, 2000} {
			then, told, gone := tookAsWritten(c, id, n)
			isTook(t, c, id, n, then, gone, told...)
		}
		for _, code := range []int64{99, 100, 200, 404, 999, 1000} {
			then, told := repliedAsWritten(c, id, code)
			isReplied(t, c, id, code, then, told...)
		}
		for _, end := range []bool{false, true} {
			for _, s := range []string{"", "\x00\xff", strings.Repeat("long", 500)} {
				then, n := givenAsWritten(c, id, s, end)
				isGiven(t, c, id, s, end, then, n)
			}
		}
	}
	then, told := flushedAsWritten(c)
	isFlushed(t, c, then, told...)
}

func streamsAround(c impl.Conn) []int64 {
	ids := []int64{-1, 0, 1, 2, lastId, 100000, c.Registry.Top, c.Registry.Top + 1, c.Registry.Top + 2}
	for _, f := range c.Flows {
		ids = append(ids, f.Id)
	}
	return append(ids, farNumbers()...)
}

// framesAround are of each Kind on each stream, some of them not right.
func framesAround(c impl.Conn) []impl.Frame {
	block, _, _ := impl.Encoded(c.InTable, list(field("to", "z"), field("to", "z")))
	frames := []impl.Frame{{}, settled(), settleTo(0), settleTo(top), settleTo(c.First), settleTo(c.First + 1), awayWith(1), frame(5, 0, 0, "ping"), frame(5, 1, 0, "pong"), frame(5, 2, 0, "ping")}
	for _, id := range streamsAround(c) {
		for _, n := range []int64{0, 1, top - 500, top} {
			frames = append(frames, windowOn(id, n))
		}
		for _, s := range []string{"", "\x00", "\x01hey\x00", "\xff", strings.Repeat("data", 250)} {
			for flags := range int64(5) {
				frames = append(frames, frame(1, flags, id, s))
			}
		}
		frames = append(frames, headOn(id, block), lastHeadOn(id, block), headOn(id, ""), headOn(id, "\x00"), frame(2, 2, id, block), resetOn(id, 3), frame(3, 0, id, ""))
	}
	return frames
}

func TestErrorsAreThoseOfTheDocument(t *testing.T) {
	if impl.ErProtocol != 1 || impl.ErFlow != 2 || impl.ErState != 3 || impl.ErTable != 4 || impl.ErRefused != 5 {
		t.Error(impl.ErProtocol, impl.ErFlow, impl.ErState, impl.ErTable, impl.ErRefused)
	}
}

func TestNewConn(t *testing.T) {
	for limit := range int64(21) {
		c, is := impl.NewConn(limit)
		if !is || !sameConn(c, freshConn(limit)) {
			t.Fatalf("NewConn(%d): %s, %v", limit, brief(c), is)
		}
		isConnOk(t, c, true)
		isFlushed(t, c, c)
	}
	for _, limit := range append(farNumbers(), -1, 21, 22, 60) {
		if c, is := impl.NewConn(limit); is || !sameConn(c, impl.Conn{}) {
			t.Fatalf("NewConn(%d): %s, %v", limit, brief(c), is)
		}
	}
}

// rightFlows are one for each Entry.
func rightFlows(r impl.Registry) []impl.Flow {
	var flows []impl.Flow
	for _, e := range r.Entries {
		flows = append(flows, flow(e.Id, 1000, 500, emptyTunnel()))
	}
	return flows
}

func rightConns() []impl.Conn {
	dead := with(fourStates(), setDead)
	conns := []impl.Conn{
		{}, freshConn(0), freshConn(20), fourStates(), dead,
		with(dead, func(c *impl.Conn) { c.Away = true }),
		// That it is Dead asks nothing of the tunnels.
		with(fourStates(), func(c *impl.Conn) { c.Dead, c.Away = true, true }),
		with(fourStates(), func(c *impl.Conn) { c.Away = true }),
		with(fourStates(), func(c *impl.Conn) { c.Flows[0].Ended, c.Flows[2].Ended = true, false }),
		with(fourStates(), func(c *impl.Conn) { c.Flows[1].Fields = repeated(sized(40, 60), 20) }),
		with(fourStates(), func(c *impl.Conn) { c.Flows[3].Fields = rightFields() }),
	}
	for _, w := range rightWindows() {
		conns = append(conns, with(fourStates(), func(c *impl.Conn) { c.Get = w }), with(fourStates(), func(c *impl.Conn) { c.Give = w }),
			with(fourStates(), func(c *impl.Conn) { c.Flows[0].Get, c.Flows[3].Get = w, w }), with(fourStates(), func(c *impl.Conn) { c.Flows[1].Give, c.Flows[2].Give = w, -w }),
			with(fourStates(), func(c *impl.Conn) { c.First = max(w, -w) }))
	}
	for _, r := range rightRegistries() {
		conns = append(conns, with(freshConn(1), func(c *impl.Conn) { c.Registry, c.Flows = r, rightFlows(r) }))
	}
	for _, x := range rightTables() {
		conns = append(conns, with(fourStates(), func(c *impl.Conn) { c.InTable = x }), with(fourStates(), func(c *impl.Conn) { c.OutTable = x }))
	}
	for i, x := range rightTunnels() {
		if i%11 == 0 {
			conns = append(conns, with(fourStates(), func(c *impl.Conn) { c.Flows[i%4].Tunnel = x }))
		}
	}
	return conns
}

// wrongConns each miss what the chapter wants by one thing.
func wrongConns() []impl.Conn {
	var conns []impl.Conn
	add := func(change func(*impl.Conn)) { conns = append(conns, with(fourStates(), change)) }
	for _, r := range wrongRegistries() {
		add(func(c *impl.Conn) { c.Registry, c.Flows = r, rightFlows(r) })
	}
	for _, x := range wrongTables() {
		add(func(c *impl.Conn) { c.InTable = x })
		add(func(c *impl.Conn) { c.OutTable = x })
	}
	for _, w := range append(wrongWindows(), farNumbers()...) {
		if w == -2 {
			continue
		}
		add(func(c *impl.Conn) { c.Get = w })
		add(func(c *impl.Conn) { c.Give = w })
		add(func(c *impl.Conn) { c.First = w })
		for i := range 4 {
			add(func(c *impl.Conn) { c.Flows[i].Get = w })
			add(func(c *impl.Conn) { c.Flows[i].Give = w })
		}
	}
	for _, w := range []int64{-1, -2, -500, -top} {
		add(func(c *impl.Conn) { c.First = w })
	}
	for i := range 4 {
		add(func(c *impl.Conn) { c.Flows = slices.Delete(c.Flows, i, i+1) })
		add(func(c *impl.Conn) { c.Flows = slices.Insert(c.Flows, i, c.Flows[i]) })
		add(func(c *impl.Conn) { c.Flows = slices.Insert(c.Flows, i, impl.Flow{}) })
		for _, id := range append(farNumbers(), -1, 0, 2, c1(i), 9, 11) {
			add(func(c *impl.Conn) { c.Flows[i].Id = id })
		}
		add(func(c *impl.Conn) { c.Flows[i].Fields = repeated(field("to", "a"), 21) })
		add(func(c *impl.Conn) { c.Flows[i].Fields = repeated(field("to", "a"), 5000) })
		for _, f := range wrongFields() {
			add(func(c *impl.Conn) { c.Flows[i].Fields = list(f) })
			add(func(c *impl.Conn) { c.Flows[i].Fields = append(repeated(field("to", "a"), 19), f) })
		}
		for j, x := range wrongTunnels() {
			if j%9 == i {
				add(func(c *impl.Conn) { c.Flows[i].Tunnel = x })
			}
		}
	}
	add(func(c *impl.Conn) { c.Flows = append(c.Flows, flow(9, 1000, 500, emptyTunnel())) })
	add(func(c *impl.Conn) { c.Flows = append(c.Flows, flow(11, 1000, 500, emptyTunnel())) })
	add(func(c *impl.Conn) { c.Flows[1], c.Flows[2] = c.Flows[2], c.Flows[1] })
	add(func(c *impl.Conn) { slices.Reverse(c.Flows) })
	add(func(c *impl.Conn) { c.Flows = nil })
	add(func(c *impl.Conn) { c.Registry.Entries = nil })
	add(func(c *impl.Conn) { c.Registry.Entries = c.Registry.Entries[1:] })
	return conns
}

// c1 is the Id of a neighbour.
func c1(i int) int64 { return []int64{3, 1, 7, 5}[i] }

func TestConnOk(t *testing.T) {
	for _, c := range rightConns() {
		isConnOk(t, c, true)
		if !connAsWritten(c) {
			t.Fatalf("the tests' own reading: %s", brief(c))
		}
	}
	for _, c := range wrongConns() {
		isConnOk(t, c, false)
		isConnOk(t, with(c, func(c *impl.Conn) { c.Dead, c.Away = true, true }), false)
		if connAsWritten(c) {
			t.Fatalf("the tests' own reading: %s", brief(c))
		}
	}
}

// Of one that is not right, each function answers the zero Conn, nothing, and 0, whatever else it is asked.
func TestOfAConnThatIsNotRight(t *testing.T) {
	none := impl.Conn{}
	for i, c := range wrongConns() {
		for _, f := range []impl.Frame{{}, settled(), settleTo(600), frame(5, 0, 0, "ping"), awayWith(1), windowOn(0, 1), windowOn(1, 1), windowOn(13, 1),
			headOn(1, ""), headOn(11, "\x40\x01Q\x01R"), headOn(11, "\x00"), dataOn(1, "x"), dataOn(7, "x"), dataOn(13, ""), resetOn(1, 1), frame(1, 4, 1, "x")} {
			isGot(t, c, f, none)
		}
		for _, id := range []int64{-1, 0, 1, 3, 5, 7, 9, 11} {
			isTook(t, c, id, 1, none, "")
			isReplied(t, c, id, 200, none)
			isReplied(t, c, id, 99, none)
			isGiven(t, c, id, "x", true, none, 0)
		}
		isFlushed(t, c, none)
		isFlushed(t, with(c, func(c *impl.Conn) { c.Dead = true }), none)
		isGot(t, with(c, func(c *impl.Conn) { c.Dead = true }), settled(), none)
		if i%29 == 0 {
			connAllAsWritten(t, c)
		}
	}
}

func TestRightConnsAsWritten(t *testing.T) {
	for i, c := range rightConns() {
		if len(c.Flows) < 9 || i%4 == 0 {
			connAllAsWritten(t, c)
		}
	}
}

// One that is Dead stays as it is and tells nothing, were its tunnels never torn.
func TestOfADeadConn(t *testing.T) {
	for _, live := range []impl.Conn{freshConn(4), fourStates(), with(fourStates(), setDead)} {
		c := with(live, func(c *impl.Conn) { c.Dead = true })
		for _, f := range framesAround(c) {
			isGot(t, c, f, c)
		}
		for _, id := range streamsAround(c) {
			isTook(t, c, id, 2, c, "")
			isReplied(t, c, id, 200, c)
			isReplied(t, c, id, 500, c)
			isGiven(t, c, id, "x", true, c, 0)
		}
		isFlushed(t, c, c)
	}
}

func TestGotOfAFrameThatIsNotRight(t *testing.T) {
	c := fourStates()
	long := strings.Repeat("l", 1001)
	for _, f := range []impl.Frame{
		{}, frame(0, 0, 1, ""), frame(8, 0, 1, ""), frame(-1, 0, 0, ""), frame(1<<32+1, 0, 1, "x"),
		dataOn(0, "x"), dataOn(-1, "x"), dataOn(100001, "x"), dataOn(1<<32+1, "x"), dataOn(1, long), frame(1, 4, 1, "x"), frame(1, -1, 1, "x"), frame(1, 2, 1, ""), frame(1, 2, 1, "\x01"), frame(1, 3, 1, "\xff"),
		headOn(0, ""), headOn(1, long), frame(2, 2, 11, ""), frame(2, 3, 11, ""),
		frame(3, 0, 0, "\x01"), frame(3, 0, 1, ""), frame(3, 0, 1, "\x00\x01"), frame(3, 1, 1, "\x01"),
		frame(4, 0, 1, ""), frame(4, 1, 0, ""), frame(4, 0, 0, "\x00"), frame(4, 0, 0, "\x00\x00\x00\x00"),
		frame(5, 0, 1, "ping"), frame(5, 2, 0, "ping"), frame(5, 0, 0, "pin"), frame(5, 0, 0, ""),
		frame(6, 0, 1, "\x00\x00\x00\x01"), frame(6, 1, 0, "\x00\x00\x00\x01"), frame(6, 0, 0, "\x01"),
		windowOn(0, 0), windowOn(1, 0), windowOn(11, 0), frame(7, 1, 1, "\x00\x00\x01"), frame(7, 0, 1, "\x01"), windowOn(100001, 1), windowOn(-1, 1),
	} {
		isGot(t, c, f, c)
	}
}

func TestGotSettle(t *testing.T) {
	c := fourStates()
	isGot(t, c, settled(), c)
	for _, n := range []int64{0, 1, 499, 500, 501, 65536, top - 500} {
		isGot(t, c, settleTo(n), with(c, func(c *impl.Conn) {
			c.First = n
			for i, was := range []int64{500, 400, 300, 200} {
				c.Flows[i].Give = was + n - 500
			}
		}), settled())
	}
	isGot(t, freshConn(3), settleTo(7), with(freshConn(3), func(c *impl.Conn) { c.First = 7 }), settled())
	isGot(t, freshConn(3), settleTo(top), with(freshConn(3), func(c *impl.Conn) { c.First = top }), settled())
	isGot(t, with(c, func(c *impl.Conn) { c.Away = true }), settled(), with(c, func(c *impl.Conn) { c.Away = true }))
}

// Of one Flow among several, wherever it stands and in whatever state, that can be Moved to just its limit, or not by one more.
func TestGotSettleMovesAllFlowsOrNone(t *testing.T) {
	for i := range 4 {
		up := with(fourStates(), func(c *impl.Conn) { c.Flows[i].Give = top - 1000 })
		isGot(t, up, settleTo(1500), with(up, func(c *impl.Conn) {
			c.First = 1500
			for j := range 4 {
				c.Flows[j].Give += 1000
			}
		}), settled())
		for _, n := range []int64{1501, 1502, top} {
			isGot(t, up, settleTo(n), with(up, setDead), awayWith(erFlow))
		}
		down := with(fourStates(), func(c *impl.Conn) { c.Flows[i].Give = -top + 400 })
		isGot(t, down, settleTo(100), with(down, func(c *impl.Conn) {
			c.First = 100
			for j := range 4 {
				c.Flows[j].Give -= 400
			}
		}), settled())
		for _, n := range []int64{99, 98, 0} {
			isGot(t, down, settleTo(n), with(down, setDead), awayWith(erFlow))
		}
	}
	// First is that by which the next ones are moved, and which a new stream has.
	c, _ := impl.Got(fourStates(), settleTo(0))
	c, _ = impl.Got(c, settleTo(30))
	c, _ = impl.Got(c, headOn(11, ""))
	for i, give := range []int64{30, -70, -170, -270, 30} {
		if c.Flows[i].Give != give || c.First != 30 {
			t.Fatalf("flow %d: %s", i, brief(c))
		}
	}
}

func TestGotPingAndAway(t *testing.T) {
	for _, c := range []impl.Conn{freshConn(0), fourStates(), with(fourStates(), func(c *impl.Conn) { c.Away = true })} {
		for _, body := range []string{"ping", "\x00\x00\x00\x00", "\xff\x00\xff\x00"} {
			isGot(t, c, frame(5, 0, 0, body), c, frame(5, 1, 0, body))
			isGot(t, c, frame(5, 1, 0, body), c)
			isGot(t, c, frame(6, 0, 0, body), with(c, func(c *impl.Conn) { c.Away = true }))
		}
	}
}

func TestGotWindow(t *testing.T) {
	c := fourStates()
	for _, n := range []int64{1, 255, 256, 65536, top - 1500} {
		isGot(t, c, windowOn(0, n), with(c, func(c *impl.Conn) { c.Give += n }))
	}
	for _, n := range []int64{top - 1500 + 1, top - 1, top} {
		isGot(t, c, windowOn(0, n), with(c, setDead), awayWith(erFlow))
	}
	for i, id := range []int64{1, 3, 5} {
		give := c.Flows[i].Give
		for _, n := range []int64{1, 70000, top - give} {
			isGot(t, c, windowOn(id, n), with(c, func(c *impl.Conn) { c.Flows[i].Give += n }))
		}
		for _, n := range []int64{top - give + 1, top} {
			isGot(t, c, windowOn(id, n), with(c, func(c *impl.Conn) { setFailed(c, id) }), resetOn(id, erFlow))
		}
		low := with(c, func(c *impl.Conn) { c.Flows[i].Give = -top })
		isGot(t, low, windowOn(id, top), with(c, func(c *impl.Conn) { c.Flows[i].Give = 0 }))
	}
	for _, n := range []int64{1, top - 200, top - 199, top} {
		isGot(t, c, windowOn(7, n), c)
		isGot(t, c, windowOn(9, n), c)
		for _, id := range []int64{2, 4, 10, 11, 13, lastId, 100000} {
			isGot(t, c, windowOn(id, n), with(c, setDead), awayWith(erProtocol))
		}
	}
	isGot(t, freshConn(3), windowOn(1, 1), with(freshConn(3), setDead), awayWith(erProtocol))
	low := with(c, func(c *impl.Conn) { c.Give = -top })
	isGot(t, low, windowOn(0, top), with(c, func(c *impl.Conn) { c.Give = 0 }))
}

func TestGotReset(t *testing.T) {
	c := fourStates()
	for _, code := range []int64{0, 1, 5, 255} {
		for _, id := range []int64{1, 3, 5, 7} {
			isGot(t, c, resetOn(id, code), with(c, func(c *impl.Conn) { setFailed(c, id) }))
		}
		isGot(t, c, resetOn(9, code), c)
		for _, id := range []int64{2, 8, 10, 11, 13, lastId, 100000} {
			isGot(t, c, resetOn(id, code), with(c, setDead), awayWith(erProtocol))
		}
	}
	reset, _ := impl.Got(c, resetOn(1, 1))
	isGot(t, reset, resetOn(1, 1), reset)
	isTook(t, reset, 1, 9, reset, "")
	isGiven(t, reset, 1, "x", true, reset, 0)
	isReplied(t, reset, 1, 200, reset)
}

func TestGotHeadOpensAStream(t *testing.T) {
	to := field("to", "e.x")
	opened := func(c *impl.Conn) {
		c.Registry.Top = 11
		c.Registry.Entries = append(c.Registry.Entries, entry(11, open))
		c.InTable.Rows = append(list(to), c.InTable.Rows...)
		c.Flows = append(c.Flows, flow(11, 1000, 500, emptyTunnel(), to, to))
	}
	c := fourStates()
	// By the number of its Name, with its Value packed, and then by its own number.
	block := "\x42\x82\x26\xef\x81"
	isGot(t, c, headOn(11, block), with(c, opened))
	isGot(t, c, lastHeadOn(11, block), with(c, func(c *impl.Conn) {
		opened(c)
		setState(c, 11, mine)
		flowIn(c, 11).Tunnel.Up.Ended = true
	}))
	// Numbers may be left out; those below are used up then.
	isGot(t, c, headOn(lastId, ""), with(c, func(c *impl.Conn) {
		c.Registry.Top = lastId
		c.Registry.Entries = append(c.Registry.Entries, entry(lastId, open))
		c.Flows = append(c.Flows, flow(lastId, 1000, 500, emptyTunnel()))
	}))
	// Give begins with First as it is then.
	for _, first := range []int64{0, 1, top} {
		low := with(c, func(c *impl.Conn) { c.First = first })
		then, told := impl.Got(low, headOn(11, ""))
		if len(told) != 0 || flowIn(&then, 11).Give != first || flowIn(&then, 11).Get != 1000 {
			t.Fatal(brief(then), told)
		}
	}
	twenty := repeated(to, 20)
	parts, _ := encodedAsWritten(c.InTable, twenty)
	then, told := impl.Got(c, headOn(11, strings.Join(parts, "")))
	if len(told) != 0 || !slices.Equal(flowIn(&then, 11).Fields, twenty) {
		t.Fatal(brief(then), told)
	}
}

// A block that can't be Decoded is the end of the connection on whatever stream it comes, and the table stays.
func TestGotHeadWithABlockThatIsNone(t *testing.T) {
	c := fourStates()
	parts, _ := encodedAsWritten(c.InTable, repeated(field("to", "e.x"), 21))
	for _, block := range []string{"\x00", "\xff", "\x80", "\xbf", "\x40", "\x40\x00\x01R", "\x40\x01Q", "\x40\x01Q\x01R\x00", strings.Join(parts, "")} {
		for _, id := range []int64{1, 2, 3, 5, 7, 9, 10, 11, lastId, 100000} {
			for _, f := range []impl.Frame{headOn(id, block), lastHeadOn(id, block)} {
				isGot(t, c, f, with(c, setDead), awayWith(erTable))
				away := with(c, func(c *impl.Conn) { c.Away = true })
				isGot(t, away, f, with(away, setDead), awayWith(erTable))
			}
		}
	}
}

// What can be Decoded is noted, whatever becomes of the stream.
func TestGotHeadThatOpensNothing(t *testing.T) {
	to := field("to", "e.x")
	noted := func(c *impl.Conn) { c.InTable.Rows = append(list(to), c.InTable.Rows...) }
	c := fourStates()
	parts, _ := encodedAsWritten(c.InTable, list(to))
	for _, on := range []func(int64, string) impl.Frame{headOn, lastHeadOn} {
		for _, id := range []int64{2, 8, 10, 12, 100000} {
			isGot(t, c, on(id, parts[0]), with(c, func(c *impl.Conn) { noted(c); setDead(c) }), awayWith(erProtocol))
		}
		for _, id := range []int64{7, 9} {
			isGot(t, c, on(id, parts[0]), with(c, noted))
		}
		for _, id := range []int64{1, 3, 5} {
			isGot(t, c, on(id, parts[0]), with(c, func(c *impl.Conn) { noted(c); setFailed(c, id) }), resetOn(id, erState))
		}
		full := with(c, func(c *impl.Conn) { c.Registry.Limit = 3 })
		for _, id := range []int64{11, 13, lastId} {
			isGot(t, full, on(id, parts[0]), with(full, func(c *impl.Conn) { noted(c); c.Registry.Top = id }), resetOn(id, erRefused))
		}
		// It is bad first, and full then.
		isGot(t, full, on(12, parts[0]), with(full, func(c *impl.Conn) { noted(c); setDead(c) }), awayWith(erProtocol))
	}
	// With room for one more, or with an end that makes room, it is not refused.
	one := with(c, func(c *impl.Conn) { c.Registry.Limit = 4 })
	then, told := impl.Got(one, headOn(11, ""))
	if len(told) != 0 || len(then.Flows) != 5 {
		t.Fatal(brief(then), told)
	}
	then, told = impl.Got(then, headOn(13, ""))
	if !slices.Equal(told, []impl.Frame{resetOn(13, erRefused)}) || len(then.Flows) != 5 || then.Registry.Top != 13 {
		t.Fatal(brief(then), told)
	}
	then, _ = impl.Got(then, resetOn(11, 0))
	isGot(t, then, headOn(13, ""), then)
	then, told = impl.Got(then, headOn(15, ""))
	if len(told) != 0 || len(then.Flows) != 6 {
		t.Fatal(brief(then), told)
	}
}

// Sixty streams are all, be they closed.
func TestGotHeadBehindSixtyStreams(t *testing.T) {
	for _, c := range []impl.Conn{
		with(freshConn(0), func(c *impl.Conn) { c.Registry = registry(20, 119, row(0, 60)...); c.Flows = rightFlows(c.Registry) }),
		with(freshConn(0), func(c *impl.Conn) { c.Registry = registry(20, 119, row(5, 55)...); c.Flows = rightFlows(c.Registry) }),
	} {
		refused := with(c, func(c *impl.Conn) { c.Registry.Top = 121 })
		isGot(t, c, headOn(121, ""), refused, resetOn(121, erRefused))
		// That it is Away, too, makes no room for an Entry.
		away := with(c, func(c *impl.Conn) { c.Away = true })
		isGot(t, away, headOn(121, ""), with(refused, func(c *impl.Conn) { c.Away = true }), resetOn(121, erRefused))
		isGot(t, refused, headOn(121, ""), refused)
		c.Registry.Entries, c.Flows = c.Registry.Entries[1:], c.Flows[1:]
		then, told := impl.Got(c, headOn(121, ""))
		if len(told) != 0 || len(then.Flows) != 60 || then.Flows[59].Id != 121 {
			t.Fatal(brief(then), told)
		}
	}
}

func TestGotHeadOfOneThatIsAway(t *testing.T) {
	to := field("to", "e.x")
	c := with(fourStates(), func(c *impl.Conn) { c.Away = true })
	parts, _ := encodedAsWritten(c.InTable, list(to))
	torn := tunnel(brokenPipe(1000, false), brokenPipe(1000, false), 0, 0)
	for _, f := range []impl.Frame{headOn(11, parts[0]), lastHeadOn(11, parts[0])} {
		isGot(t, c, f, with(c, func(c *impl.Conn) {
			c.InTable.Rows = append(list(to), c.InTable.Rows...)
			c.Registry.Top = 11
			c.Registry.Entries = append(c.Registry.Entries, entry(11, closed))
			c.Flows = append(c.Flows, flow(11, 1000, 500, torn, to))
		}), resetOn(11, erRefused))
	}
	isGot(t, c, headOn(12, ""), with(c, setDead), awayWith(erProtocol))
	isGot(t, c, headOn(9, ""), c)
	isGot(t, c, headOn(1, ""), with(c, func(c *impl.Conn) { setFailed(c, 1) }), resetOn(1, erState))
	full := with(c, func(c *impl.Conn) { c.Registry.Limit = 3 })
	isGot(t, full, headOn(11, ""), with(full, func(c *impl.Conn) { c.Registry.Top = 11 }), resetOn(11, erRefused))
	// What is open already goes on.
	isGot(t, c, dataOn(1, "x"), with(c, func(c *impl.Conn) { c.Get, c.Flows[0].Get, c.Flows[0].Tunnel.Up.Bytes = 1999, 999, "up1x" }))
	isTook(t, c, 1, 0, c, "")
	isReplied(t, c, 1, 200, c, headOn(1, "\x81"))
}

func TestGotDataOnAStreamThatMayGet(t *testing.T) {
	c := fourStates()
	for i, id := range map[int]int64{0: 1, 2: 5} {
		for _, s := range []string{"", "x", "\x00\xff", strings.Repeat("d", 800)} {
			n := int64(len(s))
			in := func(c *impl.Conn) {
				c.Get -= n
				c.Flows[i].Get -= n
				c.Flows[i].Tunnel.Up.Bytes += s
			}
			isGot(t, c, dataOn(id, s), with(c, in))
			isGot(t, c, lastDataOn(id, s), with(c, func(c *impl.Conn) {
				in(c)
				setState(c, id, map[int64]int64{1: mine, 5: closed}[id])
				c.Flows[i].Tunnel.Up.Ended = true
			}))
		}
	}
}

func TestGotDataWithPad(t *testing.T) {
	c := fourStates()
	for _, p := range []struct {
		body, payload string
	}{
		{"\x00", ""}, {"\x00hey", "hey"}, {"\x01hey\x00", "hey"}, {"\x03hey", ""}, {"\x04heyhey", "he"}, {"\xff" + strings.Repeat("p", 256), "p"},
	} {
		n, pad := int64(len(p.body)), int64(len(p.body)-len(p.payload))
		in := func(c *impl.Conn) {
			c.Get -= n - pad
			c.Flows[0].Get -= n - pad
			c.Flows[0].Tunnel.Up.Bytes += p.payload
		}
		isGot(t, c, frame(1, 2, 1, p.body), with(c, in), windowOn(1, pad), windowOn(0, pad))
		isGot(t, c, frame(1, 3, 1, p.body), with(c, func(c *impl.Conn) {
			in(c)
			setState(c, 1, mine)
			c.Flows[0].Tunnel.Up.Ended = true
		}), windowOn(1, pad), windowOn(0, pad))
	}
	// Of the last one, too, the pad is given back to the stream first, though that is closed by it.
	isGot(t, c, frame(1, 3, 5, "\x01x\x00"), with(c, func(c *impl.Conn) {
		c.Get--
		c.Flows[2].Get--
		c.Flows[2].Tunnel.Up = endedPipe(1000, "up5x")
		setState(c, 5, closed)
	}), windowOn(5, 2), windowOn(0, 2))
	// The pad counts for both windows, and is not for the tunnel's room.
	full := with(c, func(c *impl.Conn) { c.Flows[0].Tunnel.Up = pipe(5, "abcd") })
	isGot(t, full, frame(1, 2, 1, "\x01x\x00"), with(full, func(c *impl.Conn) {
		c.Get, c.Flows[0].Get, c.Flows[0].Tunnel.Up.Bytes = 1999, 999, "abcdx"
	}), windowOn(1, 2), windowOn(0, 2))
	isGot(t, full, frame(1, 2, 1, "\x01xy\x00"), with(full, func(c *impl.Conn) {
		c.Flows[0].Get = 996
		setFailed(c, 1)
	}), windowOn(0, 4), resetOn(1, erFlow))
}

// Just as much as the connection's window, and one more, on whatever stream.
func TestGotDataAtTheEdgeOfTheConnectionsWindow(t *testing.T) {
	for _, get := range []int64{0, 1, 5, 997} {
		c := with(fourStates(), func(c *impl.Conn) { c.Get = get })
		text := strings.Repeat("d", int(get))
		isGot(t, c, dataOn(1, text), with(c, func(c *impl.Conn) {
			c.Get, c.Flows[0].Get, c.Flows[0].Tunnel.Up.Bytes = 0, 1000-get, "up1"+text
		}))
		for _, id := range []int64{1, 2, 3, 5, 7, 9, 11, 100000} {
			isGot(t, c, dataOn(id, text+"d"), with(c, setDead), awayWith(erFlow))
			isGot(t, c, lastDataOn(id, text+"d"), with(c, setDead), awayWith(erFlow))
		}
	}
	for _, get := range []int64{-1, -1000, -top} {
		c := with(fourStates(), func(c *impl.Conn) { c.Get = get })
		for _, s := range []string{"", "d"} {
			for _, id := range []int64{1, 3, 7, 11} {
				isGot(t, c, dataOn(id, s), with(c, setDead), awayWith(erFlow))
			}
		}
	}
}

// Just as much as the Flow's window, and one more: then the whole is given back to the connection alone.
func TestGotDataAtTheEdgeOfTheFlowsWindow(t *testing.T) {
	for _, get := range []int64{0, 1, 5, 900} {
		c := with(fourStates(), func(c *impl.Conn) { c.Flows[0].Get = get })
		text := strings.Repeat("d", int(get))
		isGot(t, c, dataOn(1, text), with(c, func(c *impl.Conn) {
			c.Get, c.Flows[0].Get, c.Flows[0].Tunnel.Up.Bytes = 2000-get, 0, "up1"+text
		}))
		for _, f := range []impl.Frame{dataOn(1, text+"d"), lastDataOn(1, text+"d"), frame(1, 2, 1, "\x00"+text)} {
			isGot(t, c, f, with(c, func(c *impl.Conn) { setFailed(c, 1) }), windowOn(0, get+1), resetOn(1, erFlow))
		}
	}
	c := with(fourStates(), func(c *impl.Conn) { c.Flows[2].Get = -1 })
	// Without a byte nothing is given back.
	isGot(t, c, dataOn(5, ""), with(c, func(c *impl.Conn) { setFailed(c, 5) }), resetOn(5, erFlow))
	isGot(t, c, dataOn(5, "d"), with(c, func(c *impl.Conn) { setFailed(c, 5) }), windowOn(0, 1), resetOn(5, erFlow))
}

// Just as much as the tunnel has room for, and one more: the Flow's window is used then, and nothing went in.
func TestGotDataAtTheEdgeOfTheTunnelsRoom(t *testing.T) {
	for _, left := range []int{0, 1, 9, 900} {
		c := with(fourStates(), func(c *impl.Conn) { c.Flows[0].Tunnel.Up = pipe(1000, strings.Repeat("u", 1000-left)) })
		text := strings.Repeat("d", left)
		n := int64(left)
		isGot(t, c, dataOn(1, text), with(c, func(c *impl.Conn) {
			c.Get, c.Flows[0].Get = 2000-n, 1000-n
			c.Flows[0].Tunnel.Up.Bytes += text
		}))
		for _, f := range []impl.Frame{dataOn(1, text+"d"), lastDataOn(1, text+"d")} {
			isGot(t, c, f, with(c, func(c *impl.Conn) {
				c.Flows[0].Get = 1000 - n - 1
				setFailed(c, 1)
			}), windowOn(0, n+1), resetOn(1, erFlow))
		}
	}
	// Nor does anything go in behind an end, or into what is torn, though the state would let it.
	for _, up := range []impl.Pipe{endedPipe(1000, "u"), brokenPipe(1000, false), brokenPipe(1000, true)} {
		c := with(fourStates(), func(c *impl.Conn) { c.Flows[0].Tunnel.Up = up })
		isGot(t, c, dataOn(1, "d"), with(c, func(c *impl.Conn) { c.Flows[0].Get = 999; setFailed(c, 1) }), windowOn(0, 1), resetOn(1, erFlow))
		isGot(t, c, lastDataOn(1, ""), with(c, func(c *impl.Conn) { setFailed(c, 1) }), resetOn(1, erFlow))
	}
}

func TestGotDataOnAStreamThatMayNotGet(t *testing.T) {
	c := fourStates()
	for _, s := range []string{"d", "data", strings.Repeat("d", 1000)} {
		n := int64(len(s))
		for _, f := range []impl.Frame{dataOn(3, s), lastDataOn(3, s)} {
			isGot(t, c, f, with(c, func(c *impl.Conn) { setFailed(c, 3) }), windowOn(0, n), resetOn(3, erState))
		}
		for _, id := range []int64{7, 9} {
			isGot(t, c, dataOn(id, s), c, windowOn(0, n))
			isGot(t, c, lastDataOn(id, s), c, windowOn(0, n))
		}
		for _, id := range []int64{2, 10, 11, lastId, 100000} {
			dead := with(c, func(c *impl.Conn) { setDead(c); c.Get -= n })
			isGot(t, c, dataOn(id, s), dead, awayWith(erProtocol))
			isGot(t, c, lastDataOn(id, s), dead, awayWith(erProtocol))
		}
	}
	isGot(t, c, dataOn(3, ""), with(c, func(c *impl.Conn) { setFailed(c, 3) }), resetOn(3, erState))
	isGot(t, c, dataOn(7, ""), c)
	isGot(t, c, lastDataOn(9, ""), c)
	isGot(t, c, dataOn(11, ""), with(c, setDead), awayWith(erProtocol))
	// The pad is given back with all the rest, once.
	isGot(t, c, frame(1, 2, 7, "\x01hey\x00"), c, windowOn(0, 5))
	isGot(t, c, frame(1, 3, 3, "\x01hey\x00"), with(c, func(c *impl.Conn) { setFailed(c, 3) }), windowOn(0, 5), resetOn(3, erState))
}

func TestTook(t *testing.T) {
	c := fourStates()
	for i, id := range []int64{1, 3, 5} {
		text := []string{"up1", "up3", "up5"}[i]
		for _, n := range []int64{1, 2, 3, 4, 2000} {
			goes := min(n, 3)
			isTook(t, c, id, n, with(c, func(c *impl.Conn) {
				c.Get += goes
				c.Flows[i].Get += goes
				c.Flows[i].Tunnel.Up.Bytes = text[goes:]
				c.Flows[i].Tunnel.Went += goes
			}), text[:goes], windowOn(id, goes), windowOn(0, goes))
		}
	}
	// Of one that is closed the connection alone has it back.
	for _, n := range []int64{1, 2, 3, 4, 2000} {
		goes := min(n, 3)
		isTook(t, c, 7, n, with(c, func(c *impl.Conn) {
			c.Get += goes
			c.Flows[3].Tunnel.Up.Bytes = "up7"[goes:]
			c.Flows[3].Tunnel.Went += goes
		}), "up7"[:goes], windowOn(0, goes))
	}
	for _, id := range []int64{1, 3, 5, 7} {
		isTook(t, c, id, 0, c, "")
		isTook(t, c, id, -1, c, "")
		isTook(t, c, id, farNumbers()[0], c, "")
		empty := with(c, func(c *impl.Conn) { flowIn(c, id).Tunnel.Up.Bytes = "" })
		isTook(t, empty, id, 5, empty, "")
	}
	for _, id := range append(farNumbers(), -1, 0, 2, 9, 11, lastId) {
		isTook(t, c, id, 5, c, "")
	}
	for _, n := range farNumbers() {
		then, told, gone := tookAsWritten(c, 1, n)
		isTook(t, c, 1, n, then, gone, told...)
	}
	counted := with(c, func(c *impl.Conn) { c.Flows[0].Tunnel.Went = lastTime - 1 })
	isTook(t, counted, 1, 3, with(counted, func(c *impl.Conn) {
		c.Get, c.Flows[0].Get = 2001, 1001
		c.Flows[0].Tunnel.Up.Bytes, c.Flows[0].Tunnel.Went = "p1", lastTime
	}), "u", windowOn(1, 1), windowOn(0, 1))
}

// No more goes than both windows can grow by, whichever of both is the nearer one to its limit.
func TestTookWhereOnlyAPartCanBeGivenBack(t *testing.T) {
	for left := range int64(6) {
		for _, c := range []impl.Conn{
			with(fourStates(), func(c *impl.Conn) { c.Get = top - left }),
			with(fourStates(), func(c *impl.Conn) { c.Flows[0].Get = top - left }),
			with(fourStates(), func(c *impl.Conn) { c.Get, c.Flows[0].Get = top-left, top-left }),
			with(fourStates(), func(c *impl.Conn) { c.Get, c.Flows[0].Get = top-5, top-left }),
			with(fourStates(), func(c *impl.Conn) { c.Get, c.Flows[0].Get = top-left, top-5 }),
		} {
			goes := min(left, 3)
			then := with(c, func(c *impl.Conn) {
				c.Get += goes
				c.Flows[0].Get += goes
				c.Flows[0].Tunnel.Up.Bytes = "up1"[goes:]
				c.Flows[0].Tunnel.Went += goes
			})
			var told []impl.Frame
			if goes > 0 {
				told = []impl.Frame{windowOn(1, goes), windowOn(0, goes)}
			}
			for _, n := range []int64{3, 4, 2000} {
				isTook(t, c, 1, n, then, "up1"[:goes], told...)
			}
		}
	}
	low := with(fourStates(), func(c *impl.Conn) { c.Get, c.Flows[0].Get = -top, -top })
	isTook(t, low, 1, 3, with(low, func(c *impl.Conn) {
		c.Get, c.Flows[0].Get = 3-top, 3-top
		c.Flows[0].Tunnel.Up.Bytes, c.Flows[0].Tunnel.Went = "", 13
	}), "up1", windowOn(1, 3), windowOn(0, 3))
	// 'Both windows' are those of a stream that is closed, too.
	over := with(fourStates(), func(c *impl.Conn) { c.Flows[3].Get = top - 1 })
	isTook(t, over, 7, 3, with(over, func(c *impl.Conn) {
		c.Get = 2001
		c.Flows[3].Tunnel.Up.Bytes, c.Flows[3].Tunnel.Went = "p7", 4
	}), "u", windowOn(0, 1))
}

func TestReplied(t *testing.T) {
	c := fourStates()
	for i, id := range []int64{1, 3} {
		isReplied(t, c, id, 200, c, headOn(id, "\x81"))
		fresh := with(c, func(c *impl.Conn) { c.OutTable.Rows = nil })
		noted := with(c, func(c *impl.Conn) { c.OutTable.Rows = list(field(":status", "200")) })
		isReplied(t, fresh, id, 200, noted, headOn(id, "\x40\x85\xec\xa6\x09\xd2\x5f\x03200"))
		for _, code := range []int64{100, 101, 199, 201, 404, 429, 502, 998, 999} {
			value := fmt.Sprint(code)
			isReplied(t, c, id, code, with(c, func(c *impl.Conn) {
				c.OutTable.Rows = append(list(field(":status", value)), c.OutTable.Rows...)
				c.Flows[i].Tunnel.Down.Ended = true
				setState(c, id, map[int64]int64{1: theirs, 3: closed}[id])
			}), lastHeadOn(id, "\x41\x03"+value))
		}
		for _, code := range append(farNumbers(), -200, -1, 0, 1, 99, 1000, 1001, 2000, 1<<32+200) {
			isReplied(t, c, id, code, c)
		}
	}
	for _, code := range []int64{99, 100, 200, 404, 999, 1000} {
		for _, id := range append(farNumbers(), -1, 0, 2, 5, 7, 9, 11, lastId) {
			isReplied(t, c, id, code, c)
		}
	}
}

// Behind another code than 200 this end says no more, and none of what was Given ahead of it is told.
func TestNothingIsToldBehindAReplyThatEnds(t *testing.T) {
	c, _ := impl.Replied(fourStates(), 1, 502)
	if flowIn(&c, 1).Tunnel.Down != endedPipe(1000, "down1") || flowIn(&c, 1).Ended {
		t.Fatal(brief(c))
	}
	isReplied(t, c, 1, 502, c)
	isReplied(t, c, 1, 200, c)
	isGiven(t, c, 1, "x", true, c, 0)
	for _, f := range flushedFrames(c) {
		if f.Stream == 1 {
			t.Fatal(f)
		}
	}
	// Without a byte in Down there is no second end, either.
	empty := with(fourStates(), func(c *impl.Conn) { c.Flows[0].Tunnel.Down.Bytes, c.Flows[1].Tunnel.Down.Bytes = "", "" })
	for _, id := range []int64{1, 3} {
		c, _ := impl.Replied(empty, id, 999)
		isFlushed(t, c, c)
	}
	// With 200 it goes on, twice as well as once.
	c, _ = impl.Replied(fourStates(), 1, 200)
	isReplied(t, c, 1, 200, c, headOn(1, "\x81"))
	isGiven(t, c, 1, "x", false, with(c, func(c *impl.Conn) { c.Flows[0].Tunnel.Down.Bytes += "x" }), 1)
}

func flushedFrames(c impl.Conn) []impl.Frame {
	_, told := impl.Flushed(c)
	return told
}

func TestGiven(t *testing.T) {
	c := fourStates()
	for i, id := range []int64{1, 3} {
		room := 1000 - len(c.Flows[i].Tunnel.Down.Bytes)
		for _, n := range []int{0, 1, 2, room - 1, room} {
			text := strings.Repeat("\x00\xff", 500)[:n]
			then := with(c, func(c *impl.Conn) { c.Flows[i].Tunnel.Down.Bytes += text })
			isGiven(t, c, id, text, false, then, int64(n))
			isGiven(t, c, id, text, true, with(then, func(c *impl.Conn) { c.Flows[i].Tunnel.Down.Ended = true }), int64(n))
		}
		// More than there is room for: no end yet, for the rest is to come.
		for _, n := range []int{room + 1, 5000} {
			text := strings.Repeat("more", 1250)[:n]
			then := with(c, func(c *impl.Conn) { c.Flows[i].Tunnel.Down.Bytes += text[:room] })
			isGiven(t, c, id, text, false, then, int64(room))
			isGiven(t, c, id, text, true, then, int64(room))
		}
		ended := with(c, func(c *impl.Conn) { c.Flows[i].Tunnel.Down.Ended = true })
		isGiven(t, ended, id, "x", true, ended, 0)
		broken := with(c, func(c *impl.Conn) { c.Flows[i].Tunnel.Down = brokenPipe(9, false) })
		isGiven(t, broken, id, "x", true, broken, 0)
	}
	for _, id := range append(farNumbers(), -1, 0, 2, 5, 7, 9, 11, lastId) {
		for _, end := range []bool{false, true} {
			isGiven(t, c, id, "x", end, c, 0)
			isGiven(t, c, id, "", end, c, 0)
		}
	}
	// That this end has told an end asks nothing here: the state does.
	told := with(c, func(c *impl.Conn) { c.Flows[0].Ended = true })
	isGiven(t, told, 1, "x", false, with(told, func(c *impl.Conn) { c.Flows[0].Tunnel.Down.Bytes += "x" }), 1)
}

// withDown has stream 1 alone to be flushed, with such a Down and such windows Give.
func withDown(down impl.Pipe, conn, stream int64) impl.Conn {
	return with(fourStates(), func(c *impl.Conn) {
		c.Give, c.Flows[0].Give, c.Flows[0].Tunnel.Down, c.Flows[0].Tunnel.Came = conn, stream, down, 20
		setState(c, 3, closed)
	})
}

// wentDown is that connection when n bytes of it were told.
func wentDown(c impl.Conn, n int64) impl.Conn {
	return with(c, func(c *impl.Conn) {
		c.Give -= n
		c.Flows[0].Give -= n
		c.Flows[0].Tunnel.Came += n
		c.Flows[0].Tunnel.Down.Bytes = c.Flows[0].Tunnel.Down.Bytes[n:]
	})
}

// wentToItsEnd is that connection when its end was told, too.
func wentToItsEnd(c impl.Conn, n int64) impl.Conn {
	return with(wentDown(c, n), func(c *impl.Conn) {
		c.Flows[0].Ended = true
		setState(c, 1, theirs)
	})
}

func TestFlushed(t *testing.T) {
	c := fourStates()
	// 1 and 3 may be sent to, in their order; 5 and 7 may not.
	isFlushed(t, c, with(c, func(c *impl.Conn) {
		c.Give = 1490
		c.Flows[0].Give, c.Flows[0].Tunnel.Down.Bytes, c.Flows[0].Tunnel.Came = 495, "", 25
		c.Flows[1].Give, c.Flows[1].Tunnel.Down.Bytes, c.Flows[1].Tunnel.Came = 395, "", 11
	}), dataOn(1, "down1"), dataOn(3, "down3"))
	// The first one has what there is of the connection's window.
	low := with(c, func(c *impl.Conn) { c.Give = 7 })
	isFlushed(t, low, with(c, func(c *impl.Conn) {
		c.Give = 0
		c.Flows[0].Give, c.Flows[0].Tunnel.Down.Bytes, c.Flows[0].Tunnel.Came = 495, "", 25
		c.Flows[1].Give, c.Flows[1].Tunnel.Down.Bytes, c.Flows[1].Tunnel.Came = 398, "wn3", 8
	}), dataOn(1, "down1"), dataOn(3, "do"))
	// What stands in the Down of one that may not be sent to stays there.
	shut := with(c, func(c *impl.Conn) {
		setState(c, 1, theirs)
		setState(c, 3, closed)
		c.Flows[2].Ended, c.Flows[3].Ended = false, false
	})
	isFlushed(t, shut, shut)
	isFlushed(t, freshConn(4), freshConn(4))
}

func TestFlushedByBothWindows(t *testing.T) {
	for _, held := range []int{0, 1, 2, 5} {
		down := pipe(5, "bytes"[:held])
		for _, conn := range []int64{-top, -1, 0, 1, 2, 4, 5, 6, top} {
			for _, stream := range []int64{-top, -1, 0, 1, 2, 4, 5, 6, top} {
				c := withDown(down, conn, stream)
				n := max(0, min(conn, stream, int64(held)))
				if n == 0 {
					isFlushed(t, c, c)
				} else {
					isFlushed(t, c, wentDown(c, n), dataOn(1, down.Bytes[:n]))
				}
				ended := withDown(endedPipe(5, down.Bytes), conn, stream)
				switch {
				case n == int64(held): // Of the last byte, or where there was none.
					isFlushed(t, ended, wentToItsEnd(ended, n), lastDataOn(1, down.Bytes))
				case n == 0:
					isFlushed(t, ended, ended)
				default:
					isFlushed(t, ended, wentDown(ended, n), dataOn(1, down.Bytes[:n]))
				}
			}
		}
	}
}

// Of one byte more than a Body holds there are two frames, and the end stands on the last one.
func TestFlushedInPieces(t *testing.T) {
	text := strings.Repeat("0123456789", 200)
	for _, held := range []int{998, 999, 1000, 1001, 1002, 1999, 2000} {
		for _, ended := range []bool{false, true} {
			down := pipe(2000, text[:held])
			down.Ended = ended
			var told []impl.Frame
			for at := 0; at < held; at += 1000 {
				told = append(told, dataOn(1, text[at:min(at+1000, held)]))
			}
			c := withDown(down, 3000, 3000)
			if ended {
				told[len(told)-1].Flags = 1
				isFlushed(t, c, wentToItsEnd(c, int64(held)), told...)
			} else {
				isFlushed(t, c, wentDown(c, int64(held)), told...)
			}
		}
	}
	c := withDown(endedPipe(2000, text), 3000, 1001)
	isFlushed(t, c, wentDown(c, 1001), dataOn(1, text[:1000]), dataOn(1, text[1000:1001]))
	c = withDown(endedPipe(2000, text), 1999, 3000)
	isFlushed(t, c, wentDown(c, 1999), dataOn(1, text[:1000]), dataOn(1, text[1000:1999]))
}

func TestFlushedAtTheLastCame(t *testing.T) {
	for _, left := range []int64{0, 1, 2, 4, 5, 6} {
		for _, down := range []impl.Pipe{pipe(5, "bytes"), endedPipe(5, "bytes")} {
			c := with(withDown(down, 500, 400), func(c *impl.Conn) { c.Flows[0].Tunnel.Came = lastTime - left })
			n := min(left, 5)
			switch {
			case n == 0:
				isFlushed(t, c, c)
			case n == 5 && down.Ended:
				isFlushed(t, c, wentToItsEnd(c, n), lastDataOn(1, "bytes"))
			default:
				isFlushed(t, c, wentDown(c, n), dataOn(1, "bytes"[:n]))
			}
		}
	}
	// An end without bytes counts nothing.
	c := with(withDown(endedPipe(5, ""), 500, 400), func(c *impl.Conn) { c.Flows[0].Tunnel.Came = lastTime })
	isFlushed(t, c, wentToItsEnd(c, 0), lastDataOn(1, ""))
}

func TestFlushedTellsAnEndOnce(t *testing.T) {
	c := withDown(endedPipe(5, "bytes"), 500, 400)
	then := wentToItsEnd(c, 5)
	isFlushed(t, c, then, lastDataOn(1, "bytes"))
	isFlushed(t, then, then)
	// Where it was told already, none is told again, be the state as it may.
	again := with(c, func(c *impl.Conn) { c.Flows[0].Ended = true })
	isFlushed(t, again, wentDown(again, 5), dataOn(1, "bytes"))
	isFlushed(t, wentDown(again, 5), wentDown(again, 5))
	// A Down that is Broken alone is Dry, but not Ended.
	for _, ended := range []bool{false, true} {
		broken := withDown(brokenPipe(5, ended), 500, 400)
		if ended {
			isFlushed(t, broken, wentToItsEnd(broken, 0), lastDataOn(1, ""))
		} else {
			isFlushed(t, broken, broken)
		}
	}
	// Of one of which only this end speaks, the end closes it.
	half := with(fourStates(), func(c *impl.Conn) { c.Flows[0].Tunnel.Down.Bytes, c.Flows[1].Tunnel.Down = "", endedPipe(9, "d") })
	isFlushed(t, half, with(half, func(c *impl.Conn) {
		c.Give, c.Flows[1].Give, c.Flows[1].Tunnel.Came, c.Flows[1].Tunnel.Down.Bytes, c.Flows[1].Ended = 1499, 399, 7, "", true
		setState(c, 3, closed)
	}), lastDataOn(3, "d"))
	// The end of one stream stands on no frame of another one.
	both := with(fourStates(), func(c *impl.Conn) { c.Flows[1].Tunnel.Down = endedPipe(9, "") })
	_, told := impl.Flushed(both)
	if !slices.Equal(told, []impl.Frame{dataOn(1, "down1"), lastDataOn(3, "")}) {
		t.Fatal(told)
	}
}
