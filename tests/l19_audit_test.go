package tests

import (
	"runtime"
	"slices"
	"strconv"
	"strings"
	"testing"

	"loop.example/g00296/impl"
)

// audit is what is told of one stream.
type audit struct {
	text         string
	end          bool
	owed, grants int64
}

func (a audit) and(b audit) audit {
	return audit{a.text + b.text, a.end || b.end, a.owed + b.owed, a.grants + b.grants}
}

func auditOf(s string, id int64) audit {
	text, end := impl.Spoken(s, id)
	return audit{text, end, impl.Owed(s, id), impl.Grants(s, id)}
}

func auditAsWritten(s string, id int64) audit {
	var all audit
	list, _, _ := framesAsRead(s)
	for _, f := range list {
		if f.Stream != id {
			continue
		}
		switch f.Kind {
		case 1:
			all = all.and(audit{payloadAsWritten(f), f.Flags%2 == 1, int64(len(f.Body)), 0})
		case 7:
			all.grants += int64(f.Body[0])<<16 + int64(f.Body[1])<<8 + int64(f.Body[2])
		}
	}
	return all
}

func isAudit(t *testing.T, s string, id int64, want audit) {
	t.Helper()
	if got := auditOf(s, id); got != want {
		t.Fatalf("of %d in %s is told %s, not %s", id, cut(s, 300), got.brief(), want.brief())
	}
}

func (a audit) brief() string {
	return cut(a.text, 300) + map[bool]string{true: ", the end"}[a.end] + ", owed " + strconv.FormatInt(a.owed, 10) + ", granted " + strconv.FormatInt(a.grants, 10)
}

// saysNothing asks that of none of these streams anything is told.
func saysNothing(t *testing.T, s string, ids ...int64) {
	t.Helper()
	for _, id := range ids {
		isAudit(t, s, id, audit{})
	}
}

// auditsAsWritten asks of the streams that s may name, and of some that it does not.
func auditsAsWritten(t *testing.T, s string) {
	t.Helper()
	list, _, _ := framesAsRead(s)
	ids := []int64{-1, 0, 1, 2, 3, 256, impl.MaxStream, impl.MaxStream + 1}
	for _, f := range list[:min(len(list), 20)] {
		ids = append(ids, f.Stream, f.Stream+1, f.Stream+1<<24)
	}
	slices.Sort(ids)
	for _, id := range slices.Compact(ids) {
		isAudit(t, s, id, auditAsWritten(s, id))
	}
}

func padded(flags, stream int64, body string) impl.Frame { return frame(1, 2+flags, stream, body) }

func TestAuditAsWritten(t *testing.T) {
	for _, c := range []struct {
		frames []impl.Frame
		id     int64
		want   audit
	}{
		{nil, 3, audit{}},
		{[]impl.Frame{dataOn(3, "ab")}, 3, audit{"ab", false, 2, 0}},
		{[]impl.Frame{dataOn(3, "ab")}, 5, audit{}},
		{[]impl.Frame{lastDataOn(3, "ab")}, 3, audit{"ab", true, 2, 0}},
		{[]impl.Frame{dataOn(3, "")}, 3, audit{}},
		{[]impl.Frame{lastDataOn(3, "")}, 3, audit{"", true, 0, 0}},
		{[]impl.Frame{dataOn(3, "ab"), dataOn(3, "c"), dataOn(3, ""), lastDataOn(3, "\x00d")}, 3, audit{"abc\x00d", true, 5, 0}},
		{[]impl.Frame{dataOn(3, "b"), dataOn(3, "a")}, 3, audit{"ba", false, 2, 0}},
		// The end need not stand on the last one; what is behind it is Spoken all the same.
		{[]impl.Frame{lastDataOn(3, "ab"), dataOn(3, "c")}, 3, audit{"abc", true, 3, 0}},
		{[]impl.Frame{dataOn(3, "a"), lastDataOn(3, ""), dataOn(3, "c"), lastDataOn(3, "d")}, 3, audit{"acd", true, 3, 0}},
		{[]impl.Frame{dataOn(3, "ab"), lastDataOn(5, "c")}, 3, audit{"ab", false, 2, 0}},
		{[]impl.Frame{dataOn(3, "ab"), lastDataOn(5, "c")}, 5, audit{"c", true, 1, 0}},
		{[]impl.Frame{lastHeadOn(3, "head"), dataOn(3, "ab")}, 3, audit{"ab", false, 2, 0}},
		{[]impl.Frame{dataOn(3, "ab"), lastHeadOn(3, "")}, 3, audit{"ab", false, 2, 0}},
		// Pad is owed, not Spoken.
		{[]impl.Frame{padded(0, 3, "\x00ab")}, 3, audit{"ab", false, 3, 0}},
		{[]impl.Frame{padded(0, 3, "\x01ab")}, 3, audit{"a", false, 3, 0}},
		{[]impl.Frame{padded(1, 3, "\x02ab")}, 3, audit{"", true, 3, 0}},
		{[]impl.Frame{padded(0, 3, "\x00")}, 3, audit{"", false, 1, 0}},
		{[]impl.Frame{padded(1, 3, "\x00")}, 3, audit{"", true, 1, 0}},
		{[]impl.Frame{padded(0, 3, "\x02a\x01\x00"), padded(1, 5, "\x00x"), padded(0, 3, "\x01\x00\x07"), dataOn(3, "\x01b")}, 3, audit{"a\x00\x01b", false, 9, 0}},
		// Each stream has its own grants, and so has the whole connection, which is 0.
		{[]impl.Frame{windowOn(3, 1)}, 3, audit{"", false, 0, 1}},
		{[]impl.Frame{windowOn(3, 1)}, 0, audit{}},
		{[]impl.Frame{windowOn(0, 1)}, 0, audit{"", false, 0, 1}},
		{[]impl.Frame{windowOn(0, 1)}, 3, audit{}},
		{[]impl.Frame{windowOn(3, 256), windowOn(0, 65536), windowOn(5, 7), windowOn(3, 511)}, 3, audit{"", false, 0, 767}},
		{[]impl.Frame{windowOn(3, 256), windowOn(0, 65536), windowOn(5, 7), windowOn(0, 2)}, 0, audit{"", false, 0, 65538}},
		{[]impl.Frame{windowOn(3, top), windowOn(3, 1), windowOn(3, top)}, 3, audit{"", false, 0, 33554431}},
		{[]impl.Frame{headOn(3, "head"), dataOn(3, "ab"), settleTo(9), windowOn(3, 4), resetOn(3, 1), frame(5, 1, 0, "ping"), lastDataOn(3, "c"), awayWith(3), windowOn(0, 5), settled()}, 3, audit{"abc", true, 3, 4}},
	} {
		s := shown(c.frames...)
		isAudit(t, s, c.id, c.want)
		if want := auditAsWritten(s, c.id); want != c.want { // and the tests' own rules tell the same
			t.Errorf("%#v as written", want)
		}
		auditsAsWritten(t, s)
	}
}

// audited has frames of each Kind, on two streams and on none.
func audited() []impl.Frame {
	return []impl.Frame{
		headOn(3, "\x40\x01Q\x01R"), dataOn(3, "first"), windowOn(0, 300), padded(0, 5, "\x03other\x00\x00\x00"), lastHeadOn(5, ""), frame(5, 0, 0, "ping"),
		windowOn(3, 70000), dataOn(3, ""), dataOn(5, "\x00\x02\x01\x00\x00\x00\x03no"), settleTo(3), padded(0, 3, "\x01second\x00"), windowOn(5, 1), lastDataOn(5, ""),
		awayWith(1), settled(), padded(1, 3, "\x02third\x00\x00"), resetOn(5, 7), windowOn(3, 5), resetOn(3, 7), windowOn(0, 2), dataOn(3, "last"),
	}
}

func TestAuditOfEachKindOfFrame(t *testing.T) {
	s := shown(audited()...)
	isAudit(t, s, 3, audit{"firstsecondthirdlast", true, 25, 70005})
	isAudit(t, s, 5, audit{"other\x00\x02\x01\x00\x00\x00\x03no", true, 18, 1})
	isAudit(t, s, 0, audit{"", false, 0, 302})
	saysNothing(t, s, 1, 2, 4, 7, 768, 3<<16)
}

// What is whole counts, be there a piece of another one behind it: of its first seven bytes, or of its Body.
func TestAuditOfBytesThatEndAmidAFrame(t *testing.T) {
	for _, id := range []int64{0, 3, 5} {
		s, want := "", audit{}
		for _, f := range audited() {
			whole := shown(f)
			for end := range len(whole) {
				isAudit(t, s+whole[:end], id, want)
			}
			s, want = s+whole, want.and(auditAsWritten(whole, id))
		}
		isAudit(t, s, id, want)
	}
	// A piece says nothing, whatever it is of.
	for _, f := range someFrames() {
		for end := range min(len(laidOut(f)), 300) {
			saysNothing(t, laidOut(f)[:end], 0, f.Stream)
		}
	}
}

// wrongAmid are bytes for which Frames says false: by their first seven, or when they are whole.
func wrongAmid() []string {
	return []string{
		headOf(1, 0, 0, 3) + "x", headOf(1, 8, 0, 3) + "x", headOf(1, 255, 0, 3) + "x",
		headOf(1, 1, 0, 0) + "x", headOf(1, 1, 4, 3) + "x", headOf(1, 1, 255, 3) + "x", headOf(1, 1, 0, impl.MaxStream+1) + "x", headOf(1001, 1, 0, 3) + strings.Repeat("x", 1001),
		headOf(0, 1, 2, 3), headOf(0, 1, 3, 3), headOf(1, 1, 2, 3) + "\x01", headOf(3, 1, 3, 3) + "\x03ab",
		headOf(3, 7, 0, 3) + "\x00\x00\x00", headOf(3, 7, 0, 0) + "\x00\x00\x00", headOf(2, 7, 0, 3) + "\x00\x01", headOf(4, 7, 0, 3) + "\x00\x00\x00\x01",
		headOf(3, 7, 1, 3) + "\x00\x00\x01", headOf(3, 7, 0, impl.MaxStream+1) + "\x00\x00\x01",
		headOf(0, 3, 0, 3), headOf(0, 4, 0, 3), headOf(0, 2, 2, 3), strings.Repeat("\xff", 7), strings.Repeat("\x00", 7),
	}
}

func TestAuditOfBytesThatAreNoFrame(t *testing.T) {
	list := audited()
	behind := shown(lastDataOn(3, "behind"), windowOn(3, 9), lastDataOn(5, "behind"), windowOn(0, 9))
	for _, wrong := range wrongAmid() {
		if _, _, right := impl.Frames(wrong); right {
			t.Fatalf("%q is not wrong", wrong)
		}
		for ahead := range len(list) + 1 {
			s := shown(list[:ahead]...)
			for _, id := range []int64{0, 3, 5} {
				want := auditAsWritten(s, id)
				isAudit(t, s+wrong, id, want)
				isAudit(t, s+wrong+behind, id, want)
			}
		}
		saysNothing(t, wrong, 0, 3, impl.MaxStream, impl.MaxStream+1)
		saysNothing(t, wrong+behind, 0, 3, 5, impl.MaxStream, impl.MaxStream+1)
	}
}

func TestAuditOfEachPad(t *testing.T) {
	for _, size := range []int{1, 2, 3, 100, 255, 256, 257, 999, 1000} {
		behind := strings.Repeat("0123456789", 100)[:size-1]
		for pad := range 256 {
			body := string([]byte{byte(pad)}) + behind
			s := shown(dataOn(7, "a"), padded(1, 7, body), dataOn(7, "z"))
			want := audit{"a", false, 1, 0}
			if pad < size {
				want = audit{"a" + behind[:size-1-pad] + "z", true, int64(size + 2), 0}
			}
			isAudit(t, s, 7, want)
			// Without FlPad no byte tells of a pad.
			isAudit(t, shown(dataOn(7, body)), 7, audit{body, false, int64(size), 0})
		}
	}
}

// Only FrData ends, and only its own stream, wherever it stands.
func TestAuditOfEachPlaceOfTheEnd(t *testing.T) {
	const n = 6
	for at := range n {
		for _, other := range []int64{3, 5} {
			var list []impl.Frame
			for i := range n {
				list = append(list, frame(1, map[bool]int64{true: 1}[i == at], other, "x"), lastHeadOn(3, "head"), padded(0, 3, "\x01xp"))
			}
			want := audit{strings.Repeat("x", n), false, 3 * n, 0}
			if other == 3 {
				want = audit{strings.Repeat("x", 2*n), true, 4 * n, 0}
			}
			isAudit(t, shown(list...), 3, want)
		}
	}
	saysNothing(t, shown(lastHeadOn(3, "head"), frame(5, 1, 0, "pong")), 0, 3)
}

func TestGrantsOfEachNumber(t *testing.T) {
	for _, n := range []int64{1, 2, 127, 128, 255, 256, 257, 32768, 65535, 65536, 65537, 1 << 23, top - 1, top} {
		for _, id := range []int64{0, 1, 2, 3, 99999, impl.MaxStream} {
			isAudit(t, shown(windowOn(id, n)), id, audit{"", false, 0, n})
			isAudit(t, shown(windowOn(id, n), windowOn(id, n), windowOn(4, 5)), id, audit{"", false, 0, 2 * n})
		}
	}
	// A sum may be above what 32 bits hold.
	isAudit(t, strings.Repeat(shown(windowOn(0, top), windowOn(9, top)), 300), 9, audit{"", false, 0, 300 * top})
}

func TestAuditOfNoBytes(t *testing.T) {
	saysNothing(t, "", append(farNumbers(), -1, 0, 1, 2, 3, impl.MaxStream, impl.MaxStream+1)...)
}

// Of a stream that there can't be nothing is told, be its lowest bits those of one there is.
func TestAuditOfFarStreams(t *testing.T) {
	s := shown(append(audited(), dataOn(1, "one"), windowOn(1, 1), lastDataOn(impl.MaxStream, "most"), windowOn(impl.MaxStream, 2), dataOn(65535, "x"))...)
	far := append(farNumbers(), -1, -3, -impl.MaxStream, impl.MaxStream+1, 1<<24, -1<<24)
	for _, id := range []int64{0, 1, 3, 5, 65535, impl.MaxStream} {
		far = append(far, id+1<<24, id-1<<24, id+1<<32, id-1<<32, id+1<<31, id-1<<31-1<<31-1<<31)
	}
	saysNothing(t, s, far...)
	isAudit(t, s, 1, audit{"one", false, 3, 1})
	isAudit(t, s, impl.MaxStream, audit{"most", true, 4, 2})
	isAudit(t, s, 65535, audit{"x", false, 1, 0})
	// Bytes that name a stream above the greatest one are no Frame.
	saysNothing(t, headOf(1, 1, 1, impl.MaxStream+1)+"x"+headOf(3, 7, 0, impl.MaxStream+1)+"\x00\x00\x01", impl.MaxStream, impl.MaxStream+1)
}

func TestAuditOfALongRow(t *testing.T) {
	long := strings.Repeat("0123456789", 100)
	s := strings.Repeat(shown(dataOn(3, long), padded(0, 3, "\xff"+long[:999]), dataOn(5, "other"), windowOn(3, top)), 500)
	isAudit(t, s, 3, audit{strings.Repeat(long+long[:744], 500), false, 1000000, 500 * top})
	isAudit(t, s+shown(lastDataOn(3, "")), 5, audit{strings.Repeat("other", 500), false, 2500, 0})
	var list []impl.Frame
	text := ""
	for i := range 3000 {
		piece := strconv.Itoa(i) + ","
		text += piece
		list = append(list, dataOn(9, piece), windowOn(9, int64(i+1)), dataOn(9, ""))
	}
	isAudit(t, shown(append(list, lastDataOn(9, ""))...), 9, audit{text, true, int64(len(text)), 3000 * 3001 / 2})
	isAudit(t, strings.Repeat(shown(settled()), 50000), 0, audit{})
}

// Of two rows, one behind the other, is told what is told of each, put together.
func TestAuditOfRowsPutTogether(t *testing.T) {
	s := source{seed: 19}
	all := append(someFrames(), audited()...)
	ends := 0
	for range 3000 {
		var rows [2]string
		for i := range rows {
			for range s.next(6) {
				rows[i] += laidOut(all[s.next(uint32(len(all)))])
			}
		}
		for _, id := range []int64{0, 1, 2, 3, 5, 7, 256, impl.MaxStream} {
			both := auditOf(rows[0], id).and(auditOf(rows[1], id))
			isAudit(t, rows[0]+rows[1], id, both)
			isAudit(t, rows[0]+rows[1], id, auditAsWritten(rows[0]+rows[1], id))
			if both.end && both.text != "" {
				ends++
			}
		}
	}
	if ends < 1000 {
		t.Fatal(ends)
	}
}

func TestAuditOfAnyBytes(t *testing.T) {
	s := source{seed: 190}
	right := append(audited(), someFrames()[:60]...)
	for range 4000 {
		auditsAsWritten(t, s.nearlyFrames(right))
	}
	for range 1000 {
		auditsAsWritten(t, s.bytes(s.upTo(60)))
	}
	for _, b := range []string{"\x00", "\xff", "\x01", "\x07", "\x03", "\x00\x00\x01\x01"} {
		for _, n := range []int{1, 6, 7, 8, 14, 1000, 100000} {
			auditsAsWritten(t, strings.Repeat(b, n))
		}
	}
	auditsAsWritten(t, allBytes())
}

func begins(t *testing.T, a, b string, is bool) {
	t.Helper()
	if got := impl.Begins(a, b); got != is {
		t.Fatalf("Begins(%s, %s): %v", cut(a, 100), cut(b, 100), got)
	}
}

func TestBegins(t *testing.T) {
	long := strings.Repeat("long", 30000)
	for _, c := range []struct {
		a, b string
		is   bool
	}{
		{"", "", true}, {"", "a", true}, {"a", "", false}, {"", "\x00", true}, {"\x00", "", false}, {"", long, true}, {long, "", false},
		{"a", "a", true}, {"a", "b", false}, {"a", "ab", true}, {"b", "ab", false}, {"ab", "a", false}, {"ab", "ab", true}, {"ab", "ac", false}, {"ab", "bb", false},
		{"abc", "abcabc", true}, {"bca", "abcabc", false}, {"abcd", "abcabc", false}, {"A", "a", false}, {"a", " a", false}, {"a ", "a", false},
		{"\x00", "\x00", true}, {"\x00", "\x00\x00", true}, {"\x00\x00", "\x00", false}, {"\xff", "\xff\x00", true}, {"\xff", "\x00\xff", false}, {"\x00", "\xff", false}, {"\xc3", "\xc3\xa9", true}, {"\xc3\xa9", "\xc3\xa8", false},
		{"a\x00", "a", false}, {"a", "a\x00", true}, {"a\x00b", "a\x00c", false}, {"a\x00b", "a\x00bc", true},
		{long, long, true}, {long, long + "x", true}, {long + "x", long, false}, {long + "x", long + "y", false}, {"x" + long, "y" + long, false}, {long[:len(long)-1], long, true}, {long[:len(long)-1] + "x", long, false}, {long[1:], long, false},
	} {
		begins(t, c.a, c.b, c.is)
	}
	for at := range len(allBytes()) {
		all := []byte(allBytes())
		begins(t, allBytes()[:at], allBytes(), true)
		begins(t, allBytes(), allBytes()[:at], false)
		all[at]++
		begins(t, string(all), allBytes(), false)
		begins(t, string(all[:at]), allBytes(), true)
		begins(t, string(all[:at+1]), allBytes(), false)
	}
}

// Of all short texts of two signs.
func TestBeginsOfEachTwo(t *testing.T) {
	texts := []string{""}
	for at := 0; len(texts[at]) < 4; at++ {
		texts = append(texts, texts[at]+"a", texts[at]+"\x00")
	}
	for _, a := range texts {
		for _, b := range texts {
			is := len(a) <= len(b)
			for i := 0; is && i < len(a); i++ {
				is = a[i] == b[i]
			}
			begins(t, a, b, is)
		}
	}
}

func TestAuditArgumentsStayAndAnswersAreNewMemory(t *testing.T) {
	alone := shown(dataOn(3, strings.Repeat("alone", 200)))
	for _, s := range []string{"", alone, alone + alone, shown(padded(1, 3, "\x02alone\x00\x00")), shown(audited()...), shown(audited()...) + "\x00\x01", shown(audited()...) + wrongAmid()[0], allBytes()} {
		for _, id := range []int64{-1, 0, 3, 5} {
			w := &watched{}
			given, other := w.text(s), w.text(s)
			got := auditOf(given, id)
			again, _ := impl.Spoken(given, id)
			begins(t, given, other, true)
			begins(t, given[(len(s)+2)/3:], other, s == "")
			w.stay(t)
			w.partsFrom(t, "Spoken", slices.DeleteFunc([]string{got.text, again}, func(s string) bool { return len(s) < 2 }))
			// What was answered stays when what was handed in is changed later.
			w.change()
			if want := auditAsWritten(s, id); got != want || again != want.text {
				t.Fatalf("%s became %s", want.brief(), got.brief())
			}
		}
	}
}

// A call hangs on what it is given alone: what was asked ahead of it, or is asked beside it, does not change it.
func TestAuditIsTheSameWhateverWasAskedAhead(t *testing.T) {
	type asked struct {
		s    string
		id   int64
		want audit
	}
	s := source{seed: 191}
	right := audited()
	var all []asked
	for range 300 {
		x := asked{s: s.nearlyFrames(right) + s.nearlyFrames(right), id: []int64{0, 3, 5}[s.next(3)]}
		x.want = auditAsWritten(x.s, x.id)
		all = append(all, x)
	}
	other := func(x asked) bool { return auditOf(x.s, x.id) != x.want }
	for i, x := range slices.Backward(all) {
		if other(x) {
			t.Fatalf("call %d is another one backwards", i)
		}
	}
	wrong := make(chan int, 8)
	for range cap(wrong) {
		go func() { wrong <- slices.IndexFunc(slices.Repeat(all, 5), other) }()
	}
	for range cap(wrong) {
		if i := <-wrong; i >= 0 {
			t.Errorf("call %d is another one beside others", i)
		}
	}
}

// No goroutine is left behind a call, whatever the bytes are.
func TestNoGoroutineIsLeft(t *testing.T) {
	ahead := runtime.NumGoroutine()
	s := shown(audited()...)
	for range 500 {
		for _, text := range []string{"", s, s[:len(s)-1], s + wrongAmid()[0] + s, wrongAmid()[0]} {
			for _, id := range []int64{-1, 0, 3} {
				auditOf(text, id)
			}
		}
	}
	// One that has done its last thing may still be there for a moment.
	for turn := 0; runtime.NumGoroutine() > ahead; turn++ {
		if turn == 100000 {
			t.Fatalf("%d are left, there were %d", runtime.NumGoroutine(), ahead)
		}
		runtime.Gosched()
	}
}
