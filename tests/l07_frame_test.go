package tests

import (
	"math"
	"slices"
	"strings"
	"testing"

	"loop.example/g00296/impl"
)

func frame(kind, flags, stream int64, body string) impl.Frame {
	return impl.Frame{Kind: kind, Flags: flags, Stream: stream, Body: body}
}

// laidOut is a frame's bytes whether it is right or not, each number by its lowest bits.
func laidOut(f impl.Frame) string {
	return headOf(len(f.Body), f.Kind, f.Flags, f.Stream) + f.Body
}

func headOf(size int, kind, flags, stream int64) string {
	return string([]byte{byte(size >> 8), byte(size), byte(kind), byte(flags), byte(stream >> 16), byte(stream >> 8), byte(stream)})
}

// kindRule is the chapter's row of one Kind, as far as the seven first bytes tell it.
type kindRule struct {
	flags              []int64
	onStream, onNought bool
	sizes              []int // none: all that are let
}

var kindRules = map[int64]kindRule{
	impl.FrData:   {flags: []int64{0, 1, 2, 3}, onStream: true},
	impl.FrHead:   {flags: []int64{0, 1}, onStream: true},
	impl.FrReset:  {flags: []int64{0}, onStream: true, sizes: []int{1}},
	impl.FrSettle: {flags: []int64{0}, onNought: true, sizes: []int{0, 3}},
	impl.FrPing:   {flags: []int64{0, 1}, onNought: true, sizes: []int{4}},
	impl.FrAway:   {flags: []int64{0}, onNought: true, sizes: []int{4}},
	impl.FrWindow: {flags: []int64{0}, onStream: true, onNought: true, sizes: []int{3}},
}

// headAsWritten tells whether some right Frame has these, whatever its Body.
func headAsWritten(size int, kind, flags, stream int64) bool {
	rule, is := kindRules[kind]
	if !is || !slices.Contains(rule.flags, flags) || size > 1000 {
		return false
	}
	if rule.sizes != nil && !slices.Contains(rule.sizes, size) {
		return false
	}
	if kind == impl.FrData && flags >= 2 && size == 0 {
		return false
	}
	return stream == 0 && rule.onNought || stream >= 1 && stream <= 100000 && rule.onStream
}

func frameAsWritten(f impl.Frame) bool {
	if !headAsWritten(len(f.Body), f.Kind, f.Flags, f.Stream) {
		return false
	}
	if f.Kind == impl.FrData && f.Flags >= 2 && int(f.Body[0]) > len(f.Body)-1 {
		return false
	}
	return f.Kind != impl.FrWindow || f.Body != "\x00\x00\x00"
}

func payloadAsWritten(f impl.Frame) string {
	if f.Kind == impl.FrData && f.Flags >= 2 {
		return f.Body[1 : len(f.Body)-int(f.Body[0])]
	}
	return f.Body
}

// isFrame asks all functions of a Frame for what the chapter tells of it.
func isFrame(t *testing.T, f impl.Frame) {
	t.Helper()
	right := frameAsWritten(f)
	shown, payload := "", ""
	if right {
		shown, payload = laidOut(f), payloadAsWritten(f)
	}
	if is := impl.FrameOk(f); is != right {
		t.Fatalf("FrameOk(%#v): %v", f, is)
	}
	if s := impl.Shown(f); s != shown {
		t.Fatalf("Shown(%#v): %q, not %q", f, s, shown)
	}
	if s := impl.Payload(f); s != payload {
		t.Fatalf("Payload(%#v): %q, not %q", f, s, payload)
	}
}

func areFrames(t *testing.T, s string, want []impl.Frame, left string, right bool) {
	t.Helper()
	if l, rest, is := impl.Frames(s); !slices.Equal(l, want) || rest != left || is != right {
		t.Fatalf("Frames(%q): %#v, %q, %v, not %#v, %q, %v", s, l, rest, is, want, left, right)
	}
}

// someFrames are right ones: each Kind with each of its Flags, at its least and greatest.
func someFrames() []impl.Frame {
	var frames []impl.Frame
	add := func(kind, flags, stream int64, bodies ...string) {
		for _, body := range bodies {
			frames = append(frames, frame(kind, flags, stream, body))
		}
	}
	for _, stream := range []int64{1, 2, 255, 256, 65535, 65536, impl.MaxStream} {
		for _, flags := range []int64{0, 1} {
			add(impl.FrData, flags, stream, "", "\x05", "abc")
			add(impl.FrData, flags+2, stream, "\x00", "\x00a", "\x01\x00", "\x02hi\x00\x00", "\x01hi")
			add(impl.FrHead, flags, stream, "", "\x40\x01Q\x01R")
		}
		add(impl.FrReset, 0, stream, "\x00", "\x01", "\xff")
		add(impl.FrWindow, 0, stream, "\x00\x00\x01", "\xff\xff\xff")
	}
	add(impl.FrSettle, 0, 0, "", "\x00\x00\x00", "\x01\x02\x03")
	add(impl.FrPing, 0, 0, "\x00\x00\x00\x00", "ping")
	add(impl.FrPing, 1, 0, "pong")
	add(impl.FrAway, 0, 0, "\x00\x00\x00\x01", "\x00\x01\x86\xa0")
	add(impl.FrWindow, 0, 0, "\x00\x01\x00", "\x01\x00\x00")
	long := strings.Repeat("long", 250)
	add(impl.FrData, 0, 7, long[:255], long[:256], long[:999], long)
	add(impl.FrHead, 1, 7, long)
	add(impl.FrData, 3, 7, "\xff"+long[:255], "\xff"+long[:256], "\x00"+long[:999], "\xff"+long[:999])
	return frames
}

func shownAll(frames []impl.Frame) string {
	s := ""
	for _, f := range frames {
		s += laidOut(f)
	}
	return s
}

func TestFrameAsWritten(t *testing.T) {
	for _, c := range []struct {
		frame   impl.Frame
		shown   string
		payload string
	}{
		{frame(impl.FrData, 0, 1, ""), "\x00\x00\x01\x00\x00\x00\x01", ""},
		{frame(impl.FrData, 0, 1, "abc"), "\x00\x03\x01\x00\x00\x00\x01abc", "abc"},
		{frame(impl.FrData, 1, 258, "abc"), "\x00\x03\x01\x01\x00\x01\x02abc", "abc"},
		{frame(impl.FrData, 2, 100000, "\x01abc"), "\x00\x04\x01\x02\x01\x86\xa0\x01abc", "ab"},
		{frame(impl.FrData, 3, 3, "\x00abc"), "\x00\x04\x01\x03\x00\x00\x03\x00abc", "abc"},
		{frame(impl.FrData, 3, 3, "\x03abc"), "\x00\x04\x01\x03\x00\x00\x03\x03abc", ""},
		{frame(impl.FrData, 2, 3, "\x00"), "\x00\x01\x01\x02\x00\x00\x03\x00", ""},
		{frame(impl.FrHead, 0, 1, ""), "\x00\x00\x02\x00\x00\x00\x01", ""},
		{frame(impl.FrHead, 1, 65536, "\x81"), "\x00\x01\x02\x01\x01\x00\x00\x81", "\x81"},
		{frame(impl.FrReset, 0, 5, "\x02"), "\x00\x01\x03\x00\x00\x00\x05\x02", "\x02"},
		{frame(impl.FrSettle, 0, 0, ""), "\x00\x00\x04\x00\x00\x00\x00", ""},
		{frame(impl.FrSettle, 0, 0, "\x00\x00\x00"), "\x00\x03\x04\x00\x00\x00\x00\x00\x00\x00", "\x00\x00\x00"},
		{frame(impl.FrPing, 0, 0, "abcd"), "\x00\x04\x05\x00\x00\x00\x00abcd", "abcd"},
		{frame(impl.FrPing, 1, 0, "abcd"), "\x00\x04\x05\x01\x00\x00\x00abcd", "abcd"},
		{frame(impl.FrAway, 0, 0, "\x00\x00\x00\x07"), "\x00\x04\x06\x00\x00\x00\x00\x00\x00\x00\x07", "\x00\x00\x00\x07"},
		{frame(impl.FrWindow, 0, 0, "\x00\x00\x01"), "\x00\x03\x07\x00\x00\x00\x00\x00\x00\x01", "\x00\x00\x01"},
		{frame(impl.FrWindow, 0, 9, "\x01\x00\x00"), "\x00\x03\x07\x00\x00\x00\x09\x01\x00\x00", "\x01\x00\x00"},
		{frame(impl.FrData, 0, 1, strings.Repeat("b", 1000)), "\x03\xe8\x01\x00\x00\x00\x01" + strings.Repeat("b", 1000), strings.Repeat("b", 1000)},
	} {
		if !impl.FrameOk(c.frame) {
			t.Errorf("FrameOk(%#v): false", c.frame)
		}
		if s := impl.Shown(c.frame); s != c.shown {
			t.Errorf("Shown(%#v): %q, not %q", c.frame, s, c.shown)
		}
		if s := impl.Payload(c.frame); s != c.payload {
			t.Errorf("Payload(%#v): %q, not %q", c.frame, s, c.payload)
		}
		areFrames(t, c.shown, []impl.Frame{c.frame}, "", true)
		isFrame(t, c.frame) // and the tests' own rules tell the same
	}
}

func TestFrameKindsAndLimitsAreThoseOfTheDocument(t *testing.T) {
	kinds := []int64{impl.FrData, impl.FrHead, impl.FrReset, impl.FrSettle, impl.FrPing, impl.FrAway, impl.FrWindow}
	if !slices.Equal(kinds, []int64{1, 2, 3, 4, 5, 6, 7}) {
		t.Error(kinds)
	}
	if impl.FlEnd != 1 || impl.FlPad != 2 || impl.MaxStream != 100000 || impl.MaxBody != 1000 {
		t.Error(impl.FlEnd, impl.FlPad, impl.MaxStream, impl.MaxBody)
	}
}

// Numbers that are a right one by their lowest byte or bytes are asked for too.
func TestFrameOfEachKindFlagsStreamAndSize(t *testing.T) {
	kinds := []int64{math.MinInt64, -255, -1, 0, 1, 2, 3, 4, 5, 6, 7, 8, 9, 128, 255, 256, 257, 263, math.MaxInt64}
	manyFlags := []int64{math.MinInt64, -256, -2, -1, 0, 1, 2, 3, 4, 5, 6, 7, 8, 254, 255, 256, 257, 258, 1 << 32, math.MaxInt64}
	streams := []int64{math.MinInt64, -1 << 24, -1, 0, 1, 2, 99999, 100000, 100001, 1<<24 - 1, 1 << 24, 1<<24 + 1, 1 << 32, math.MaxInt64}
	var bodies []string
	for _, size := range []int{0, 1, 2, 3, 4, 5, 6, 255, 256, 257, 999, 1000, 1001, 1003, 65536, 65537, 65539, 65540} {
		for _, fill := range []string{"\x00", "\x01", "\xff"} {
			bodies = append(bodies, strings.Repeat(fill, size))
		}
	}
	for _, kind := range kinds {
		for _, flags := range manyFlags {
			for _, stream := range streams {
				for _, body := range bodies {
					isFrame(t, frame(kind, flags, stream, body))
				}
			}
		}
	}
}

func TestFrameOfEachPad(t *testing.T) {
	for _, size := range []int{1, 2, 3, 4, 254, 255, 256, 257, 999, 1000, 1001} {
		behind := strings.Repeat("0123456789", 101)[:size-1]
		for first := range 256 {
			body := string([]byte{byte(first)}) + behind
			for flags := range int64(4) {
				isFrame(t, frame(impl.FrData, flags, 3, body))
				isFrame(t, frame(impl.FrHead, flags, 3, body))
			}
			if is := impl.FrameOk(frame(impl.FrData, impl.FlPad, 3, body)); is != (first < size && size <= 1000) {
				t.Errorf("FrameOk of %d bytes, the first one %d: %v", size, first, is)
			}
		}
	}
}

func TestWindowFrameOfNoughts(t *testing.T) {
	for _, stream := range []int64{0, 1, impl.MaxStream} {
		for at := range 3 {
			for _, b := range []byte{1, 128, 255} {
				body := []byte{0, 0, 0}
				body[at] = b
				isFrame(t, frame(impl.FrWindow, 0, stream, string(body)))
			}
		}
		isFrame(t, frame(impl.FrWindow, 0, stream, "\x00\x00\x00"))
	}
	// Noughts are right where the Kind is another one.
	for _, f := range []impl.Frame{frame(impl.FrSettle, 0, 0, "\x00\x00\x00"), frame(impl.FrPing, 0, 0, "\x00\x00\x00\x00"), frame(impl.FrAway, 0, 0, "\x00\x00\x00\x00"), frame(impl.FrReset, 0, 1, "\x00")} {
		if !impl.FrameOk(f) {
			t.Errorf("FrameOk(%#v): false", f)
		}
		isFrame(t, f)
	}
}

func TestFramesOfWhatIsShownAreTheFrames(t *testing.T) {
	all := someFrames()
	s := ""
	for at, f := range all {
		isFrame(t, f)
		areFrames(t, impl.Shown(f), []impl.Frame{f}, "", true)
		s += impl.Shown(f)
		areFrames(t, s, all[:at+1], "", true)
	}
	areFrames(t, "", nil, "", true)
	if s != shownAll(all) {
		t.Error("what is Shown, one behind the other, are not the frames as written")
	}
}

// piecewise reads the pieces as they come, each behind what was left, as the document's gate does.
func piecewise(t *testing.T, pieces []string) []impl.Frame {
	t.Helper()
	var all []impl.Frame
	left := ""
	for _, piece := range pieces {
		l, rest, is := impl.Frames(left + piece)
		if !is || left+piece != shownAll(l)+rest {
			t.Fatalf("Frames(%q): %#v, %q, %v", left+piece, l, rest, is)
		}
		all, left = append(all, l...), rest
	}
	if left != "" {
		t.Fatalf("%q is left", left)
	}
	return all
}

func TestFramesInTwoPiecesCutAtEveryPlace(t *testing.T) {
	all := someFrames()
	for from := 0; from+5 <= len(all); from += 5 {
		some := all[from : from+5]
		s := shownAll(some)
		for cut := range len(s) + 1 {
			if l := piecewise(t, []string{s[:cut], s[cut:]}); !slices.Equal(l, some) {
				t.Fatalf("%q cut at %d: %#v, not %#v", s, cut, l, some)
			}
		}
	}
}

func TestFramesInThreePiecesCutAtEveryTwoPlaces(t *testing.T) {
	some := []impl.Frame{frame(impl.FrData, 3, 9, "\x02hi\x00\x00"), frame(impl.FrSettle, 0, 0, ""), frame(impl.FrWindow, 0, 0, "\x00\x00\x07"), frame(impl.FrHead, 1, 10, "")}
	s := shownAll(some)
	for first := range len(s) + 1 {
		for second := first; second <= len(s); second++ {
			if l := piecewise(t, []string{s[:first], s[first:second], s[second:]}); !slices.Equal(l, some) {
				t.Fatalf("%q cut at %d and %d: %#v", s, first, second, l)
			}
		}
	}
}

func TestFramesInPiecesOfEachSize(t *testing.T) {
	all := someFrames()
	s := shownAll(all)
	for _, size := range []int{1, 2, 3, 6, 7, 8, 13, 14, 100, 1006, 1007, 1008, 5000} {
		var pieces []string
		for piece := range slices.Chunk([]byte(s), size) {
			pieces = append(pieces, string(piece))
		}
		if l := piecewise(t, pieces); !slices.Equal(l, all) {
			t.Errorf("in pieces of %d bytes: %#v", size, l)
		}
	}
}

func TestFramesOfMany(t *testing.T) {
	many := slices.Repeat(someFrames(), 50)
	s := shownAll(someFrames())
	areFrames(t, strings.Repeat(s, 50), many, "", true)
	areFrames(t, strings.Repeat(s, 50)+s[:6], many, s[:6], true)
}

// A beginning of a right Frame, however much of it there is, is left for later.
func TestFramesOfAPart(t *testing.T) {
	ahead := []impl.Frame{frame(impl.FrHead, 0, 1, "\x81"), frame(impl.FrPing, 1, 0, "pong")}
	for _, f := range someFrames() {
		s := laidOut(f)
		for end := range len(s) {
			areFrames(t, s[:end], nil, s[:end], true)
			areFrames(t, shownAll(ahead)+s[:end], ahead, s[:end], true)
		}
	}
}

// Fewer than seven bytes are never wrong, whatever they are.
func TestFramesOfFewerThanSevenBytes(t *testing.T) {
	ahead := []impl.Frame{frame(impl.FrWindow, 0, 0, "\x00\x00\x01")}
	for _, s := range []string{"\x00\x00\x00\x00\x00\x00", "\xff\xff\xff\xff\xff\xff", "\x03\xe9\x01\x00\x00\x00", "\x00\x00\x08\x00\x00\x00", "\x00\x00\x01\x04\x00\x00", "\x00\x01\x05\x00\x00\x00", "\x00\x04\x05\x00\x01\x00"} {
		for end := range len(s) + 1 {
			areFrames(t, s[:end], nil, s[:end], true)
			areFrames(t, shownAll(ahead)+s[:end], ahead, s[:end], true)
		}
	}
}

// Seven bytes with which no right Frame begins are wrong as soon as they are there, whatever comes
// behind; all others wait for their Body.
func TestFramesOfEachHead(t *testing.T) {
	ahead := []impl.Frame{frame(impl.FrData, 1, 1, "abc")}
	behind := laidOut(frame(impl.FrPing, 0, 0, "ping"))
	streams := []int64{0, 1, 2, 99999, 100000, 100001, 100002, 1<<17 + 1, 1<<24 - 1}
	sizes := []int{0, 1, 2, 3, 4, 5, 255, 256, 257, 259, 260, 999, 1000, 1001, 1023, 1024, 65535}
	for kind := range int64(256) {
		for _, flags := range []int64{0, 1, 2, 3, 4, 5, 127, 128, 129, 255} {
			for _, stream := range streams {
				for _, size := range sizes {
					head := headOf(size, kind, flags, stream)
					if !headAsWritten(size, kind, flags, stream) {
						areFrames(t, head, nil, head, false)
						areFrames(t, shownAll(ahead)+head+behind, ahead, head+behind, false)
					} else if size > 0 {
						areFrames(t, head, nil, head, true)
						areFrames(t, shownAll(ahead)+head, ahead, head, true)
					} else {
						areFrames(t, head, []impl.Frame{frame(kind, flags, stream, "")}, "", true)
					}
				}
			}
		}
	}
}

// A wrong head stays wrong whatever comes behind: the rest of its Body, right Frames, anything.
func TestFramesOfAWrongHeadWhateverComesBehind(t *testing.T) {
	for _, f := range []impl.Frame{
		{}, frame(8, 0, 1, ""), frame(0, 0, 1, "abc"), frame(255, 0, 1, "abc"),
		frame(impl.FrData, 0, 0, "abc"), frame(impl.FrData, 4, 1, "abc"), frame(impl.FrData, 0, 100001, "abc"),
		frame(impl.FrData, 0, 1, strings.Repeat("b", 1001)), frame(impl.FrData, 2, 1, ""), frame(impl.FrData, 3, 1, ""),
		frame(impl.FrHead, 2, 1, ""), frame(impl.FrHead, 3, 1, "\x00"), frame(impl.FrHead, 0, 0, ""),
		frame(impl.FrReset, 0, 0, "\x01"), frame(impl.FrReset, 0, 1, ""), frame(impl.FrReset, 0, 1, "ab"), frame(impl.FrReset, 1, 1, "a"),
		frame(impl.FrSettle, 0, 1, ""), frame(impl.FrSettle, 0, 0, "a"), frame(impl.FrSettle, 0, 0, "ab"), frame(impl.FrSettle, 0, 0, "abcd"), frame(impl.FrSettle, 1, 0, "abc"),
		frame(impl.FrPing, 0, 1, "abcd"), frame(impl.FrPing, 0, 0, "abc"), frame(impl.FrPing, 0, 0, "abcde"), frame(impl.FrPing, 2, 0, "abcd"),
		frame(impl.FrAway, 0, 1, "abcd"), frame(impl.FrAway, 0, 0, "abc"), frame(impl.FrAway, 0, 0, "abcde"), frame(impl.FrAway, 1, 0, "abcd"),
		frame(impl.FrWindow, 0, 1, "ab"), frame(impl.FrWindow, 0, 1, "abcd"), frame(impl.FrWindow, 0, 0, ""), frame(impl.FrWindow, 1, 1, "abc"), frame(impl.FrWindow, 0, 100001, "abc"),
	} {
		isFrame(t, f)
		s := laidOut(f) + laidOut(frame(impl.FrHead, 1, 1, "")) + "and more"
		for end := range len(s) + 1 {
			areFrames(t, s[:end], nil, s[:end], end < 7)
		}
	}
}

// What is wrong by its Body alone is wrong when it is whole, and not before.
func TestFramesOfAWrongBody(t *testing.T) {
	ahead := []impl.Frame{frame(impl.FrSettle, 0, 0, ""), frame(impl.FrData, 2, 1, "\x01ab")}
	behind := shownAll([]impl.Frame{frame(impl.FrPing, 0, 0, "ping"), frame(impl.FrHead, 0, 1, "")})
	long := strings.Repeat("b", 1000)
	for _, f := range []impl.Frame{
		frame(impl.FrData, 2, 1, "\x01"), frame(impl.FrData, 3, 1, "\xff"), frame(impl.FrData, 2, 1, "\x02a"), frame(impl.FrData, 2, 1, "\x04abc"),
		frame(impl.FrData, 3, impl.MaxStream, "\xff"+long[:254]), frame(impl.FrData, 2, 1, "\xff"+long[:100]),
		frame(impl.FrWindow, 0, 0, "\x00\x00\x00"), frame(impl.FrWindow, 0, 1, "\x00\x00\x00"), frame(impl.FrWindow, 0, impl.MaxStream, "\x00\x00\x00"),
	} {
		isFrame(t, f)
		if !headAsWritten(len(f.Body), f.Kind, f.Flags, f.Stream) || frameAsWritten(f) {
			t.Fatalf("%#v is not wrong by its Body alone", f)
		}
		whole := len(laidOut(f))
		s := laidOut(f) + behind
		for end := range len(s) + 1 {
			areFrames(t, s[:end], nil, s[:end], end < whole)
			areFrames(t, shownAll(ahead)+s[:end], ahead, s[:end], end < whole)
		}
	}
}

// nearlyFrames are some of the right ones, often with other bytes amid them or behind them.
func (s *source) nearlyFrames(right []impl.Frame) string {
	text := ""
	for range s.next(4) {
		text += laidOut(right[s.next(uint32(len(right)))])
	}
	made := []byte(text)
	for range s.next(3) {
		if len(made) > 0 {
			made[s.next(uint32(len(made)))] = byte(s.next(256))
		}
	}
	for range s.next(9) {
		made = append(made, byte(s.next(9)))
	}
	return string(made)
}

// Whatever the bytes are, what is told of them is all of them, and right.
func TestFramesOfAnyBytes(t *testing.T) {
	src := source{seed: 7}
	right := someFrames()
	for range 20000 {
		areFramesAsRead(t, src.nearlyFrames(right))
	}
	for _, s := range []string{allBytes(), strings.Repeat("\x00", 100000), strings.Repeat("\xff", 100000), strings.Repeat("\x00\x00\x04\x00\x00\x00\x00", 5000)} {
		areFramesAsRead(t, s)
	}
}

// framesAsRead reads them by the tests' own rules.
func framesAsRead(s string) (list []impl.Frame, left string, right bool) {
	left = s
	for len(left) >= 7 {
		size := int(left[0])<<8 + int(left[1])
		f := frame(int64(left[2]), int64(left[3]), int64(left[4])<<16+int64(left[5])<<8+int64(left[6]), "")
		if !headAsWritten(size, f.Kind, f.Flags, f.Stream) {
			return list, left, false
		}
		if len(left) < 7+size {
			break
		}
		f.Body = left[7 : 7+size]
		if !frameAsWritten(f) {
			return list, left, false
		}
		list, left = append(list, f), left[7+size:]
	}
	return list, left, true
}

func areFramesAsRead(t *testing.T, s string) {
	t.Helper()
	list, left, right := framesAsRead(s)
	areFrames(t, s, list, left, right)
}

func TestNumber(t *testing.T) {
	for _, c := range []struct {
		s string
		n int64
	}{
		{"", 0}, {"\x00", 0}, {"\x01", 1}, {"a", 97}, {"\x7f", 127}, {"\x80", 128}, {"\xff", 255},
		{"\x00\x00", 0}, {"\x01\x00", 256}, {"\x00\x01", 1}, {"\x01\x02", 258}, {"\xff\xff", 65535},
		{"\x01\x86\xa0", 100000}, {"\x01\x02\x03", 66051}, {"\xff\xff\xff", 16777215}, {"\x00\x00\x00", 0},
		{"\x01\x02\x03\x04", 16909060}, {"\x7f\xff\xff\xff", 2147483647}, {"\x80\x00\x00\x00", 2147483648}, {"\xff\xff\xff\xff", 4294967295}, {"\x00\x00\x00\x00", 0},
		{"\x00\x00\x00\x00\x00", -1}, {"\x00\x00\x00\x00\x01", -1}, {"\xff\xff\xff\xff\xff", -1}, {"12345678", -1}, {strings.Repeat("\x00", 100000), -1}, {allBytes(), -1},
	} {
		if n := impl.Number(c.s); n != c.n {
			t.Errorf("Number(%.20q): %d, not %d", c.s, n, c.n)
		}
	}
}

func TestBytes(t *testing.T) {
	for _, c := range []struct {
		n, count int64
		s        string
	}{
		{0, 1, "\x00"}, {0, 2, "\x00\x00"}, {0, 3, "\x00\x00\x00"}, {0, 4, "\x00\x00\x00\x00"},
		{1, 1, "\x01"}, {1, 4, "\x00\x00\x00\x01"}, {258, 2, "\x01\x02"}, {258, 3, "\x00\x01\x02"},
		{66051, 3, "\x01\x02\x03"}, {16909060, 4, "\x01\x02\x03\x04"}, {2147483648, 4, "\x80\x00\x00\x00"},
		{255, 1, "\xff"}, {256, 1, ""}, {65535, 2, "\xff\xff"}, {65536, 2, ""}, {16777215, 3, "\xff\xff\xff"}, {16777216, 3, ""}, {4294967295, 4, "\xff\xff\xff\xff"}, {4294967296, 4, ""},
		{-1, 1, ""}, {-1, 2, ""}, {-1, 3, ""}, {-1, 4, ""}, {-256, 2, ""}, {math.MinInt64, 4, ""}, {math.MaxInt64, 4, ""}, {math.MaxInt64, 1, ""}, {1 << 32, 1, ""},
		{0, 0, ""}, {1, 0, ""}, {0, 5, ""}, {1, 5, ""}, {1 << 32, 5, ""}, {0, 8, ""}, {0, -1, ""}, {1, -1, ""}, {0, -4, ""}, {0, math.MinInt64, ""}, {0, math.MaxInt64, ""}, {5, 1<<32 + 1, ""}, {0, 1 << 61, ""},
	} {
		if s := impl.Bytes(c.n, c.count); s != c.s {
			t.Errorf("Bytes(%d, %d): %q, not %q", c.n, c.count, s, c.s)
		}
	}
}

func TestNumberOfBytesIsTheNumber(t *testing.T) {
	src := source{seed: 3}
	for count := range int64(6) {
		for range 2000 {
			shift := src.next(33)
			n := int64(src.seed) >> shift
			s := impl.Bytes(n, count)
			fits := count >= 1 && count <= 4 && n < 1<<(8*count)
			if !fits && s != "" || fits && (int64(len(s)) != count || impl.Number(s) != n) {
				t.Errorf("Bytes(%d, %d): %q, and its Number is %d", n, count, s, impl.Number(s))
			}
		}
	}
	for n := range int64(70000) {
		if impl.Number(impl.Bytes(n, 3)) != n {
			t.Errorf("Number of Bytes(%d, 3): %d", n, impl.Number(impl.Bytes(n, 3)))
		}
	}
}

func TestFrameArgumentsStayAndAnswersAreNewMemory(t *testing.T) {
	wrong := []impl.Frame{frame(8, 0, 1, "abc"), frame(impl.FrData, 2, 1, "\x09abc"), frame(impl.FrWindow, 0, 1, "\x00\x00\x00")}
	for _, f := range append(someFrames(), wrong...) {
		var w watched
		given := f
		given.Body = w.field(field(f.Body, "")).Name
		impl.FrameOk(given)
		impl.Number(given.Body)
		shown, payload := impl.Shown(given), impl.Payload(given)
		w.stay(t)
		w.apart(t, field(shown, payload))
		if share(shown, payload) {
			t.Errorf("%#v: both answers share their memory", f)
		}
	}
}

func TestFramesArgumentsStayAndAnswersAreNewMemory(t *testing.T) {
	s := shownAll(someFrames())
	for _, text := range []string{"", "abc", "\x00\x00\x08\x00\x00\x00\x00", s, s + "abc", s + "\x00\x03\x07\x00\x00\x00\x00\x00\x00\x00", s[:len(s)-1], s[1:]} {
		var w watched
		given := w.field(field(text, "")).Name
		frames, rest, _ := impl.Frames(given)
		again, _, _ := impl.Frames(given)
		w.stay(t)
		for at, f := range frames {
			w.apart(t, field(f.Body, rest))
			if share(f.Body, rest) || share(f.Body, again[at].Body) || at > 0 && share(f.Body, frames[at-1].Body) {
				t.Errorf("Frames(%q): the Body %d shares its memory", text, at)
			}
		}
		w.apart(t, field(rest, ""))
	}
}
