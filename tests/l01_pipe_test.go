package tests

import (
	"math"
	"strings"
	"testing"
	"unsafe"

	"loop.example/g00296/impl"
)

// allBytes has every byte once: a pipe carries bytes, not runes.
func allBytes() string {
	b := make([]byte, 256)
	for i := range b {
		b[i] = byte(i)
	}
	return string(b)
}

// rightPipes are pipes as chapter 1 wants them, at and between its edges.
func rightPipes() []impl.Pipe {
	full := strings.Repeat("f", impl.MaxRoom)
	return []impl.Pipe{
		{Room: 1},
		{Room: 1, Bytes: "a"},
		{Room: 1, Ended: true},
		{Room: 1, Bytes: "a", Ended: true},
		{Room: 1, Broken: true},
		{Room: 1, Ended: true, Broken: true},
		{Room: 5, Bytes: "abc"},
		{Room: 5, Bytes: "abcde"},
		{Room: 5, Bytes: "abc", Ended: true},
		{Room: 5, Broken: true},
		{Room: 5, Ended: true, Broken: true},
		{Room: 300, Bytes: allBytes()},
		{Room: impl.MaxRoom},
		{Room: impl.MaxRoom, Bytes: full[1:]},
		{Room: impl.MaxRoom, Bytes: full},
		{Room: impl.MaxRoom, Bytes: full, Ended: true},
		{Room: impl.MaxRoom, Ended: true, Broken: true},
	}
}

// wrongPipes each miss what chapter 1 wants by one thing.
func wrongPipes() []impl.Pipe {
	full := strings.Repeat("f", impl.MaxRoom)
	return []impl.Pipe{
		{},
		{Ended: true},
		{Broken: true},
		{Bytes: "a"},
		{Room: -1},
		{Room: -1, Ended: true},
		{Room: math.MinInt64},
		{Room: math.MinInt64, Bytes: "a"},
		{Room: impl.MaxRoom + 1},
		{Room: impl.MaxRoom + 1, Bytes: full + "f"},
		{Room: impl.MaxRoom + 1, Broken: true},
		{Room: math.MaxInt64},
		{Room: math.MaxInt64, Bytes: "a", Ended: true},
		{Room: 1, Bytes: "ab"},
		{Room: 5, Bytes: "abcdef"},
		{Room: 5, Bytes: "abcdef", Ended: true},
		{Room: impl.MaxRoom, Bytes: full + "f"},
		{Room: 5, Bytes: "a", Broken: true},
		{Room: 5, Bytes: "abcde", Ended: true, Broken: true},
		{Room: 5, Bytes: "abcdef", Broken: true},
	}
}

func TestPipeOk(t *testing.T) {
	if impl.MaxRoom != 2000 {
		t.Error("MaxRoom", impl.MaxRoom)
	}
	for i, p := range rightPipes() {
		if !impl.PipeOk(p) {
			t.Errorf("right pipe %d is refused: %#v", i, p)
		}
	}
	for i, p := range wrongPipes() {
		if impl.PipeOk(p) {
			t.Errorf("wrong pipe %d is accepted: %#v", i, p)
		}
	}
}

func TestNewPipe(t *testing.T) {
	for _, room := range []int64{1, 2, 5, 1999, 2000} {
		if p, is := impl.NewPipe(room); p != (impl.Pipe{Room: room}) || !is {
			t.Errorf("NewPipe(%d): %#v, %v", room, p, is)
		}
	}
	for _, room := range []int64{0, -1, 2001, math.MinInt64, math.MaxInt64, 1 << 32, 1<<32 + 5} {
		if p, is := impl.NewPipe(room); p != (impl.Pipe{}) || is {
			t.Errorf("NewPipe(%d): %#v, %v", room, p, is)
		}
	}
}

func TestPushed(t *testing.T) {
	full := strings.Repeat("f", 2000)
	for _, c := range []struct {
		p     impl.Pipe
		s     string
		bytes string
		n     int64
	}{
		{impl.Pipe{Room: 5}, "", "", 0},
		{impl.Pipe{Room: 5}, "abc", "abc", 3},
		{impl.Pipe{Room: 5, Bytes: "ab"}, "cd", "abcd", 2},
		{impl.Pipe{Room: 5, Bytes: "ab"}, "cde", "abcde", 3},
		{impl.Pipe{Room: 5, Bytes: "ab"}, "cdef", "abcde", 3},
		{impl.Pipe{Room: 5, Bytes: "abcd"}, "efgh", "abcde", 1},
		{impl.Pipe{Room: 5, Bytes: "abcde"}, "f", "abcde", 0},
		{impl.Pipe{Room: 5, Bytes: "abcde"}, "", "abcde", 0},
		{impl.Pipe{Room: 1}, "ab", "a", 1},
		{impl.Pipe{Room: 1, Bytes: "a"}, "b", "a", 0},
		{impl.Pipe{Room: 2000}, full, full, 2000},
		{impl.Pipe{Room: 2000}, full + "g", full, 2000},
		{impl.Pipe{Room: 2000, Bytes: full[1:]}, "gh", full[1:] + "g", 1},
		{impl.Pipe{Room: 2000, Bytes: full}, "g", full, 0},
		{impl.Pipe{Room: 2000}, strings.Repeat("f", 1<<20), full, 2000},
		{impl.Pipe{Room: 600, Bytes: allBytes()}, allBytes(), allBytes() + allBytes(), 256},
		{impl.Pipe{Room: 3}, "a\u00e9\u00e9", "a\u00e9", 3},
		{impl.Pipe{Room: 2}, "a\u00e9", "a\xc3", 2},
	} {
		want := c.p
		want.Bytes = c.bytes
		if p, n := impl.Pushed(c.p, c.s); p != want || n != c.n {
			t.Errorf("Pushed(%#v, %d bytes): %#v, %d", c.p, len(c.s), p, n)
		}
	}
}

func TestPushedIntoOneThatIsShut(t *testing.T) {
	for _, p := range rightPipes() {
		if !p.Ended && !p.Broken {
			continue
		}
		for _, s := range []string{"", "x", allBytes()} {
			if q, n := impl.Pushed(p, s); q != p || n != 0 {
				t.Errorf("Pushed(%#v, %d bytes): %#v, %d", p, len(s), q, n)
			}
		}
	}
}

func TestPulled(t *testing.T) {
	for _, c := range []struct {
		bytes string
		n     int64
		gone  string
		left  string
	}{
		{"abcde", 0, "", "abcde"},
		{"abcde", 1, "a", "bcde"},
		{"abcde", 4, "abcd", "e"},
		{"abcde", 5, "abcde", ""},
		{"abcde", 6, "abcde", ""},
		{"abcde", 2000, "abcde", ""},
		{"abcde", 2001, "abcde", ""},
		{"abcde", math.MaxInt64, "abcde", ""},
		{"abcde", 1<<32 + 2, "abcde", ""},
		{"abcde", -1, "", "abcde"},
		{"abcde", -1<<32 + 2, "", "abcde"},
		{"abcde", math.MinInt64, "", "abcde"},
		{"", 0, "", ""},
		{"", 1, "", ""},
		{"", -1, "", ""},
		{"a\u00e9", 2, "a\xc3", "\xa9"},
		{allBytes(), 200, allBytes()[:200], allBytes()[200:]},
	} {
		for _, ended := range []bool{false, true} {
			p := impl.Pipe{Room: 256, Bytes: c.bytes, Ended: ended}
			want := impl.Pipe{Room: 256, Bytes: c.left, Ended: ended}
			if q, s := impl.Pulled(p, c.n); q != want || s != c.gone {
				t.Errorf("Pulled(%#v, %d): %#v, %q", p, c.n, q, s)
			}
		}
	}
}

func TestPulledFromOneThatIsBroken(t *testing.T) {
	for _, ended := range []bool{false, true} {
		p := impl.Pipe{Room: 5, Ended: ended, Broken: true}
		for _, n := range []int64{-1, 0, 1, 5, math.MaxInt64} {
			if q, s := impl.Pulled(p, n); q != p || s != "" {
				t.Errorf("Pulled(%#v, %d): %#v, %q", p, n, q, s)
			}
		}
	}
}

func TestPulledAtTheGreatestRoom(t *testing.T) {
	full := strings.Repeat("ab", 1000)
	p := impl.Pipe{Room: 2000, Bytes: full}
	if q, s := impl.Pulled(p, 1999); q.Bytes != "b" || s != full[:1999] {
		t.Error(q.Bytes, len(s))
	}
	if q, s := impl.Pulled(p, 2000); q.Bytes != "" || s != full {
		t.Error(q.Bytes, len(s))
	}
}

func TestClosedAndBurst(t *testing.T) {
	for _, p := range rightPipes() {
		ended := p
		ended.Ended = true
		if q := impl.Closed(p); q != ended || !impl.PipeOk(q) {
			t.Errorf("Closed(%#v): %#v", p, q)
		}
		broken := p
		broken.Broken, broken.Bytes = true, ""
		if q := impl.Burst(p); q != broken || !impl.PipeOk(q) || !impl.Dry(q) {
			t.Errorf("Burst(%#v): %#v", p, q)
		}
	}
}

func TestDry(t *testing.T) {
	for _, c := range []struct {
		p   impl.Pipe
		dry bool
	}{
		{impl.Pipe{Room: 5}, false},
		{impl.Pipe{Room: 5, Bytes: "a"}, false},
		{impl.Pipe{Room: 5, Ended: true}, true},
		{impl.Pipe{Room: 5, Bytes: "a", Ended: true}, false},
		{impl.Pipe{Room: 5, Broken: true}, true},
		{impl.Pipe{Room: 5, Ended: true, Broken: true}, true},
		{impl.Pipe{Room: 1, Ended: true}, true},
		{impl.Pipe{Room: 2000, Broken: true}, true},
	} {
		if impl.Dry(c.p) != c.dry {
			t.Errorf("Dry(%#v) is not %v", c.p, c.dry)
		}
	}
}

func TestWrongPipesHaveTheOneFixedAnswer(t *testing.T) {
	none := impl.Pipe{}
	for _, p := range wrongPipes() {
		for _, s := range []string{"", "x", allBytes()} {
			if q, n := impl.Pushed(p, s); q != none || n != 0 {
				t.Errorf("Pushed(%#v): %#v, %d", p, q, n)
			}
		}
		for _, n := range []int64{math.MinInt64, -1, 0, 1, 5, 3000, math.MaxInt64} {
			if q, s := impl.Pulled(p, n); q != none || s != "" {
				t.Errorf("Pulled(%#v, %d): %#v, %q", p, n, q, s)
			}
		}
		if q := impl.Closed(p); q != none {
			t.Errorf("Closed(%#v): %#v", p, q)
		}
		if q := impl.Burst(p); q != none {
			t.Errorf("Burst(%#v): %#v", p, q)
		}
		if impl.Dry(p) {
			t.Errorf("Dry(%#v)", p)
		}
	}
}

// The pipe is held, act by act, against two plain texts: all that was taken,
// and all that came out.
func TestWhatIsPulledIsWhatWasPushed(t *testing.T) {
	text := allBytes() + allBytes()
	for _, room := range []int64{1, 2, 3, 7, 64, 300, 1999, 2000} {
		p, is := impl.NewPipe(room)
		if !is {
			t.Fatal(room)
		}
		var in, out string
		seed := uint32(room)
		for range 600 {
			seed = seed*1664525 + 1013904223
			n := int64(seed>>16) % (min(room, 500) + 3)
			at := int64(seed>>8) % 12
			var gone string
			var took int64
			if seed>>31 == 0 {
				s := text[at : at+min(n, 500)]
				free := room - int64(len(p.Bytes))
				p, took = impl.Pushed(p, s)
				if took != min(int64(len(s)), free) {
					t.Fatalf("room %d, %d free: %d of %d were taken", room, free, took, len(s))
				}
				in += s[:took]
			} else {
				had := int64(len(p.Bytes))
				p, gone = impl.Pulled(p, n-1)
				if int64(len(gone)) != min(max(n-1, 0), had) {
					t.Fatalf("room %d, %d held: %d of %d came out", room, had, len(gone), n-1)
				}
				out += gone
			}
			if !impl.PipeOk(p) || p.Room != room || p.Ended || p.Broken || out+p.Bytes != in {
				t.Fatalf("room %d: after %d bytes in and %d out: %#v", room, len(in), len(out), p)
			}
		}
		p, gone := impl.Pulled(impl.Closed(p), room)
		if out+gone != in || !impl.Dry(p) {
			t.Fatalf("room %d: what was left is lost at the end", room)
		}
	}
}

// share tells whether two texts lie in the same memory at any byte.
func share(a, b string) bool {
	if a == "" || b == "" {
		return false
	}
	x := uintptr(unsafe.Pointer(unsafe.StringData(a)))
	y := uintptr(unsafe.Pointer(unsafe.StringData(b)))
	return x < y+uintptr(len(b)) && y < x+uintptr(len(a))
}

func TestPipeAnswersAreNewMemory(t *testing.T) {
	s := strings.Repeat("text", 20)
	for _, p := range rightPipes() {
		// One byte alone may lie in a table of the language's own.
		if len(p.Bytes) < 4 {
			continue
		}
		for _, text := range []string{"", s} {
			if q, _ := impl.Pushed(p, text); share(q.Bytes, p.Bytes) || share(q.Bytes, text) {
				t.Errorf("Pushed(%#v) shares memory", p)
			}
		}
		for _, n := range []int64{-1, 0, 2, int64(len(p.Bytes)), 3000} {
			q, gone := impl.Pulled(p, n)
			if share(q.Bytes, p.Bytes) || share(gone, p.Bytes) || share(q.Bytes, gone) {
				t.Errorf("Pulled(%#v, %d) shares memory", p, n)
			}
		}
		if q := impl.Closed(p); share(q.Bytes, p.Bytes) {
			t.Errorf("Closed(%#v) shares memory", p)
		}
	}
	empty := impl.Pipe{Room: 200}
	if q, _ := impl.Pushed(empty, s); share(q.Bytes, s) {
		t.Error("Pushed into an empty pipe shares memory with the text")
	}
}

// Texts made over a buffer show a write that plain texts would hide.
func TestPipeArgumentsStay(t *testing.T) {
	buffer := []byte("abcdefghijklmnop")
	before := string(buffer)
	held := unsafe.String(&buffer[0], 4)
	s := unsafe.String(&buffer[6], 4)
	for _, p := range []impl.Pipe{{Room: 6, Bytes: held}, {Room: 9, Bytes: held}, {Room: 9, Bytes: held, Ended: true}, {Room: 3, Bytes: held}} {
		pushed, _ := impl.Pushed(p, s)
		impl.Pushed(pushed, s)
		pulled, _ := impl.Pulled(p, 2)
		impl.Pushed(pulled, s)
		impl.Closed(p)
		impl.Burst(p)
		impl.Dry(p)
		impl.PipeOk(p)
		if string(buffer) != before {
			t.Fatalf("an argument was written into: %q", buffer)
		}
	}
}
