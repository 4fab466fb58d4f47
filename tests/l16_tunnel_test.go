package tests

import (
	"fmt"
	"slices"
	"strings"
	"testing"

	"loop.example/g00296/impl"
)

func pipe(room int64, bytes string) impl.Pipe { return impl.Pipe{Room: room, Bytes: bytes} }

func endedPipe(room int64, bytes string) impl.Pipe {
	return impl.Pipe{Room: room, Bytes: bytes, Ended: true}
}

func brokenPipe(room int64, ended bool) impl.Pipe {
	return impl.Pipe{Room: room, Ended: ended, Broken: true}
}

func tunnel(up, down impl.Pipe, went, came int64) impl.Tunnel {
	return impl.Tunnel{Up: up, Down: down, Went: went, Came: came}
}

// pipeAsWritten is what chapter 1 wants, so that no answer of these tests' own hangs on the pipes of the program.
func pipeAsWritten(p impl.Pipe) bool {
	switch {
	case p.Room < 1, p.Room > 2000, int64(len(p.Bytes)) > p.Room:
		return false
	case p.Broken:
		return len(p.Bytes) == 0
	}
	return true
}

func isCount(n int64) bool { return n >= 0 && n <= lastTime }

func tunnelAsWritten(x impl.Tunnel) bool {
	return pipeAsWritten(x.Up) && pipeAsWritten(x.Down) && isCount(x.Went) && isCount(x.Came)
}

// inAsWritten lays byte behind byte, and gives all up where one of them has no room.
func inAsWritten(x impl.Tunnel, s string, end bool) (impl.Tunnel, bool) {
	if !tunnelAsWritten(x) {
		return impl.Tunnel{}, false
	}
	was := x
	if x.Up.Ended || x.Up.Broken {
		return was, false
	}
	held := []byte(x.Up.Bytes)
	for i := range len(s) {
		if int64(len(held)) == x.Up.Room {
			return was, false
		}
		held = append(held, s[i])
	}
	x.Up.Bytes = string(held)
	x.Up.Ended = end
	return x, true
}

func outAsWritten(x impl.Tunnel, n int64) (impl.Tunnel, string) {
	if !tunnelAsWritten(x) {
		return impl.Tunnel{}, ""
	}
	var gone []byte
	for n > 0 && len(x.Up.Bytes) > 0 && x.Went < lastTime {
		gone = append(gone, x.Up.Bytes[0])
		x.Up.Bytes = x.Up.Bytes[1:]
		x.Went++
		n--
	}
	return x, string(gone)
}

func backAsWritten(x impl.Tunnel, s string, end bool) (impl.Tunnel, int64) {
	if !tunnelAsWritten(x) {
		return impl.Tunnel{}, 0
	}
	held, took := []byte(x.Down.Bytes), 0
	if !x.Down.Ended && !x.Down.Broken {
		for took < len(s) && int64(len(held)) < x.Down.Room {
			held = append(held, s[took])
			took++
		}
	}
	x.Down.Bytes = string(held)
	if end && took == len(s) && !x.Down.Broken {
		x.Down.Ended = true
	}
	return x, int64(took)
}

func tornAsWritten(x impl.Tunnel) impl.Tunnel {
	if !tunnelAsWritten(x) {
		return impl.Tunnel{}
	}
	x.Up.Bytes, x.Up.Broken = "", true
	x.Down.Bytes, x.Down.Broken = "", true
	return x
}

func dryAsWritten(p impl.Pipe) bool {
	return pipeAsWritten(p) && len(p.Bytes) == 0 && (p.Ended || p.Broken)
}

func overAsWritten(x impl.Tunnel) bool {
	return tunnelAsWritten(x) && dryAsWritten(x.Up) && dryAsWritten(x.Down)
}

// copiedTunnel holds the bytes apart, so that a write into the argument is seen.
func copiedTunnel(x impl.Tunnel) impl.Tunnel {
	x.Up.Bytes, x.Down.Bytes = strings.Clone(x.Up.Bytes), strings.Clone(x.Down.Bytes)
	return x
}

// short tells a tunnel without hundreds of bytes.
func short(x impl.Tunnel) string {
	tell := func(p impl.Pipe) string {
		if len(p.Bytes) > 30 {
			return fmt.Sprintf("{%d, %d bytes, %v, %v}", p.Room, len(p.Bytes), p.Ended, p.Broken)
		}
		return fmt.Sprintf("{%d, %q, %v, %v}", p.Room, p.Bytes, p.Ended, p.Broken)
	}
	return fmt.Sprintf("{%s, %s, %d, %d}", tell(x.Up), tell(x.Down), x.Went, x.Came)
}

// Each asks that what was handed in is as it was, and that what is answered is right where it was right, too.

func isIn(t *testing.T, x impl.Tunnel, s string, end bool, then impl.Tunnel, right bool) {
	t.Helper()
	was := copiedTunnel(x)
	got, is := impl.In(x, s, end)
	if got != then || is != right {
		t.Fatalf("In(%s, %d bytes, %v): %s, %v, not %s, %v", short(x), len(s), end, short(got), is, short(then), right)
	}
	staysRight(t, "In", x, was, got)
}

func isOut(t *testing.T, x impl.Tunnel, n int64, then impl.Tunnel, gone string) {
	t.Helper()
	was := copiedTunnel(x)
	got, s := impl.Out(x, n)
	if got != then || s != gone {
		t.Fatalf("Out(%s, %d): %s, %q, not %s, %q", short(x), n, short(got), s, short(then), gone)
	}
	staysRight(t, "Out", x, was, got)
}

func isBack(t *testing.T, x impl.Tunnel, s string, end bool, then impl.Tunnel, took int64) {
	t.Helper()
	was := copiedTunnel(x)
	got, n := impl.Back(x, s, end)
	if got != then || n != took {
		t.Fatalf("Back(%s, %d bytes, %v): %s, %d, not %s, %d", short(x), len(s), end, short(got), n, short(then), took)
	}
	staysRight(t, "Back", x, was, got)
}

func isTorn(t *testing.T, x, then impl.Tunnel) {
	t.Helper()
	was := copiedTunnel(x)
	got := impl.Torn(x)
	if got != then {
		t.Fatalf("Torn(%s): %s, not %s", short(x), short(got), short(then))
	}
	staysRight(t, "Torn", x, was, got)
}

func isOver(t *testing.T, x impl.Tunnel, over bool) {
	t.Helper()
	if impl.Over(x) != over {
		t.Fatalf("Over(%s) is not %v", short(x), over)
	}
}

func isTunnel(t *testing.T, x impl.Tunnel, right bool) {
	t.Helper()
	if impl.TunnelOk(x) != right {
		t.Fatalf("TunnelOk(%s) is not %v", short(x), right)
	}
}

func staysRight(t *testing.T, what string, x, was, got impl.Tunnel) {
	t.Helper()
	if x != was {
		t.Fatalf("%s made %s of its argument %s", what, short(x), short(was))
	}
	if tunnelAsWritten(x) && !impl.TunnelOk(got) {
		t.Fatalf("%s made %s, which is not right, of %s", what, short(got), short(x))
	}
	if !tunnelAsWritten(x) && got != (impl.Tunnel{}) {
		t.Fatalf("%s made %s of %s, which is not right", what, short(got), short(x))
	}
}

// tunnelsAsWritten asks each function about the tunnel, with texts and numbers around its edges.
func tunnelsAsWritten(t *testing.T, x impl.Tunnel) {
	t.Helper()
	isTunnel(t, x, tunnelAsWritten(x))
	isOver(t, x, overAsWritten(x))
	isTorn(t, x, tornAsWritten(x))
	for _, end := range []bool{false, true} {
		for _, s := range textsAround(x.Up) {
			then, is := inAsWritten(x, s, end)
			isIn(t, x, s, end, then, is)
		}
		for _, s := range textsAround(x.Down) {
			then, took := backAsWritten(x, s, end)
			isBack(t, x, s, end, then, took)
		}
	}
	for _, n := range countsAround(x) {
		then, gone := outAsWritten(x, n)
		isOut(t, x, n, then, gone)
	}
}

// textsAround are texts that just fill the pipe, one byte less and one more, and such as have nothing to do with it.
func textsAround(p impl.Pipe) []string {
	text := strings.Repeat(allBytes(), 9)
	list := []string{"", "\x00", "\xff", "abc", text[:1999], text[:2000], text[:2001]}
	room := p.Room - int64(len(p.Bytes))
	for _, n := range []int64{room - 1, room, room + 1, p.Room, p.Room + 1} {
		if n >= 0 && n <= int64(len(text)) {
			list = append(list, text[:n])
		}
	}
	return list
}

func countsAround(x impl.Tunnel) []int64 {
	held, left := int64(len(x.Up.Bytes)), lastTime-x.Went
	list := []int64{-1, 0, 1, 2, held - 1, held, held + 1, left - 1, left, left + 1, 1999, 2000, 2001, lastTime, lastTime + 1}
	return append(list, farNumbers()...)
}

// rightTunnels are each two of the pipes beside each other, with Went and Came at and between their edges by turns.
func rightTunnels() []impl.Tunnel {
	counts := []int64{0, 1, 5, 500000, lastTime - 2000, lastTime - 5, lastTime - 3, lastTime - 2, lastTime - 1, lastTime}
	var list []impl.Tunnel
	for i, up := range rightPipes() {
		for j, down := range rightPipes() {
			list = append(list, tunnel(up, down, counts[(i+j)%len(counts)], counts[(i+3*j)%len(counts)]))
		}
	}
	return list
}

func wrongCounts() []int64 { return append([]int64{-1, lastTime + 1, lastTime + 2}, farNumbers()...) }

// wrongTunnels each miss what the chapter wants by one of their four.
func wrongTunnels() []impl.Tunnel {
	some := []impl.Pipe{pipe(5, "abc"), pipe(1, ""), endedPipe(5, ""), endedPipe(2000, "z"), brokenPipe(5, false), brokenPipe(5, true)}
	var list []impl.Tunnel
	for _, right := range some {
		for _, wrong := range wrongPipes() {
			list = append(list, tunnel(wrong, right, 3, 4), tunnel(right, wrong, 3, 4))
		}
		for _, other := range some {
			for _, n := range wrongCounts() {
				list = append(list, tunnel(right, other, n, 4), tunnel(right, other, 3, n))
			}
		}
	}
	return list
}

func TestTunnelOk(t *testing.T) {
	for _, x := range rightTunnels() {
		isTunnel(t, x, true)
	}
	for _, x := range wrongTunnels() {
		isTunnel(t, x, false)
	}
	isTunnel(t, impl.Tunnel{}, false)
	isTunnel(t, tunnel(pipe(3, "abc"), pipe(2000, ""), 0, lastTime), true)
	isTunnel(t, tunnel(pipe(3, "abcd"), pipe(2000, ""), 0, lastTime), false)
	isTunnel(t, tunnel(pipe(3, "abc"), pipe(2001, ""), 0, lastTime), false)
}

func TestTunnelOkOfWentAndCame(t *testing.T) {
	for _, up := range rightPipes() {
		for _, n := range []int64{0, 1, 500000, lastTime - 1, lastTime} {
			isTunnel(t, tunnel(up, pipe(1, ""), n, 0), true)
			isTunnel(t, tunnel(up, pipe(1, ""), lastTime, n), true)
		}
		for _, n := range wrongCounts() {
			isTunnel(t, tunnel(up, pipe(1, ""), n, 0), false)
			isTunnel(t, tunnel(up, pipe(1, ""), 0, n), false)
			isTunnel(t, tunnel(up, pipe(1, ""), n, n), false)
		}
	}
}

func TestNewTunnel(t *testing.T) {
	for _, room := range []int64{1, 2, 4, 1000, 1999, 2000} {
		x, is := impl.NewTunnel(room)
		if !is || x != tunnel(pipe(room, ""), pipe(room, ""), 0, 0) {
			t.Fatalf("NewTunnel(%d): %s, %v", room, short(x), is)
		}
		isTunnel(t, x, true)
		isOver(t, x, false)
	}
	for _, room := range append(farNumbers(), -1, 0, 2001, 2002) {
		if x, is := impl.NewTunnel(room); is || x != (impl.Tunnel{}) {
			t.Fatalf("NewTunnel(%d): %s, %v", room, short(x), is)
		}
	}
}

func TestIn(t *testing.T) {
	down := endedPipe(9, "down")
	for _, c := range []struct {
		up    impl.Pipe
		s     string
		end   bool
		then  impl.Pipe
		right bool
	}{
		{pipe(4, ""), "abc", false, pipe(4, "abc"), true},
		{pipe(4, ""), "abc", true, endedPipe(4, "abc"), true},
		{pipe(4, ""), "abcd", false, pipe(4, "abcd"), true},
		{pipe(4, ""), "abcd", true, endedPipe(4, "abcd"), true},
		{pipe(4, ""), "abcde", false, pipe(4, ""), false},
		{pipe(4, ""), "abcde", true, pipe(4, ""), false},
		{pipe(4, "ab"), "c", false, pipe(4, "abc"), true},
		{pipe(4, "ab"), "cd", false, pipe(4, "abcd"), true},
		{pipe(4, "ab"), "cde", false, pipe(4, "ab"), false},
		{pipe(4, "ab"), "cde", true, pipe(4, "ab"), false},
		{pipe(4, "abcd"), "e", false, pipe(4, "abcd"), false},
		{pipe(4, "abcd"), "e", true, pipe(4, "abcd"), false},
		// There is always room for the empty text, and it may bring the end.
		{pipe(4, ""), "", false, pipe(4, ""), true},
		{pipe(4, ""), "", true, endedPipe(4, ""), true},
		{pipe(4, "abcd"), "", false, pipe(4, "abcd"), true},
		{pipe(4, "abcd"), "", true, endedPipe(4, "abcd"), true},
		// Behind an end nothing goes in, not even the empty text or the end once more.
		{endedPipe(4, "ab"), "c", false, endedPipe(4, "ab"), false},
		{endedPipe(4, "ab"), "c", true, endedPipe(4, "ab"), false},
		{endedPipe(4, "ab"), "", false, endedPipe(4, "ab"), false},
		{endedPipe(4, "ab"), "", true, endedPipe(4, "ab"), false},
		{endedPipe(4, ""), "", true, endedPipe(4, ""), false},
		{brokenPipe(4, false), "c", false, brokenPipe(4, false), false},
		{brokenPipe(4, false), "", false, brokenPipe(4, false), false},
		{brokenPipe(4, false), "", true, brokenPipe(4, false), false},
		{brokenPipe(4, true), "", true, brokenPipe(4, true), false},
		{pipe(4, ""), "\x00\xff", false, pipe(4, "\x00\xff"), true},
		{pipe(2, ""), "a\u00e9", false, pipe(2, ""), false},
		{pipe(3, ""), "a\u00e9", false, pipe(3, "a\u00e9"), true},
	} {
		isIn(t, tunnel(c.up, down, 7, 8), c.s, c.end, tunnel(c.then, down, 7, 8), c.right)
	}
}

// What lies in Down, and what went and came, is nothing to what comes In.
func TestInWhateverDownAndTheCountsAre(t *testing.T) {
	for _, down := range rightPipes() {
		for _, n := range []int64{0, lastTime} {
			isIn(t, tunnel(pipe(5, "ab"), down, n, lastTime-n), "cde", true, tunnel(endedPipe(5, "abcde"), down, n, lastTime-n), true)
			isIn(t, tunnel(pipe(5, "ab"), down, n, lastTime-n), "cdef", true, tunnel(pipe(5, "ab"), down, n, lastTime-n), false)
		}
	}
}

// At each room, with each count of bytes there already: just so many more as there is room for.
func TestInJustFillsTheRoom(t *testing.T) {
	text := strings.Repeat("0123456789", 201)
	for _, room := range []int64{1, 2, 3, 10, 1999, 2000} {
		for _, held := range []int64{0, 1, room / 2, room - 1, room} {
			for _, end := range []bool{false, true} {
				x := tunnel(pipe(room, text[:held]), pipe(1, "d"), 0, 0)
				full := x
				full.Up.Bytes, full.Up.Ended = text[:room], end
				isIn(t, x, text[held:room], end, full, true)
				isIn(t, x, text[held:room+1], end, x, false)
				if held < room {
					full.Up.Bytes = text[:room-1]
					isIn(t, x, text[held:room-1], end, full, true)
				}
			}
		}
	}
}

func TestOut(t *testing.T) {
	down := pipe(9, "down")
	for _, c := range []struct {
		up    impl.Pipe
		went  int64
		n     int64
		left  string
		then  int64
		gone  string
		ended bool
	}{
		{pipe(5, "abcde"), 0, -1, "abcde", 0, "", false},
		{pipe(5, "abcde"), 0, 0, "abcde", 0, "", false},
		{pipe(5, "abcde"), 0, 1, "bcde", 1, "a", false},
		{pipe(5, "abcde"), 7, 4, "e", 11, "abcd", false},
		{pipe(5, "abcde"), 7, 5, "", 12, "abcde", false},
		{pipe(5, "abcde"), 7, 6, "", 12, "abcde", false},
		{pipe(5, ""), 7, 1, "", 7, "", false},
		{endedPipe(5, "abc"), 7, 2, "c", 9, "ab", true},
		{endedPipe(5, "abc"), 7, 3, "", 10, "abc", true},
		{endedPipe(5, ""), 7, 3, "", 7, "", true},
		// What Went can grow by only in part, or not at all.
		{pipe(5, "abcde"), lastTime - 5, 5, "", lastTime, "abcde", false},
		{pipe(5, "abcde"), lastTime - 5, 9, "", lastTime, "abcde", false},
		{pipe(5, "abcde"), lastTime - 4, 5, "e", lastTime, "abcd", false},
		{pipe(5, "abcde"), lastTime - 1, 5, "bcde", lastTime, "a", false},
		{pipe(5, "abcde"), lastTime - 1, 1, "bcde", lastTime, "a", false},
		{pipe(5, "abcde"), lastTime - 1, 0, "abcde", lastTime - 1, "", false},
		{pipe(5, "abcde"), lastTime, 1, "abcde", lastTime, "", false},
		{pipe(5, "abcde"), lastTime, 0, "abcde", lastTime, "", false},
		{pipe(5, "abcde"), lastTime, -1, "abcde", lastTime, "", false},
		{endedPipe(5, "abcde"), lastTime, 5, "abcde", lastTime, "", true},
		{pipe(5, "a\u00e9"), 0, 2, "\xa9", 2, "a\xc3", false},
		{pipe(5, "\x00\xff"), 0, 1, "\xff", 1, "\x00", false},
	} {
		left := impl.Pipe{Room: 5, Bytes: c.left, Ended: c.ended}
		isOut(t, tunnel(c.up, down, c.went, 8), c.n, tunnel(left, down, c.then, 8), c.gone)
	}
	for _, ended := range []bool{false, true} {
		for _, n := range []int64{-1, 0, 1, 5, 2000} {
			x := tunnel(brokenPipe(5, ended), down, 7, 8)
			isOut(t, x, n, x, "")
		}
	}
}

// Each Went near the last one, each n: never more than Went can grow by, and Came, even at its greatest, stays.
func TestOutAroundTheLastWent(t *testing.T) {
	for left := range int64(13) {
		for held := range int64(12) {
			for n := int64(-2); n <= 14; n++ {
				x := tunnel(pipe(11, "abcdefghijk"[:held]), pipe(3, "d"), lastTime-left, lastTime)
				goes := min(max(n, 0), held, left)
				then := x
				then.Up.Bytes, then.Went = x.Up.Bytes[goes:], x.Went+goes
				isOut(t, x, n, then, x.Up.Bytes[:goes])
			}
		}
	}
}

// The least and the greatest numbers are no other ones when they are taken from, or added to, what went.
func TestOutOfFarNumbers(t *testing.T) {
	for _, went := range []int64{0, 1, 500000, lastTime - 2, lastTime - 1, lastTime} {
		x := tunnel(endedPipe(6, "abc"), brokenPipe(2, false), went, 1)
		for _, n := range farNumbers() {
			goes := int64(0)
			if n > 0 {
				goes = min(3, lastTime-went)
			}
			then := tunnel(endedPipe(6, "abc"[goes:]), brokenPipe(2, false), went+goes, 1)
			isOut(t, x, n, then, "abc"[:goes])
		}
	}
}

func TestBack(t *testing.T) {
	up := pipe(9, "up")
	for _, c := range []struct {
		down impl.Pipe
		s    string
		end  bool
		then impl.Pipe
		took int64
	}{
		{pipe(4, ""), "abc", false, pipe(4, "abc"), 3},
		{pipe(4, ""), "abc", true, endedPipe(4, "abc"), 3},
		{pipe(4, ""), "abcd", false, pipe(4, "abcd"), 4},
		{pipe(4, ""), "abcd", true, endedPipe(4, "abcd"), 4},
		// More than there is room for: what there is room for goes in, and it is not Closed.
		{pipe(4, ""), "hello", false, pipe(4, "hell"), 4},
		{pipe(4, ""), "hello", true, pipe(4, "hell"), 4},
		{pipe(4, "ab"), "cde", true, pipe(4, "abcd"), 2},
		{pipe(4, "abcd"), "e", true, pipe(4, "abcd"), 0},
		{pipe(4, "abcd"), "e", false, pipe(4, "abcd"), 0},
		{pipe(4, "ab"), "cd", true, endedPipe(4, "abcd"), 2},
		// All of the empty text is always taken.
		{pipe(4, ""), "", false, pipe(4, ""), 0},
		{pipe(4, ""), "", true, endedPipe(4, ""), 0},
		{pipe(4, "abcd"), "", false, pipe(4, "abcd"), 0},
		{pipe(4, "abcd"), "", true, endedPipe(4, "abcd"), 0},
		{endedPipe(4, "ab"), "c", false, endedPipe(4, "ab"), 0},
		{endedPipe(4, "ab"), "c", true, endedPipe(4, "ab"), 0},
		{endedPipe(4, "ab"), "", true, endedPipe(4, "ab"), 0},
		{endedPipe(4, ""), "", false, endedPipe(4, ""), 0},
		// What is Broken is not Closed on top of it.
		{brokenPipe(4, false), "c", false, brokenPipe(4, false), 0},
		{brokenPipe(4, false), "c", true, brokenPipe(4, false), 0},
		{brokenPipe(4, false), "", true, brokenPipe(4, false), 0},
		{brokenPipe(4, false), "", false, brokenPipe(4, false), 0},
		{brokenPipe(4, true), "", true, brokenPipe(4, true), 0},
		{pipe(4, ""), "\x00\xff", true, endedPipe(4, "\x00\xff"), 2},
		{pipe(2, ""), "a\u00e9", true, pipe(2, "a\xc3"), 2},
	} {
		isBack(t, tunnel(up, c.down, 7, 8), c.s, c.end, tunnel(up, c.then, 7, 8), c.took)
	}
}

func TestBackWhateverUpAndTheCountsAre(t *testing.T) {
	for _, up := range rightPipes() {
		for _, n := range []int64{0, lastTime} {
			isBack(t, tunnel(up, pipe(5, "ab"), n, lastTime-n), "cde", true, tunnel(up, endedPipe(5, "abcde"), n, lastTime-n), 3)
			isBack(t, tunnel(up, pipe(5, "ab"), n, lastTime-n), "cdef", true, tunnel(up, pipe(5, "abcde"), n, lastTime-n), 3)
		}
	}
}

func TestBackAroundTheRoom(t *testing.T) {
	text := strings.Repeat("0123456789", 202)
	for _, room := range []int64{1, 2, 3, 10, 1999, 2000} {
		for _, held := range []int64{0, 1, room / 2, room - 1, room} {
			for upTo := max(held, room-2); upTo <= room+2; upTo++ {
				x := tunnel(pipe(1, "u"), pipe(room, text[:held]), 0, 0)
				full := x
				full.Down.Bytes = text[:min(upTo, room)]
				isBack(t, x, text[held:upTo], false, full, min(upTo, room)-held)
				full.Down.Ended = upTo <= room
				isBack(t, x, text[held:upTo], true, full, min(upTo, room)-held)
			}
		}
	}
}

func TestTorn(t *testing.T) {
	isTorn(t, tunnel(pipe(4, "ab"), endedPipe(5, "c"), 7, 8), tunnel(brokenPipe(4, false), brokenPipe(5, true), 7, 8))
	isTorn(t, tunnel(endedPipe(4, "ab"), pipe(5, ""), 0, lastTime), tunnel(brokenPipe(4, true), brokenPipe(5, false), 0, lastTime))
	isTorn(t, tunnel(brokenPipe(4, true), brokenPipe(5, false), 7, 8), tunnel(brokenPipe(4, true), brokenPipe(5, false), 7, 8))
	isTorn(t, tunnel(brokenPipe(1, false), pipe(5, "abc"), 7, 8), tunnel(brokenPipe(1, false), brokenPipe(5, false), 7, 8))
}

// What was Torn is Over, and nothing goes In, Out or Back any more.
func TestNothingGoesThroughWhatWasTorn(t *testing.T) {
	for _, x := range rightTunnels() {
		torn := impl.Torn(x)
		isTunnel(t, torn, true)
		isOver(t, torn, true)
		isTorn(t, torn, torn)
		for _, end := range []bool{false, true} {
			for _, s := range []string{"", "a", allBytes()} {
				isIn(t, torn, s, end, torn, false)
				isBack(t, torn, s, end, torn, 0)
			}
		}
		for _, n := range []int64{-1, 0, 1, 2000, lastTime} {
			isOut(t, torn, n, torn, "")
		}
	}
}

func TestOver(t *testing.T) {
	dry := []impl.Pipe{endedPipe(4, ""), brokenPipe(4, false), brokenPipe(4, true), endedPipe(1, ""), brokenPipe(2000, false)}
	wet := []impl.Pipe{pipe(4, ""), pipe(4, "ab"), endedPipe(4, "ab"), endedPipe(1, "a"), endedPipe(2000, "a"), pipe(2000, "")}
	for _, n := range []int64{0, 7, lastTime} {
		for _, a := range dry {
			for _, b := range dry {
				isOver(t, tunnel(a, b, n, 3), true)
				isOver(t, tunnel(a, b, 3, n), true)
			}
			for _, b := range wet {
				isOver(t, tunnel(a, b, n, 3), false)
				isOver(t, tunnel(b, a, 3, n), false)
			}
		}
		for _, a := range wet {
			for _, b := range wet {
				isOver(t, tunnel(a, b, n, n), false)
			}
		}
	}
}

// One fixed answer for each tunnel that misses what the chapter wants, by a pipe or by a count, whatever
// lies in its pipes: it is not Over.
func TestOverOfWhatIsNotRight(t *testing.T) {
	dry := endedPipe(4, "")
	for _, wrong := range wrongPipes() {
		isOver(t, tunnel(wrong, dry, 3, 4), false)
		isOver(t, tunnel(dry, wrong, 3, 4), false)
		isOver(t, tunnel(wrong, wrong, 3, 4), false)
	}
	isOver(t, impl.Tunnel{}, false)
	for _, x := range wrongTunnels() {
		isOver(t, x, false)
	}
}

// Where both pipes are Dry it hangs on Went and Came alone, each of which is right up to its edges.
func TestOverOfDryPipesHangsOnTheCounts(t *testing.T) {
	dry := []impl.Pipe{endedPipe(4, ""), brokenPipe(4, false), brokenPipe(4, true)}
	right := []int64{0, 1, lastTime - 1, lastTime}
	for _, up := range dry {
		for _, down := range dry {
			for _, n := range right {
				for _, m := range right {
					isOver(t, tunnel(up, down, n, m), true)
				}
				for _, wrong := range wrongCounts() {
					isOver(t, tunnel(up, down, wrong, n), false)
					isOver(t, tunnel(up, down, n, wrong), false)
				}
			}
			for _, wrong := range wrongCounts() {
				isOver(t, tunnel(up, down, wrong, wrong), false)
			}
		}
	}
}

// An end is kept while there are Bytes; only when both are Dry it is Over.
func TestAnEndIsKeptWhileThereAreBytes(t *testing.T) {
	x, is := impl.NewTunnel(6)
	if !is {
		t.Fatal("no tunnel")
	}
	x, is = impl.In(x, "abcd", true)
	if !is || x != tunnel(endedPipe(6, "abcd"), pipe(6, ""), 0, 0) {
		t.Fatal(short(x))
	}
	isIn(t, x, "e", false, x, false)
	for i, want := range []string{"a", "b", "c", "d"} {
		var gone string
		isOver(t, x, false)
		x, gone = impl.Out(x, 1)
		if gone != want || !x.Up.Ended || x.Went != int64(i+1) {
			t.Fatalf("%q, and it is %s", gone, short(x))
		}
		isIn(t, x, "", true, x, false)
	}
	isOver(t, x, false)
	x, n := impl.Back(x, "xyz", true)
	if n != 3 || x != tunnel(endedPipe(6, ""), endedPipe(6, "xyz"), 4, 0) {
		t.Fatal(n, short(x))
	}
	isOver(t, x, false)
	isBack(t, x, "z", false, x, 0)
	down, gone := impl.Pulled(x.Down, 2)
	x.Down = down
	isOver(t, x, false)
	isBack(t, x, "", true, x, 0)
	down, last := impl.Pulled(x.Down, 1)
	x.Down = down
	if gone+last != "xyz" {
		t.Fatal(gone, last)
	}
	isOver(t, x, true)
}

func TestWrongTunnelsHaveTheOneFixedAnswer(t *testing.T) {
	none := impl.Tunnel{}
	for _, x := range append(wrongTunnels(), none) {
		isTorn(t, x, none)
		for _, end := range []bool{false, true} {
			for _, s := range []string{"", "a", "\x00", "\xff", allBytes()} {
				isIn(t, x, s, end, none, false)
				isBack(t, x, s, end, none, 0)
			}
		}
		for _, n := range append(farNumbers(), -1, 0, 1, 3, 2000) {
			isOut(t, x, n, none, "")
		}
	}
}

// Each function of each tunnel, at its edges, against what the chapter says byte by byte.
func TestTunnelsAsWritten(t *testing.T) {
	for _, x := range rightTunnels() {
		tunnelsAsWritten(t, x)
	}
	for i, x := range wrongTunnels() {
		if i%7 == 0 {
			tunnelsAsWritten(t, x)
		}
	}
}

// Small ones one and all: each room up to 3, each fill, each flag, each text up to one byte too many.
func TestSmallTunnelsAsWritten(t *testing.T) {
	var pipes []impl.Pipe
	for room := int64(0); room <= 3; room++ {
		for held := range 5 {
			for flags := range 4 {
				pipes = append(pipes, impl.Pipe{Room: room, Bytes: "abcd"[:held], Ended: flags&1 != 0, Broken: flags&2 != 0})
			}
		}
	}
	for i, up := range pipes {
		for j, down := range pipes {
			x := tunnel(up, down, []int64{0, lastTime - 1, lastTime}[(i+j)%3], []int64{0, lastTime, 1}[j%3])
			isTunnel(t, x, tunnelAsWritten(x))
			isOver(t, x, overAsWritten(x))
			isTorn(t, x, tornAsWritten(x))
			for n := range 5 {
				for _, end := range []bool{false, true} {
					then, is := inAsWritten(x, "wxyz"[:n], end)
					isIn(t, x, "wxyz"[:n], end, then, is)
					then, took := backAsWritten(x, "wxyz"[:n], end)
					isBack(t, x, "wxyz"[:n], end, then, took)
				}
				then, gone := outAsWritten(x, int64(n-1))
				isOut(t, x, int64(n-1), then, gone)
			}
		}
	}
}

// tunnel is right: of some room, in one of two with bytes, now and then shut, mostly with counts that can grow.
func (s *source) tunnel() impl.Tunnel {
	x := tunnel(s.pipe(), s.pipe(), s.upTo(lastTime), s.upTo(lastTime))
	if s.next(3) == 0 {
		x.Went = lastTime - s.upTo(20)
	}
	return x
}

func (s *source) pipe() impl.Pipe {
	p := pipe(1+s.upTo(1999), "")
	if s.next(2) == 0 {
		p.Room = 1 + s.upTo(20)
	}
	switch s.next(8) {
	case 0:
		return brokenPipe(p.Room, s.next(2) == 0)
	case 1, 2:
		p.Ended = true
	}
	if s.next(2) == 0 {
		p.Bytes = s.bytes(s.upTo(p.Room))
	}
	return p
}

// bytes are any, so that no two pieces of a long way are alike by chance.
func (s *source) bytes(n int64) string {
	b := make([]byte, n)
	for i := range b {
		b[i] = byte(s.next(256))
	}
	return string(b)
}

func TestManyTunnelsAsWritten(t *testing.T) {
	s := source{seed: 16}
	for range 3000 {
		x := s.tunnel()
		isTunnel(t, x, true)
		isOver(t, x, overAsWritten(x))
		isTorn(t, x, tornAsWritten(x))
		text, end := s.bytes(s.upTo(30)), s.next(2) == 0
		then, is := inAsWritten(x, text, end)
		isIn(t, x, text, end, then, is)
		then, took := backAsWritten(x, text, end)
		isBack(t, x, text, end, then, took)
		n := s.upTo(2000) - 1
		then, gone := outAsWritten(x, n)
		isOut(t, x, n, then, gone)
	}
}

// way is a tunnel beside all that came In and Back, and all that went Out and lies, or lay, in Down.
type way struct {
	x                   impl.Tunnel
	in, out, back, came string
	refused, cut        int
}

func (w *way) goIn(t *testing.T, text string) {
	t.Helper()
	fits := int64(len(w.x.Up.Bytes)+len(text)) <= w.x.Up.Room
	x, is := impl.In(w.x, text, false)
	if is != fits || !is && x != w.x {
		t.Fatalf("In(%s, %d bytes): %s, %v", short(w.x), len(text), short(x), is)
	}
	if is {
		w.in += text
	} else {
		w.refused++
	}
	w.x = x
}

func (w *way) goOut(t *testing.T, n int64) {
	t.Helper()
	x, gone := impl.Out(w.x, n)
	if x.Went-w.x.Went != int64(len(gone)) || x.Came != w.x.Came {
		t.Fatalf("%d bytes went Out of %s, and it is %s", len(gone), short(w.x), short(x))
	}
	w.out += gone
	w.x = x
}

func (w *way) goBack(t *testing.T, text string) {
	t.Helper()
	x, took := impl.Back(w.x, text, false)
	if took < 0 || took > int64(len(text)) {
		t.Fatalf("%d of %d bytes went Back", took, len(text))
	}
	if took < int64(len(text)) {
		w.cut++
	}
	w.back += text[:took]
	w.x = x
}

// drain takes of Down what chapter 17 will take, by the pipe's own function.
func (w *way) drain(n int64) {
	var s string
	w.x.Down, s = impl.Pulled(w.x.Down, n)
	w.came += s
}

// holds asks for the promise: out of each pipe came, in order and from the first byte on, what went into it.
func (w *way) holds(t *testing.T) {
	t.Helper()
	isTunnel(t, w.x, true)
	if w.out+w.x.Up.Bytes != w.in {
		t.Fatalf("%d bytes came In, %d went Out, and it is %s", len(w.in), len(w.out), short(w.x))
	}
	if w.came+w.x.Down.Bytes != w.back {
		t.Fatalf("%d bytes came Back, %d were taken, and it is %s", len(w.back), len(w.came), short(w.x))
	}
	if w.x.Went != int64(len(w.out)) || w.x.Came != 0 || w.x.Up.Ended || w.x.Down.Ended {
		t.Fatalf("%d bytes went Out, and it is %s", len(w.out), short(w.x))
	}
}

func TestWhatGoesOutIsWhatCameIn(t *testing.T) {
	for _, room := range []int64{1, 2, 3, 7, 64, 300, 1999, 2000} {
		s := source{seed: uint32(room)}
		x, _ := impl.NewTunnel(room)
		w := way{x: x}
		most := min(room+2, 700)
		for range 1500 {
			switch s.next(4) {
			case 0:
				w.goIn(t, s.bytes(s.upTo(most)))
			case 1:
				w.goOut(t, s.upTo(most)-1)
			case 2:
				w.goBack(t, s.bytes(s.upTo(most)))
			default:
				w.drain(s.upTo(most) - 1)
			}
			w.holds(t)
		}
		if w.refused < 10 || w.cut < 10 || len(w.out) < 40 || len(w.came) < 40 {
			t.Fatalf("room %d: %d refused, %d cut, %d Out, %d taken", room, w.refused, w.cut, len(w.out), len(w.came))
		}
		w.ends(t, room)
	}
}

// ends brings an end to both, under which what is left still comes out.
func (w *way) ends(t *testing.T, room int64) {
	t.Helper()
	x, is := impl.In(w.x, "", true)
	x, took := impl.Back(x, "", true)
	if !is || took != 0 || impl.Over(x) != (x.Up.Bytes == "" && x.Down.Bytes == "") {
		t.Fatal(is, took, short(x))
	}
	x, gone := impl.Out(x, room)
	down, left := impl.Pulled(x.Down, room)
	x.Down = down
	if w.out+gone != w.in || w.came+left != w.back || !impl.Over(x) {
		t.Fatalf("room %d: what was left is lost at the end: %s", room, short(x))
	}
}

// Texts of each length, one behind the other, each taken out in two pieces that part at another place.
func TestTextsOfEachLengthGoThrough(t *testing.T) {
	s := source{seed: 1600}
	x, _ := impl.NewTunnel(2000)
	var in, out strings.Builder
	for n := range int64(2001) {
		if n > 300 && n < 1900 && n%50 != 0 {
			continue
		}
		text := s.bytes(n)
		y, is := impl.In(x, text, false)
		y, first := impl.Out(y, s.upTo(n))
		y, rest := impl.Out(y, 2000)
		if !is || first+rest != text || y.Went != x.Went+n {
			t.Fatalf("%d bytes: %s became %s", n, short(x), short(y))
		}
		in.WriteString(text)
		out.WriteString(first + rest)
		x = y
	}
	if in.String() != out.String() || x.Went != int64(out.Len()) {
		t.Fatal("another text")
	}
}

// As many go out in all as Went can count; what is there then stays.
func TestNoMoreGoesOutThanWentCanCount(t *testing.T) {
	x, _ := impl.NewTunnel(2000)
	text := strings.Repeat("0123456789", 200)
	all := 0
	for range lastTime/2000 + 3 {
		var gone string
		x, _ = impl.In(x, text, false)
		x, gone = impl.Out(x, 1999)
		all += len(gone)
		isTunnel(t, x, true)
		x, gone = impl.Out(x, 2000)
		all += len(gone)
		isTunnel(t, x, true)
	}
	if all != lastTime || x != tunnel(pipe(2000, text), pipe(2000, ""), lastTime, 0) {
		t.Fatalf("%d went out, and it is %s", all, short(x))
	}
	isOut(t, x, 1, x, "")
	isOver(t, impl.Torn(x), true)
}

// Whatever is done to a right tunnel, in whatever order, what is answered is right and as the chapter says.
func TestTunnelsStayRight(t *testing.T) {
	s := source{seed: 61}
	over := 0
	for range 400 {
		x := s.tunnel()
		for range 40 {
			text, end := s.bytes(s.upTo(min(x.Up.Room, x.Down.Room, 40)+1)), s.next(12) == 0
			var then impl.Tunnel
			switch s.next(16) {
			case 0, 1, 2, 3, 4:
				then, is := inAsWritten(x, text, end)
				isIn(t, x, text, end, then, is)
				x = then
				continue
			case 5, 6, 7, 8:
				n := s.upTo(60) - 1
				then, gone := outAsWritten(x, n)
				isOut(t, x, n, then, gone)
				x = then
				continue
			case 9, 10, 11, 12, 13, 14:
				var took int64
				then, took = backAsWritten(x, text, end)
				isBack(t, x, text, end, then, took)
			default:
				if s.next(5) != 0 {
					continue
				}
				then = tornAsWritten(x)
				isTorn(t, x, then)
			}
			x = then
		}
		isTunnel(t, x, true)
		isOver(t, x, overAsWritten(x))
		if impl.Over(x) {
			over++
		}
	}
	if over < 20 || over > 380 {
		t.Fatalf("%d of 400 are over", over)
	}
}

// tunnel has its bytes over buffers, so that a write into them, or memory shared with them, is seen.
func (w *watched) tunnel(x impl.Tunnel) impl.Tunnel {
	x.Up.Bytes, x.Down.Bytes = w.text(x.Up.Bytes), w.text(x.Down.Bytes)
	return x
}

func (w *watched) change() {
	for _, buffer := range w.buffers {
		for i := range buffer {
			buffer[i] ^= 0x55
		}
	}
}

// textsOf are those in which memory could be shared: one byte alone may lie in a table of the language's own.
func textsOf(x impl.Tunnel, more ...string) []string {
	return slices.DeleteFunc(append(more, x.Up.Bytes, x.Down.Bytes), func(s string) bool { return len(s) < 2 })
}

// partsFrom asks that no text shares memory with an argument, and no two of one answer with each other.
func (w *watched) partsFrom(t *testing.T, what string, texts []string) {
	t.Helper()
	w.apartFrom(t, texts...)
	for i, text := range texts {
		for _, other := range texts[:i] {
			if share(text, other) {
				t.Fatalf("%s: %q and %q of one answer share memory", what, text, other)
			}
		}
	}
}

func TestTunnelArgumentsStayAndAnswersAreNewMemory(t *testing.T) {
	for _, x := range append(rightTunnels(), wrongTunnels()[:60]...) {
		w := &watched{}
		given, text := w.tunnel(x), w.text("text")
		for _, end := range []bool{false, true} {
			for _, s := range []string{"", text, w.text(strings.Repeat("long", 600))} {
				in, _ := impl.In(given, s, end)
				w.partsFrom(t, "In", textsOf(in))
				back, _ := impl.Back(given, s, end)
				w.partsFrom(t, "Back", textsOf(back))
			}
		}
		for _, n := range []int64{-1, 0, 2, int64(len(x.Up.Bytes)), 3000} {
			out, gone := impl.Out(given, n)
			w.partsFrom(t, "Out", textsOf(out, gone))
		}
		w.partsFrom(t, "Torn", textsOf(impl.Torn(given)))
		impl.TunnelOk(given)
		impl.Over(given)
		w.stay(t)
		if given != x {
			t.Fatalf("%s became %s", short(x), short(given))
		}
	}
}

// Both pipes of one tunnel may be handed in over one text: those of the answer lie apart all the same.
func TestTunnelOfPipesThatShareTheirBytes(t *testing.T) {
	w := &watched{}
	text := w.text("abcdefgh")
	x := tunnel(pipe(9, text[:6]), pipe(9, text[2:]), 1, 2)
	in, _ := impl.In(x, text[:2], false)
	w.partsFrom(t, "In", textsOf(in))
	refused, _ := impl.In(x, text, false)
	w.partsFrom(t, "In of too much", textsOf(refused))
	back, _ := impl.Back(x, text, true)
	w.partsFrom(t, "Back", textsOf(back))
	out, gone := impl.Out(x, 3)
	w.partsFrom(t, "Out", textsOf(out, gone))
	none, _ := impl.Out(x, -1)
	w.partsFrom(t, "Out of nothing", textsOf(none))
	w.stay(t)
	w.change()
	for i, c := range []struct{ got, then impl.Tunnel }{
		{in, tunnel(pipe(9, "abcdefab"), pipe(9, "cdefgh"), 1, 2)},
		{refused, tunnel(pipe(9, "abcdef"), pipe(9, "cdefgh"), 1, 2)},
		{back, tunnel(pipe(9, "abcdef"), pipe(9, "cdefghabc"), 1, 2)},
		{out, tunnel(pipe(9, "def"), pipe(9, "cdefgh"), 4, 2)},
		{none, tunnel(pipe(9, "abcdef"), pipe(9, "cdefgh"), 1, 2)},
	} {
		if c.got != c.then {
			t.Fatalf("answer %d is %s, not %s", i, short(c.got), short(c.then))
		}
	}
	if gone != "abc" {
		t.Fatal(gone)
	}
}

// What was answered stays when what was handed in is changed later, down to the bytes of its texts.
func TestTunnelAnswersStayWhenTheArgumentsAreChanged(t *testing.T) {
	for _, x := range rightTunnels() {
		for _, end := range []bool{false, true} {
			w := &watched{}
			given, text := w.tunnel(x), w.text("tex")
			in, _ := impl.In(given, text, end)
			back, _ := impl.Back(given, text, end)
			out, gone := impl.Out(given, 3)
			torn := impl.Torn(given)
			w.change()
			given.Up.Room, given.Down.Room, given.Went, given.Came = -1, -1, -1, -1
			wantIn, _ := inAsWritten(x, "tex", end)
			wantBack, _ := backAsWritten(x, "tex", end)
			wantOut, wantGone := outAsWritten(x, 3)
			if in != wantIn || back != wantBack || out != wantOut || gone != wantGone || torn != tornAsWritten(x) {
				t.Fatalf("the answers of %s became %s, %s, %s and %q", short(x), short(in), short(back), short(out), gone)
			}
		}
	}
}

// A call hangs on what it is given alone: what was asked ahead of it, or is asked beside it, does not change it.
func TestTunnelsAreTheSameWhateverWasAskedAhead(t *testing.T) {
	s := source{seed: 160}
	type call struct {
		x, in, back, out impl.Tunnel
		text, gone       string
		n                int64
	}
	var calls []call
	for range 300 {
		c := call{x: s.tunnel(), text: s.bytes(s.upTo(9)), n: s.upTo(50)}
		c.in, _ = inAsWritten(c.x, c.text, true)
		c.back, _ = backAsWritten(c.x, c.text, true)
		c.out, c.gone = outAsWritten(c.x, c.n)
		calls = append(calls, c)
	}
	same := func(c call) bool {
		in, _ := impl.In(c.x, c.text, true)
		back, _ := impl.Back(c.x, c.text, true)
		out, gone := impl.Out(c.x, c.n)
		return in == c.in && back == c.back && out == c.out && gone == c.gone && impl.Torn(c.x) == tornAsWritten(c.x)
	}
	for i, c := range slices.Backward(calls) {
		if !same(c) {
			t.Fatalf("call %d of %s is another one backwards", i, short(c.x))
		}
	}
	wrong := make(chan int, 8)
	for range cap(wrong) {
		go func() {
			wrong <- slices.IndexFunc(calls, func(c call) bool { return !same(c) })
		}()
	}
	for range cap(wrong) {
		if i := <-wrong; i >= 0 {
			t.Errorf("call %d of %s is another one beside others", i, short(calls[i].x))
		}
	}
}

// A text of a megabyte is too much for each room, and no trouble.
func TestTunnelsOfWhatIsFarFromRight(t *testing.T) {
	long := strings.Repeat(allBytes(), 1<<12)
	x, _ := impl.NewTunnel(2000)
	isIn(t, x, long, true, x, false)
	isBack(t, x, long, true, tunnel(pipe(2000, ""), pipe(2000, long[:2000]), 0, 0), 2000)
	isTunnel(t, tunnel(pipe(2000, long), pipe(2000, ""), 0, 0), false)
	isOut(t, tunnel(pipe(2000, ""), pipe(2000, long), 0, 0), 1, impl.Tunnel{}, "")
}
