package tests

import (
	"math"
	"math/big"
	"testing"

	"loop.example/g00296/impl"
)

const top = 16777215 // the document's MaxWindow

// The answers that the chapter tells, worked out in numbers that never wrap round.

func isWindow(w *big.Int) bool {
	return w.Cmp(big.NewInt(-top)) >= 0 && w.Cmp(big.NewInt(top)) <= 0
}

func windowOrNot(w int64, then *big.Int, is bool) (int64, bool) {
	if !is || !isWindow(big.NewInt(w)) || !isWindow(then) {
		return w, false
	}
	return then.Int64(), true
}

func grantedAsWritten(w, n int64) (int64, bool) {
	then := new(big.Int).Add(big.NewInt(w), big.NewInt(n))
	return windowOrNot(w, then, n >= 1 && n <= top)
}

func usedAsWritten(w, n int64) (int64, bool) {
	then := new(big.Int).Sub(big.NewInt(w), big.NewInt(n))
	return windowOrNot(w, then, n >= 0 && n <= w)
}

func movedAsWritten(w, old, fresh int64) (int64, bool) {
	by := new(big.Int).Sub(big.NewInt(fresh), big.NewInt(old))
	then := by.Add(by, big.NewInt(w))
	return windowOrNot(w, then, old >= 0 && old <= top && fresh >= 0 && fresh <= top)
}

func fitsAsWritten(conn, stream, n int64) int64 {
	if !isWindow(big.NewInt(conn)) || !isWindow(big.NewInt(stream)) || n < 0 {
		return 0
	}
	least := n
	if conn < least {
		least = conn
	}
	if stream < least {
		least = stream
	}
	if least < 0 {
		return 0
	}
	return least
}

func isGranted(t *testing.T, w, n, then int64, right bool) {
	t.Helper()
	if got, is := impl.Granted(w, n); got != then || is != right {
		t.Fatalf("Granted(%d, %d): %d, %v, not %d, %v", w, n, got, is, then, right)
	}
}

func isUsed(t *testing.T, w, n, then int64, right bool) {
	t.Helper()
	if got, is := impl.Used(w, n); got != then || is != right {
		t.Fatalf("Used(%d, %d): %d, %v, not %d, %v", w, n, got, is, then, right)
	}
}

func isMoved(t *testing.T, w, old, fresh, then int64, right bool) {
	t.Helper()
	if got, is := impl.Moved(w, old, fresh); got != then || is != right {
		t.Fatalf("Moved(%d, %d, %d): %d, %v, not %d, %v", w, old, fresh, got, is, then, right)
	}
}

func doesFit(t *testing.T, conn, stream, n, fits int64) {
	t.Helper()
	if got := impl.Fits(conn, stream, n); got != fits {
		t.Fatalf("Fits(%d, %d, %d): %d, not %d", conn, stream, n, got, fits)
	}
}

func rightWindows() []int64 {
	return []int64{-top, -top + 1, -8388608, -1000, -2, -1, 0, 1, 2, 7, 1000, 8388607, 8388608, top - 1, top}
}

// Numbers that are a window by their lowest 32 bits, or where a sum of two wraps round, are among them.
func wrongWindows() []int64 {
	return []int64{-top - 1, top + 1, -2*top - 1, 2*top + 1, -1 << 31, 1 << 31, -1 << 32, 1 << 32, 1<<32 + 5, 1 << 62, -1 << 62,
		math.MinInt64, math.MinInt64 + 1, math.MinInt64 + top, math.MaxInt64 - top, math.MaxInt64 - 1, math.MaxInt64}
}

func allWindows() []int64 { return append(rightWindows(), wrongWindows()...) }

// nearby has, beside the windows, the numbers just below and above w and its distance to both ends.
func nearby(w int64) []int64 {
	near := allWindows()
	for _, n := range []int64{w, -w, top - w, top + w} {
		near = append(near, n-1, n, n+1)
	}
	return near
}

func TestMaxWindowIsThatOfTheDocument(t *testing.T) {
	if impl.MaxWindow != 16777215 {
		t.Error(impl.MaxWindow)
	}
}

func TestGranted(t *testing.T) {
	for _, c := range []struct {
		w, n, then int64
		is         bool
	}{
		{5, 7, 12, true}, {0, 1, 1, true}, {-1, 1, 0, true}, {-2, 1, -1, true}, {-5, 7, 2, true}, {1000, 24, 1024, true},
		// n
		{0, 16777215, 16777215, true}, {0, 16777216, 0, false}, {-1, 16777215, 16777214, true}, {-1, 16777216, -1, false},
		{-16777215, 16777215, 0, true}, {-16777215, 16777216, -16777215, false}, {-16777215, 1, -16777214, true},
		{5, 0, 5, false}, {0, 0, 0, false}, {-5, 0, -5, false}, {5, -1, 5, false}, {0, -1, 0, false}, {5, -5, 5, false}, {5, -16777215, 5, false},
		// their sum
		{16777214, 1, 16777215, true}, {16777214, 2, 16777214, false}, {16777215, 1, 16777215, false}, {1, 16777214, 16777215, true}, {1, 16777215, 1, false},
		{16777215, 16777215, 16777215, false}, {8388608, 8388607, 16777215, true}, {8388608, 8388608, 8388608, false},
		// w
		{-16777216, 1, -16777216, false}, {-16777216, 16777215, -16777216, false}, {16777216, 1, 16777216, false}, {16777217, -1, 16777217, false}, {16777216, 0, 16777216, false},
	} {
		isGranted(t, c.w, c.n, c.then, c.is)
	}
}

func TestUsed(t *testing.T) {
	for _, c := range []struct {
		w, n, then int64
		is         bool
	}{
		{12, 7, 5, true}, {1000, 24, 976, true},
		// w above 0
		{5, 0, 5, true}, {5, 1, 4, true}, {5, 4, 1, true}, {5, 5, 0, true}, {5, 6, 5, false}, {5, -1, 5, false}, {1, 1, 0, true}, {1, 2, 1, false},
		{16777215, 0, 16777215, true}, {16777215, 16777215, 0, true}, {16777215, 16777216, 16777215, false}, {16777215, -1, 16777215, false}, {16777214, 16777215, 16777214, false},
		// w 0
		{0, 0, 0, true}, {0, 1, 0, false}, {0, -1, 0, false}, {0, 16777215, 0, false},
		// w below 0: 0 is above it already
		{-1, 0, -1, false}, {-1, -1, -1, false}, {-1, 1, -1, false}, {-5, -6, -5, false}, {-5, -5, -5, false}, {-16777215, 0, -16777215, false}, {-16777215, -16777215, -16777215, false},
		// no window
		{16777216, 0, 16777216, false}, {16777216, 1, 16777216, false}, {16777216, 16777216, 16777216, false}, {-16777216, 0, -16777216, false}, {-16777216, -16777217, -16777216, false},
	} {
		isUsed(t, c.w, c.n, c.then, c.is)
	}
}

func TestMoved(t *testing.T) {
	for _, c := range []struct {
		w, old, fresh, then int64
		is                  bool
	}{
		{5, 500, 100, -395, true}, {5, 100, 500, 405, true}, {-395, 100, 500, 5, true}, {500, 500, 500, 500, true}, {500, 500, 0, 0, true}, {499, 500, 0, -1, true}, {0, 0, 1, 1, true}, {0, 1, 0, -1, true}, {7, 0, 0, 7, true}, {-7, 0, 0, -7, true},
		// old and fresh
		{0, 0, 16777215, 16777215, true}, {0, 16777215, 0, -16777215, true}, {3, 16777215, 16777215, 3, true},
		{0, 0, 16777216, 0, false}, {0, 16777216, 0, 0, false}, {3, 16777216, 16777216, 3, false}, {3, 16777216, 16777215, 3, false}, {3, 16777215, 16777216, 3, false},
		{3, -1, 0, 3, false}, {3, 0, -1, 3, false}, {3, -1, -1, 3, false}, {3, -1, 5, 3, false}, {3, 5, -1, 3, false},
		// where it comes to
		{1, 0, 16777214, 16777215, true}, {1, 0, 16777215, 1, false}, {16777215, 0, 1, 16777215, false}, {16777214, 5, 6, 16777215, true}, {16777215, 5, 6, 16777215, false}, {16777215, 6, 6, 16777215, true}, {16777215, 16777215, 0, 0, true},
		{-1, 16777214, 0, -16777215, true}, {-1, 16777215, 0, -1, false}, {-16777215, 1, 0, -16777215, false}, {-16777214, 6, 5, -16777215, true}, {-16777215, 6, 5, -16777215, false}, {-16777215, 6, 6, -16777215, true}, {-16777215, 0, 16777215, 0, true},
		// no window, even where it would come to one
		{16777216, 0, 0, 16777216, false}, {16777216, 1, 0, 16777216, false}, {16777216, 500, 100, 16777216, false}, {-16777216, 0, 0, -16777216, false}, {-16777216, 0, 1, -16777216, false}, {-16777216, 100, 500, -16777216, false},
	} {
		isMoved(t, c.w, c.old, c.fresh, c.then, c.is)
	}
}

func TestFits(t *testing.T) {
	for _, c := range []struct{ conn, stream, n, fits int64 }{
		// n less than both, as one of them, between them, more than both
		{3, 9, 2, 2}, {9, 3, 2, 2}, {3, 9, 3, 3}, {9, 3, 3, 3}, {3, 9, 4, 3}, {9, 3, 4, 3}, {3, 9, 9, 3}, {3, 9, 10, 3}, {9, 3, 10, 3}, {5, 5, 4, 4}, {5, 5, 5, 5}, {5, 5, 6, 5},
		{3, 9, 0, 0}, {1, 1, 1, 1}, {3, 9, 1, 1}, {3, 9, 16777216, 3}, {3, 9, math.MaxInt64, 3}, {9, 3, math.MaxInt64, 3},
		// windows that are 0 or below 0
		{0, 9, 4, 0}, {9, 0, 4, 0}, {0, 0, 4, 0}, {-1, 9, 4, 0}, {9, -1, 4, 0}, {-1, -1, 4, 0}, {0, -1, 4, 0}, {-395, 9, 4, 0}, {-16777215, 16777215, 4, 0}, {16777215, -16777215, 4, 0}, {-1, 9, 0, 0}, {0, 0, 0, 0},
		// the ends
		{16777215, 16777215, 16777214, 16777214}, {16777215, 16777215, 16777215, 16777215}, {16777215, 16777215, 16777216, 16777215}, {16777215, 16777215, math.MaxInt64, 16777215}, {16777215, 1, 16777215, 1},
		{16777216, 9, 4, 0}, {9, 16777216, 4, 0}, {16777216, 16777216, 4, 0}, {-16777216, 9, 4, 0}, {9, -16777216, 4, 0}, {16777216, -16777216, 4, 0}, {16777216, 16777216, 16777216, 0},
		// n below 0
		{3, 9, -1, 0}, {-5, -9, -1, 0}, {-5, -9, -10, 0}, {0, 0, -1, 0}, {3, 9, math.MinInt64, 0}, {16777216, 9, -1, 0},
	} {
		doesFit(t, c.conn, c.stream, c.n, c.fits)
	}
}

func TestGrantedAndUsedAtEachEdge(t *testing.T) {
	for _, w := range allWindows() {
		for _, n := range nearby(w) {
			then, is := grantedAsWritten(w, n)
			isGranted(t, w, n, then, is)
			then, is = usedAsWritten(w, n)
			isUsed(t, w, n, then, is)
		}
	}
}

func TestMovedAtEachEdge(t *testing.T) {
	for _, w := range allWindows() {
		for _, old := range nearby(w) {
			for _, fresh := range append(nearby(w), old-1, old, old+1, old+top-w, old+top-w+1, old-top-w, old-top-w-1) {
				then, is := movedAsWritten(w, old, fresh)
				isMoved(t, w, old, fresh, then, is)
			}
		}
	}
}

func TestFitsAtEachEdge(t *testing.T) {
	for _, conn := range allWindows() {
		for _, stream := range nearby(conn) {
			for _, n := range append(nearby(conn), stream-1, stream, stream+1) {
				doesFit(t, conn, stream, n, fitsAsWritten(conn, stream, n))
			}
		}
	}
}

// All small numbers at each place, so that no rule rests on the ends alone.
func TestWindowsOfSmallNumbers(t *testing.T) {
	for a := int64(-12); a <= 12; a++ {
		for b := int64(-12); b <= 12; b++ {
			then, is := grantedAsWritten(a, b)
			isGranted(t, a, b, then, is)
			then, is = usedAsWritten(a, b)
			isUsed(t, a, b, then, is)
			for c := int64(-12); c <= 12; c++ {
				then, is = movedAsWritten(a, b, c)
				isMoved(t, a, b, c, then, is)
				doesFit(t, a, b, c, fitsAsWritten(a, b, c))
			}
		}
	}
}

// Each wrong number at each place, alone and together with another one, leaves the window as it is.
func TestWrongWindowsHaveTheOneFixedAnswer(t *testing.T) {
	for _, wrong := range wrongWindows() {
		for _, n := range allWindows() {
			isGranted(t, wrong, n, wrong, false)
			isGranted(t, n, wrong, n, false)
			isUsed(t, wrong, n, wrong, false)
			isUsed(t, n, wrong, n, false)
			doesFit(t, wrong, n, 4, 0)
			doesFit(t, n, wrong, 4, 0)
			for _, m := range allWindows() {
				isMoved(t, wrong, n, m, wrong, false)
				isMoved(t, n, wrong, m, n, false)
				isMoved(t, n, m, wrong, n, false)
				doesFit(t, wrong, n, m, 0)
				doesFit(t, n, wrong, m, 0)
			}
		}
	}
	for _, w := range rightWindows() {
		for _, stream := range rightWindows() {
			doesFit(t, w, stream, math.MinInt64, 0)
			// The chapter wants the windows in range; of n it wants no more than that it is not below 0.
			doesFit(t, w, stream, math.MaxInt64, max(0, min(w, stream)))
		}
	}
}

func TestWhatIsGrantedAndThenUsedComesToNothing(t *testing.T) {
	for _, w := range rightWindows() {
		for _, n := range nearby(w) {
			then, is := impl.Granted(w, n)
			if !is {
				continue
			}
			if w >= 0 {
				isUsed(t, then, n, w, true)
			} else {
				// A window that was below 0 still lets less than it was granted.
				isUsed(t, then, n, then, false)
			}
		}
		for _, n := range nearby(w) {
			if then, is := impl.Used(w, n); is && n > 0 {
				isGranted(t, then, n, w, true)
			}
		}
	}
}

// window takes two turns: one of next has too few bits for all windows.
func (s *source) window() int64 {
	high := int64(s.next(4096))
	return (high<<13|int64(s.next(8192)))%(2*top+1) - top
}

func TestGrantsAndUsesByTurns(t *testing.T) {
	src := source{seed: 8}
	for range 200 {
		first := int64(src.next(5000))
		w, granted, used := first, int64(0), int64(0)
		for range 100 {
			n := 1 + int64(src.next(3000))
			if then, is := impl.Granted(w, n); is {
				w, granted = then, granted+n
			}
			n = int64(src.next(3000))
			if then, is := impl.Used(w, n); is {
				w, used = then, used+n
			}
			if w < 0 || w != first+granted-used {
				t.Fatalf("%d, granted %d, used %d: %d", first, granted, used, w)
			}
		}
		if rest := w - first; rest > 0 {
			isUsed(t, w, rest, first, true)
		} else if rest < 0 {
			isGranted(t, w, -rest, first, true)
		}
	}
}

func TestSeveralGrantsAreOneOfTheirSum(t *testing.T) {
	src := source{seed: 21}
	for range 500 {
		first := src.window()
		w, sum := first, int64(0)
		for range 1 + src.next(20) {
			n := 1 + int64(src.next(1<<20))
			then, is := impl.Granted(w, n)
			if !is {
				isGranted(t, first, sum+n, first, false) // what is too much in parts is too much at once
				break
			}
			w, sum = then, sum+n
			if sum > top {
				break
			}
			isGranted(t, first, sum, w, true)
		}
	}
}

func TestSeveralUsesAreOneOfTheirSum(t *testing.T) {
	src := source{seed: 34}
	for range 500 {
		first := src.window()
		w, sum := first, int64(0)
		for range 1 + src.next(40) {
			n := int64(src.next(1 << 20))
			then, is := impl.Used(w, n)
			if !is {
				isUsed(t, first, sum+n, first, false)
				break
			}
			w, sum = then, sum+n
			isUsed(t, first, sum, w, true)
		}
		if w >= 0 {
			isUsed(t, w, w, 0, true)
			isUsed(t, first, first, 0, true)
		}
	}
}

// fits asks that what Fits can be Used of both windows, and one more, where more was asked for, of one of them not.
func fits(t *testing.T, conn, stream, n int64) {
	t.Helper()
	k := impl.Fits(conn, stream, n)
	_, ofConn := impl.Used(conn, k)
	_, ofStream := impl.Used(stream, k)
	if k < 0 || k > max(n, 0) {
		t.Fatalf("Fits(%d, %d, %d): %d", conn, stream, n, k)
	}
	// Of a window below 0 nothing can be Used, not even 0.
	if conn >= 0 && stream >= 0 && (!ofConn || !ofStream) || k > 0 && (!ofConn || !ofStream) {
		t.Fatalf("Fits(%d, %d, %d): %d, which can't be Used of both", conn, stream, n, k)
	}
	if n <= k {
		return
	}
	_, ofConn = impl.Used(conn, k+1)
	_, ofStream = impl.Used(stream, k+1)
	if n > 0 && ofConn && ofStream {
		t.Fatalf("Fits(%d, %d, %d): %d, and one more can be Used of both", conn, stream, n, k)
	}
}

func TestFitsFits(t *testing.T) {
	for _, conn := range rightWindows() {
		for _, stream := range rightWindows() {
			for _, n := range append(nearby(conn), nearby(stream)...) {
				fits(t, conn, stream, n)
			}
		}
	}
	src := source{seed: 55}
	for range 20000 {
		fits(t, src.window(), src.window(), src.window())
		near := src.window()
		fits(t, near, near-int64(src.next(3)), near+int64(src.next(5))-2)
	}
}

// What Fits is Used of both again and again: it comes to the least of both, and then nothing fits.
func TestFitsUntilNothingIsLeft(t *testing.T) {
	for _, c := range [][2]int64{{2000, 500}, {500, 2000}, {700, 700}, {0, 9}, {-3, 9}, {top, 2500}} {
		conn, stream, sent := c[0], c[1], int64(0)
		for {
			k := impl.Fits(conn, stream, 300)
			if k == 0 {
				break
			}
			isUsed(t, conn, k, conn-k, true)
			isUsed(t, stream, k, stream-k, true)
			conn, stream, sent = conn-k, stream-k, sent+k
		}
		if sent != max(0, min(c[0], c[1])) {
			t.Fatalf("%d and %d: %d was sent", c[0], c[1], sent)
		}
	}
}

func TestMovedAndBackIsTheWindowThatWas(t *testing.T) {
	sizes := []int64{0, 1, 2, 500, 501, 8388607, 8388608, top - 1, top}
	there := 0
	back := func(w, old, fresh int64) {
		if then, is := impl.Moved(w, old, fresh); is {
			isMoved(t, then, fresh, old, w, true)
			there++
		}
	}
	for _, w := range rightWindows() {
		for _, old := range sizes {
			isMoved(t, w, old, old, w, true)
			for _, fresh := range sizes {
				back(w, old, fresh)
			}
		}
	}
	src := source{seed: 13}
	for range 20000 {
		back(src.window(), int64(src.next(top+1)), int64(src.next(top+1)))
	}
	if there < 10000 {
		t.Fatalf("only %d could be Moved", there)
	}
}

func TestMovedByTwoStepsIsMovedByOne(t *testing.T) {
	src := source{seed: 89}
	for range 20000 {
		w, a, b, c := src.window()/2, int64(src.next(1<<23)), int64(src.next(1<<23)), int64(src.next(1<<23))
		half, is := impl.Moved(w, a, b)
		if !is {
			t.Fatalf("Moved(%d, %d, %d): false", w, a, b)
		}
		end, is := impl.Moved(half, b, c)
		then, asOne := impl.Moved(w, a, c)
		if is && (!asOne || end != then) {
			t.Fatalf("%d Moved from %d to %d to %d: %d, and at once %d, %v", w, a, b, c, end, then, asOne)
		}
	}
}

// A window that is below 0 by Moved lets nothing go until enough was Granted.
func TestBelowNoughtByMovedAndBackByGranted(t *testing.T) {
	w, is := impl.Used(500, 450)
	if !is || w != 50 {
		t.Fatal(w, is)
	}
	isMoved(t, w, 500, 100, -350, true)
	w = -350
	for w < 0 {
		isUsed(t, w, 0, w, false)
		isUsed(t, w, 1, w, false)
		doesFit(t, 2000, w, 10, 0)
		doesFit(t, w, 2000, 10, 0)
		isGranted(t, w, 70, w+70, true)
		w += 70
	}
	isUsed(t, w, 0, 0, true)
	isUsed(t, w, 1, 0, false)
	doesFit(t, 2000, w, 10, 0)
	isGranted(t, w, 3, 3, true)
	doesFit(t, 2000, 3, 10, 3)
	isUsed(t, 3, 3, 0, true)
	// From the lowest of all, the greatest grant brings it to 0 and another one to the top.
	isMoved(t, 0, top, 0, -top, true)
	isGranted(t, -top, top, 0, true)
	isGranted(t, 0, top, top, true)
	isGranted(t, top, 1, top, false)
}
