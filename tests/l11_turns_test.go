package tests

import (
	"math"
	"slices"
	"testing"
	"unsafe"

	"loop.example/g00296/impl"
)

func line(weight, left int64, sizes ...int64) impl.Line {
	return impl.Line{Weight: weight, Left: left, Sizes: sizes}
}

func round(turn int64, given bool, lines ...impl.Line) impl.Round {
	return impl.Round{Turn: turn, Given: given, Lines: lines}
}

func times(n int, size int64) []int64 { return slices.Repeat([]int64{size}, n) }

// sameRound takes an empty list and nil for the same.
func sameRound(a, b impl.Round) bool {
	return a.Turn == b.Turn && a.Given == b.Given && slices.EqualFunc(a.Lines, b.Lines, sameLine)
}

func sameLine(a, b impl.Line) bool {
	return a.Weight == b.Weight && a.Left == b.Left && slices.Equal(a.Sizes, b.Sizes)
}

// copiedRound is written anew, so that a fault of the program's own copying shows.
func copiedRound(r impl.Round) impl.Round {
	x := impl.Round{Turn: r.Turn, Given: r.Given, Lines: make([]impl.Line, len(r.Lines))}
	for i, l := range r.Lines {
		x.Lines[i] = line(l.Weight, l.Left, slices.Clone(l.Sizes)...)
	}
	return x
}

// roundAsWritten is what the chapter wants, want by want.
func roundAsWritten(r impl.Round) bool {
	if len(r.Lines) < 1 || len(r.Lines) > 6 || r.Turn < 0 || r.Turn >= int64(len(r.Lines)) {
		return false
	}
	for _, l := range r.Lines {
		if l.Weight < 1 || l.Weight > 10 || l.Left < 0 || l.Left > 2000 || len(l.Sizes) > 30 {
			return false
		}
		for _, size := range l.Sizes {
			if size < 1 || size > 100 {
				return false
			}
		}
	}
	return true
}

func queuedAsWritten(r impl.Round, n, size int64) (impl.Round, bool) {
	if !roundAsWritten(r) {
		return impl.Round{}, false
	}
	then := copiedRound(r)
	if n < 0 || n >= int64(len(r.Lines)) || size < 1 || size > 100 || len(r.Lines[n].Sizes) == 30 {
		return then, false
	}
	then.Lines[n].Sizes = append(then.Lines[n].Sizes, size)
	return then, true
}

func servedAsWritten(r impl.Round) (impl.Round, int64, int64) {
	if !roundAsWritten(r) {
		return impl.Round{}, -1, 0
	}
	then := copiedRound(r)
	if waitingAsWritten(r) == 0 {
		return then, -1, 0
	}
	for {
		l := &then.Lines[then.Turn]
		switch {
		case len(l.Sizes) == 0:
			l.Left = 0
		case !then.Given:
			l.Left += 100 * l.Weight
			if l.Left > 2000 {
				l.Left = 2000
			}
			then.Given = true
			continue
		case l.Sizes[0] <= l.Left:
			size := l.Sizes[0]
			l.Sizes, l.Left = l.Sizes[1:], l.Left-size
			return then, then.Turn, size
		}
		then.Turn++
		if then.Turn == int64(len(then.Lines)) {
			then.Turn = 0
		}
		then.Given = false
	}
}

func waitingAsWritten(r impl.Round) int64 {
	if !roundAsWritten(r) {
		return -1
	}
	sum := int64(0)
	for _, l := range r.Lines {
		for _, size := range l.Sizes {
			sum += size
		}
	}
	return sum
}

func isQueued(t *testing.T, r impl.Round, n, size int64, then impl.Round, right bool) {
	t.Helper()
	if got, is := impl.Queued(r, n, size); is != right || !sameRound(got, then) {
		t.Fatalf("Queued(%v, %d, %d): %v, %v, not %v, %v", r, n, size, got, is, then, right)
	}
}

func isServed(t *testing.T, r, then impl.Round, n, size int64) {
	t.Helper()
	if got, i, s := impl.Served(r); i != n || s != size || !sameRound(got, then) {
		t.Fatalf("Served(%v): %v, %d, %d, not %v, %d, %d", r, got, i, s, then, n, size)
	}
}

func isWaiting(t *testing.T, r impl.Round, sum int64) {
	t.Helper()
	if got := impl.Waiting(r); got != sum {
		t.Fatalf("Waiting(%v): %d, not %d", r, got, sum)
	}
}

// turnsAsWritten asks each function about the round, Queued with these lines and sizes.
func turnsAsWritten(t *testing.T, r impl.Round, lines, sizes []int64) {
	t.Helper()
	if right := roundAsWritten(r); impl.RoundOk(r) != right {
		t.Fatalf("RoundOk(%v): %v", r, !right)
	}
	isWaiting(t, r, waitingAsWritten(r))
	then, n, size := servedAsWritten(r)
	isServed(t, r, then, n, size)
	for _, n := range lines {
		for _, size := range sizes {
			then, is := queuedAsWritten(r, n, size)
			isQueued(t, r, n, size, then, is)
		}
	}
}

func someLineNumbers(r impl.Round) []int64 {
	n := int64(len(r.Lines))
	return []int64{-1, 0, 1, 2, 3, 4, 5, 6, 7, n - 1, n, n + 1, -2, -6, 1 << 32, 1<<32 + 1, math.MinInt64, math.MinInt64 + 1, math.MaxInt64 - 1, math.MaxInt64}
}

func someSizes() []int64 {
	return []int64{0, 1, 2, 50, 99, 100, 101, 102, -1, -100, 1 << 32, 1<<32 + 1, 1<<32 + 100, math.MinInt64, math.MinInt64 + 1, math.MaxInt64 - 1, math.MaxInt64}
}

func rightRounds() []impl.Round {
	return []impl.Round{
		round(0, false, line(1, 0)),
		round(0, true, line(1, 0)),
		round(0, false, line(10, 2000)),
		{Lines: []impl.Line{{Weight: 3, Left: 7, Sizes: []int64{}}}},
		round(0, false, line(1, 0, 1)), round(0, false, line(1, 0, 100)), round(0, true, line(1, 0, 100)),
		round(0, true, line(1, 100, 100)), round(0, true, line(1, 99, 100)), round(0, true, line(1, 101, 100, 1)),
		round(0, false, line(1, 2000, 100)), round(0, false, line(10, 1000, 1)), round(0, false, line(10, 1001, 1)), round(0, true, line(10, 2000, 1)),
		round(0, false, line(1, 0, times(29, 100)...)), round(0, false, line(1, 0, times(30, 100)...)), round(0, true, line(10, 2000, times(30, 1)...)),
		round(0, false, line(1, 40, 60), line(2, 30)), round(1, false, line(1, 40, 60), line(2, 30)),
		round(0, true, line(1, 40, 60), line(2, 30)), round(1, true, line(1, 40, 60), line(2, 30)),
		round(1, true, line(1, 40), line(2, 30)), round(1, false, line(1, 0, 100, 3), line(10, 2000, 7, 8, 9)),
		round(2, true, line(1, 11), line(2, 22), line(3, 33)), round(2, true, line(1, 11, 100), line(2, 22), line(3, 33, 34, 35)),
		round(5, true, line(1, 0, 1), line(2, 100, 2), line(4, 200, 3), line(6, 300, 4), line(8, 1999, 5), line(10, 2000, 6)),
		round(5, true, line(1, 60), line(2, 61), line(3, 62), line(4, 63), line(5, 64, 65), line(6, 66)),
		round(0, false, line(1, 60), line(2, 61), line(3, 62), line(4, 63), line(5, 64), line(6, 66, 67)),
		round(3, true, line(1, 60, times(30, 1)...), line(2, 61, times(29, 99)...), line(3, 62), line(4, 63, 64), line(5, 64, times(30, 100)...), line(6, 66, 67)),
		round(3, false, slices.Repeat([]impl.Line{line(7, 77, times(30, 100)...)}, 6)...),
		round(5, false, slices.Repeat([]impl.Line{line(1, 0)}, 6)...),
	}
}

// wrongRounds each miss what the chapter wants by one thing.
func wrongRounds() []impl.Round {
	changed := func(change func(*impl.Round)) impl.Round {
		r := round(1, false, line(1, 40, 60, 70), line(2, 30, 10, 20), line(10, 2000))
		change(&r)
		return r
	}
	wrong := []impl.Round{
		{}, {Given: true}, {Lines: []impl.Line{}}, {Turn: 1}, {Turn: -1},
		round(0, false, slices.Repeat([]impl.Line{line(1, 0)}, 7)...), round(6, false, slices.Repeat([]impl.Line{line(1, 0, 1)}, 7)...),
		round(0, false, slices.Repeat([]impl.Line{line(1, 0)}, 5000)...),
		round(0, false, line(1, 0, times(31, 1)...)), round(0, false, line(1, 0, times(5000, 1)...)),
		round(0, false, impl.Line{}), round(0, false, line(1, 0, 1), impl.Line{}),
		round(1, false, line(1, 0, 1)), round(-1, true, line(1, 0, 1)),
		round(6, false, slices.Repeat([]impl.Line{line(1, 0, 1)}, 6)...), round(-1, false, slices.Repeat([]impl.Line{line(1, 0, 1)}, 6)...),
	}
	far := []int64{-1, -2, 1 << 32, 1<<32 + 1, math.MinInt64, math.MinInt64 + 1, math.MaxInt64 - 1, math.MaxInt64}
	for _, turn := range append([]int64{3, 4, 6}, far...) {
		wrong = append(wrong, changed(func(r *impl.Round) { r.Turn = turn }), changed(func(r *impl.Round) { r.Turn, r.Given = turn, true }))
	}
	for at := range 3 {
		for _, weight := range append([]int64{0, 11, 12, 1<<32 + 10}, far...) {
			wrong = append(wrong, changed(func(r *impl.Round) { r.Lines[at].Weight = weight }))
		}
		for _, left := range append([]int64{2001, 2002}, far...) {
			wrong = append(wrong, changed(func(r *impl.Round) { r.Lines[at].Left = left }))
		}
		for _, size := range append([]int64{0, 101, 102, 1<<32 + 100}, far...) {
			wrong = append(wrong,
				changed(func(r *impl.Round) { r.Lines[at].Sizes = []int64{size} }), changed(func(r *impl.Round) { r.Lines[at].Sizes = []int64{size, 5} }),
				changed(func(r *impl.Round) { r.Lines[at].Sizes = []int64{5, size} }), changed(func(r *impl.Round) { r.Lines[at].Sizes = append(times(29, 7), size) }))
		}
		wrong = append(wrong, changed(func(r *impl.Round) { r.Lines[at].Sizes = times(31, 7) }))
	}
	return wrong
}

func TestRoundOk(t *testing.T) {
	for i, r := range rightRounds() {
		if !impl.RoundOk(r) {
			t.Errorf("right round %d is refused: %v", i, r)
		}
		if !roundAsWritten(r) {
			t.Errorf("right round %d is refused by the tests' own", i)
		}
	}
	for i, r := range wrongRounds() {
		if impl.RoundOk(r) {
			t.Errorf("wrong round %d is let: %v", i, r)
		}
		if roundAsWritten(r) {
			t.Errorf("wrong round %d is let by the tests' own: %v", i, r)
		}
	}
}

func TestRoundOkAtItsLimits(t *testing.T) {
	for count := range 9 {
		for turn := int64(-2); turn <= 9; turn++ {
			for _, given := range []bool{false, true} {
				r := round(turn, given, slices.Repeat([]impl.Line{line(1, 0)}, count)...)
				if want := count >= 1 && count <= 6 && turn >= 0 && turn < int64(count); impl.RoundOk(r) != want {
					t.Fatalf("%d Lines, Turn %d: %v", count, turn, !want)
				}
			}
		}
	}
	for n := int64(-2); n <= 2003; n++ {
		for at := range 3 {
			weights, lefts, sizes := round(0, false, line(1, 0), line(1, 0), line(1, 0)), round(0, false, line(1, 0), line(1, 0), line(1, 0)), round(0, false, line(1, 0), line(1, 0), line(1, 0))
			weights.Lines[at].Weight = n
			lefts.Lines[at].Left = n
			sizes.Lines[at].Sizes = []int64{1, n}
			if impl.RoundOk(weights) != (n >= 1 && n <= 10) || impl.RoundOk(lefts) != (n >= 0 && n <= 2000) || impl.RoundOk(sizes) != (n >= 1 && n <= 100) {
				t.Fatalf("%d at Line %d", n, at)
			}
		}
	}
	for count := range 40 {
		for _, size := range []int64{1, 100} {
			if want := count <= 30; impl.RoundOk(round(0, false, line(1, 0, times(count, size)...))) != want {
				t.Fatalf("%d Sizes: %v", count, !want)
			}
		}
	}
}

func TestQueued(t *testing.T) {
	r := round(1, true, line(1, 5, 60), line(2, 6), line(3, 7, 70, 80))
	for _, c := range []struct {
		n, size int64
		then    impl.Round
	}{
		{0, 1, round(1, true, line(1, 5, 60, 1), line(2, 6), line(3, 7, 70, 80))},
		{0, 60, round(1, true, line(1, 5, 60, 60), line(2, 6), line(3, 7, 70, 80))},
		{1, 100, round(1, true, line(1, 5, 60), line(2, 6, 100), line(3, 7, 70, 80))},
		{2, 75, round(1, true, line(1, 5, 60), line(2, 6), line(3, 7, 70, 80, 75))},
	} {
		isQueued(t, r, c.n, c.size, c.then, true)
	}
	for _, n := range []int64{-1, 3, 4, 6, 1 << 32, math.MinInt64, math.MaxInt64} {
		for _, size := range []int64{0, 1, 100, 101} {
			isQueued(t, r, n, size, r, false)
		}
	}
	for n := int64(0); n < 3; n++ {
		for _, size := range []int64{0, 101, -1, 1<<32 + 1, math.MinInt64, math.MaxInt64} {
			isQueued(t, r, n, size, r, false)
		}
	}
}

func TestQueuedUntilThereAreThirty(t *testing.T) {
	for n := range int64(6) {
		r := round(5-n, n%2 == 0, line(1, 0), line(2, 10), line(3, 20), line(4, 30), line(5, 40), line(6, 2000))
		var sizes []int64
		for i := range int64(30) {
			sizes = append(sizes, i*3+1)
			then := copiedRound(r)
			then.Lines[n].Sizes = slices.Clone(sizes)
			isQueued(t, r, n, i*3+1, then, true)
			r, _ = impl.Queued(r, n, i*3+1)
		}
		isQueued(t, r, n, 1, r, false)
		isQueued(t, r, n, 100, r, false)
		// It is full alone: each of the others still takes.
		for other := range int64(6) {
			if _, is := impl.Queued(r, other, 1); is != (other != n) {
				t.Fatalf("Line %d is full, and Line %d says %v", n, other, is)
			}
		}
	}
	// Where one went there is room for one.
	r, _, _ := impl.Served(round(0, true, line(1, 100, times(30, 100)...)))
	isQueued(t, r, 0, 7, round(0, true, line(1, 0, append(times(29, 100), 7)...)), true)
}

func TestServed(t *testing.T) {
	for _, c := range []struct {
		r, then impl.Round
		n, size int64
	}{
		// It is given, then the first one goes.
		{round(0, false, line(1, 0, 60, 61)), round(0, true, line(1, 40, 61)), 0, 60},
		{round(0, false, line(1, 0, 1)), round(0, true, line(1, 99)), 0, 1},
		{round(0, false, line(1, 0, 100)), round(0, true, line(1, 0)), 0, 100},
		{round(0, false, line(10, 0, 100, 100)), round(0, true, line(10, 900, 100)), 0, 100},
		{round(0, false, line(3, 25, 60)), round(0, true, line(3, 265)), 0, 60},
		// It is given once.
		{round(0, true, line(10, 60, 60, 61)), round(0, true, line(10, 0, 61)), 0, 60},
		{round(0, true, line(10, 61, 60, 61)), round(0, true, line(10, 1, 61)), 0, 60},
		{round(1, true, line(1, 0, 9), line(10, 100, 100)), round(1, true, line(1, 0, 9), line(10, 0)), 1, 100},
		{round(0, true, line(1, 2000, 100)), round(0, true, line(1, 1900)), 0, 100},
		// Its first Size is just Left, and one more: then the next one has the Turn, and this one keeps its Left.
		{round(0, true, line(1, 60, 60), line(2, 5, 70)), round(0, true, line(1, 0), line(2, 5, 70)), 0, 60},
		{round(0, true, line(1, 60, 61), line(2, 5, 70)), round(1, true, line(1, 60, 61), line(2, 135)), 1, 70},
		{round(1, true, line(1, 60, 61), line(2, 69, 70)), round(0, true, line(1, 99), line(2, 69, 70)), 0, 61},
		{round(0, true, line(1, 0, 1), line(2, 5, 70)), round(1, true, line(1, 0, 1), line(2, 135)), 1, 70},
		// It looks at the first one alone, though a later one would do.
		{round(0, true, line(1, 60, 61, 1), line(2, 0, 100, 1)), round(1, true, line(1, 60, 61, 1), line(2, 100, 1)), 1, 100},
		// A Line that has the Turn without Sizes loses its Left, Given or not.
		{round(0, false, line(9, 1234), line(2, 5, 70)), round(1, true, line(9, 0), line(2, 135)), 1, 70},
		{round(0, true, line(9, 1234), line(2, 5, 70)), round(1, true, line(9, 0), line(2, 135)), 1, 70},
		{round(1, true, line(2, 5, 70), line(9, 1234)), round(0, true, line(2, 135), line(9, 0)), 0, 70},
		// A Line to which the Turn does not come keeps it.
		{round(0, false, line(1, 0, 60), line(9, 1234)), round(0, true, line(1, 40), line(9, 1234)), 0, 60},
		{round(1, false, line(9, 1234), line(1, 0, 60), line(8, 321)), round(1, true, line(9, 1234), line(1, 40), line(8, 321)), 1, 60},
		{round(1, true, line(9, 1234), line(1, 59, 60), line(8, 321), line(7, 7, 8), line(6, 66)), round(3, true, line(9, 1234), line(1, 59, 60), line(8, 0), line(7, 699), line(6, 66)), 3, 8},
		// All round: the one ahead of the Turn is the only one that has any.
		{round(2, false, line(1, 10), line(2, 20, 50), line(3, 30), line(4, 40)), round(1, true, line(1, 0), line(2, 170), line(3, 0), line(4, 0)), 1, 50},
		{round(0, true, line(1, 10), line(2, 20), line(3, 30, 50)), round(2, true, line(1, 0), line(2, 0), line(3, 280)), 2, 50},
		// All round, to itself: its own Left stays, and it is given anew.
		{round(0, true, line(1, 40, 60)), round(0, true, line(1, 80)), 0, 60},
		{round(0, true, line(1, 99, 100)), round(0, true, line(1, 99)), 0, 100},
		{round(1, true, line(5, 10), line(2, 20, 50), line(6, 30)), round(1, true, line(5, 0), line(2, 170), line(6, 0)), 1, 50},
		{round(5, true, line(1, 1), line(1, 1), line(1, 1), line(1, 1), line(1, 1), line(1, 0, 100, 100)), round(5, true, line(1, 0), line(1, 0), line(1, 0), line(1, 0), line(1, 0), line(1, 0, 100)), 5, 100},
		// Left is at most 2000.
		{round(0, false, line(1, 1899, 1)), round(0, true, line(1, 1998)), 0, 1},
		{round(0, false, line(1, 1900, 1)), round(0, true, line(1, 1999)), 0, 1},
		{round(0, false, line(1, 1901, 1)), round(0, true, line(1, 1999)), 0, 1},
		{round(0, false, line(1, 2000, 100)), round(0, true, line(1, 1900)), 0, 100},
		{round(0, false, line(10, 999, 1)), round(0, true, line(10, 1998)), 0, 1},
		{round(0, false, line(10, 1000, 1)), round(0, true, line(10, 1999)), 0, 1},
		{round(0, false, line(10, 1001, 1)), round(0, true, line(10, 1999)), 0, 1},
		{round(0, false, line(10, 2000, 100)), round(0, true, line(10, 1900)), 0, 100},
	} {
		isServed(t, c.r, c.then, c.n, c.size)
	}
}

func TestServedOfARoundWithoutSizes(t *testing.T) {
	for count := int64(1); count <= 6; count++ {
		for turn := range count {
			for _, given := range []bool{false, true} {
				r := round(turn, given)
				for i := range count {
					r.Lines = append(r.Lines, line(i+1, 2000-i))
				}
				isServed(t, r, r, -1, 0)
				isWaiting(t, r, 0)
			}
		}
	}
}

// Wherever the Turn is and whichever Line is the only one that has any, just those between lose their Left.
func TestServedGoesFromTheTurnToWhoHasAny(t *testing.T) {
	for count := int64(1); count <= 6; count++ {
		for turn := range count {
			for has := range count {
				for _, given := range []bool{false, true} {
					r := round(turn, given)
					for i := range count {
						r.Lines = append(r.Lines, line(i+1, 90+i))
					}
					r.Lines[has].Sizes = []int64{100, 3}
					then := copiedRound(r)
					for at := turn; at != has; at = (at + 1) % count {
						then.Lines[at].Left = 0
					}
					if turn == has && given { // it goes all round
						for at := range count {
							if at != has {
								then.Lines[at].Left = 0
							}
						}
					}
					then.Turn, then.Given = has, true
					then.Lines[has].Sizes, then.Lines[has].Left = []int64{3}, 90+has+100*(has+1)-100
					isServed(t, r, then, has, 100)
				}
			}
		}
	}
}

func TestServedAgainAndAgain(t *testing.T) {
	r := round(0, false, line(1, 0, 60, 60, 60), line(2, 0, 90, 90, 90), line(3, 50))
	for _, c := range []struct {
		then    impl.Round
		n, size int64
	}{
		{round(0, true, line(1, 40, 60, 60), line(2, 0, 90, 90, 90), line(3, 50)), 0, 60},
		{round(1, true, line(1, 40, 60, 60), line(2, 110, 90, 90), line(3, 50)), 1, 90},
		{round(1, true, line(1, 40, 60, 60), line(2, 20, 90), line(3, 50)), 1, 90},
		{round(0, true, line(1, 80, 60), line(2, 20, 90), line(3, 0)), 0, 60},
		{round(0, true, line(1, 20), line(2, 20, 90), line(3, 0)), 0, 60},
		{round(1, true, line(1, 0), line(2, 130), line(3, 0)), 1, 90},
		{round(1, true, line(1, 0), line(2, 130), line(3, 0)), -1, 0},
		{round(1, true, line(1, 0), line(2, 130), line(3, 0)), -1, 0},
	} {
		before := impl.Waiting(r)
		isServed(t, r, c.then, c.n, c.size)
		r, _, _ = impl.Served(r)
		isWaiting(t, r, before-c.size)
	}
	// Who has the Turn and comes to have some again is still Given, and what it had left is still there.
	r, _ = impl.Queued(r, 1, 100)
	isServed(t, r, round(1, true, line(1, 0), line(2, 30), line(3, 0)), 1, 100)
}

// A Line is given again only behind the going on of the Turn, be the Turn its own again.
func TestALineIsGivenOnceATurn(t *testing.T) {
	for weight := int64(1); weight <= 10; weight++ {
		r := round(0, false, line(weight, 0, times(30, 100)...), line(1, 0, 100))
		for i := range weight {
			then := copiedRound(r)
			then.Given = true
			then.Lines[0] = line(weight, 100*(weight-1-i), times(int(29-i), 100)...)
			isServed(t, r, then, 0, 100)
			r = then
		}
		then := copiedRound(r)
		then.Turn, then.Lines[1] = 1, line(1, 0)
		isServed(t, r, then, 1, 100)
		// The other one is through, so that the Turn comes back at once.
		r = copiedRound(then)
		then.Turn, then.Lines[0] = 0, line(weight, 100*(weight-1), times(int(29-weight), 100)...)
		isServed(t, r, then, 0, 100)
	}
}

// Who had nothing to send for a while has saved up nothing.
func TestALineWithoutSizesLosesItsLeft(t *testing.T) {
	r := round(0, false, line(10, 0, 1), line(1, 0, 100, 100))
	isServed(t, r, round(0, true, line(10, 999), line(1, 0, 100, 100)), 0, 1)
	r, _, _ = impl.Served(r)
	isServed(t, r, round(1, true, line(10, 0), line(1, 0, 100)), 1, 100)
	r, _, _ = impl.Served(r)
	r, _ = impl.Queued(r, 0, 50)
	isServed(t, r, round(0, true, line(10, 950), line(1, 0, 100)), 0, 50)
	// But while it still has the Turn it may go on with what it has left.
	again := round(0, true, line(10, 999), line(1, 0, 100, 100))
	again, _ = impl.Queued(again, 0, 50)
	isServed(t, again, round(0, true, line(10, 949), line(1, 0, 100, 100)), 0, 50)
}

func TestWaiting(t *testing.T) {
	isWaiting(t, round(0, false, line(1, 2000)), 0)
	isWaiting(t, round(0, false, line(10, 2000, 1)), 1)
	isWaiting(t, round(1, true, line(1, 0, 1, 2, 3), line(1, 0), line(1, 0, 100, 50)), 156)
	isWaiting(t, round(0, false, line(1, 0, times(30, 100)...)), 3000)
	isWaiting(t, round(0, false, slices.Repeat([]impl.Line{line(1, 0, times(30, 100)...)}, 6)...), 18000)
	isWaiting(t, round(0, false, slices.Repeat([]impl.Line{line(1, 0, times(30, 1)...)}, 6)...), 180)
}

func TestEachFunctionOfARightRound(t *testing.T) {
	for _, r := range rightRounds() {
		turnsAsWritten(t, r, someLineNumbers(r), someSizes())
	}
}

func TestEachFunctionOfAWrongRound(t *testing.T) {
	for _, r := range wrongRounds() {
		isWaiting(t, r, -1)
		isServed(t, r, impl.Round{}, -1, 0)
		for _, n := range someLineNumbers(r) {
			for _, size := range someSizes() {
				isQueued(t, r, n, size, impl.Round{}, false)
			}
		}
	}
}

// All rounds of up to three lines out of a few, with each Turn, Given and not, right and wrong ones.
func TestEachSmallRound(t *testing.T) {
	var lines []impl.Line
	for _, weight := range []int64{1, 10} {
		for _, left := range []int64{0, 59, 60, 1950} {
			for _, sizes := range [][]int64{nil, {60}, {60, 100}, {100, 1}} {
				lines = append(lines, line(weight, left, sizes...))
			}
		}
	}
	lines = append(lines, line(0, 0, 60), line(1, 2001, 60), line(1, 0, 101))
	var lists [][]impl.Line
	for _, a := range lines {
		lists = append(lists, []impl.Line{a})
		for _, b := range lines {
			lists = append(lists, []impl.Line{a, b})
			for _, c := range lines {
				lists = append(lists, []impl.Line{a, b, c})
			}
		}
	}
	for _, list := range lists {
		for turn := range int64(len(list)) {
			turnsAsWritten(t, round(turn, false, list...), []int64{turn}, []int64{100})
			turnsAsWritten(t, round(turn, true, list...), []int64{turn + 1}, []int64{1})
		}
	}
}

func (s *source) line() impl.Line {
	l := line(int64(1+s.next(10)), int64(s.next(2001)))
	if s.next(2) == 0 {
		l.Left = int64(s.next(101))
	}
	for range s.next(31) * s.next(2) {
		l.Sizes = append(l.Sizes, s.size())
	}
	return l
}

func (s *source) size() int64 {
	switch s.next(4) {
	case 0:
		return 1
	case 1:
		return 100
	default:
		return int64(1 + s.next(100))
	}
}

func (s *source) round() impl.Round {
	r := round(0, s.next(2) == 0)
	for range 1 + s.next(6) {
		r.Lines = append(r.Lines, s.line())
	}
	r.Turn = int64(s.next(uint32(len(r.Lines))))
	return r
}

// Whatever comes, a round stays right, what was Queued is told in the order of its Line, and Waiting is less by just that.
func TestARoundStaysRightAndKeepsEachLinesOrder(t *testing.T) {
	served, refused, empty := 0, 0, 0
	for seed := range uint32(150) {
		s := source{seed: seed}
		r := s.round()
		queues := make([][]int64, len(r.Lines))
		for i, l := range r.Lines {
			queues[i] = slices.Clone(l.Sizes)
		}
		// Some rounds are served more than is Queued, and some less.
		often := uint32(2 + seed%5)
		for range 400 {
			was := copiedRound(r)
			if s.next(often) < 2 {
				n, size := int64(s.next(uint32(len(r.Lines)+2)))-1, s.size()
				if s.next(8) == 0 {
					size = int64(s.next(300)) - 100
				}
				want, may := queuedAsWritten(r, n, size)
				isQueued(t, r, n, size, want, may)
				r, _ = impl.Queued(r, n, size)
				if may {
					queues[n] = append(queues[n], size)
					isWaiting(t, r, impl.Waiting(was)+size)
				} else {
					refused++
				}
			} else {
				want, n, size := servedAsWritten(r)
				isServed(t, r, want, n, size)
				r, _, _ = impl.Served(r)
				isWaiting(t, r, impl.Waiting(was)-size)
				if n < 0 {
					empty++
				} else {
					served++
					if queues[n][0] != size {
						t.Fatalf("Served(%v) tells %d of Line %d, where %d was Queued first", was, size, n, queues[n][0])
					}
					queues[n] = queues[n][1:]
				}
			}
			if !impl.RoundOk(r) || !roundAsWritten(r) || len(r.Lines) != len(was.Lines) {
				t.Fatalf("%v became %v", was, r)
			}
			for i, l := range r.Lines {
				if !slices.Equal(l.Sizes, queues[i]) || l.Weight != was.Lines[i].Weight {
					t.Fatalf("%v became %v, of whose Line %d there wait %v", was, r, i, queues[i])
				}
			}
		}
		// All that waits is told in the end.
		for range impl.Waiting(r) {
			r, _, _ = impl.Served(r)
		}
		isWaiting(t, r, 0)
		isServed(t, r, r, -1, 0)
	}
	if served < 5000 || refused < 5000 || empty < 1000 {
		t.Fatal("too few of a kind", served, refused, empty)
	}
}

// sizesBySource are ways of sending: what comes of a Line, one after the other.
func sizesBySource(seed uint32) []func(nth int) int64 {
	s := source{seed: seed}
	return []func(int) int64{
		func(int) int64 { return 100 },
		func(int) int64 { return 1 },
		func(int) int64 { return 51 },
		func(int) int64 { return 99 },
		func(nth int) int64 { return []int64{100, 1}[nth%2] },
		func(nth int) int64 { return []int64{3, 97, 98}[nth%3] },
		func(nth int) int64 { return int64(1 + nth%100) },
		func(int) int64 { return int64(1 + s.next(100)) },
		func(int) int64 { return int64(1 + s.next(7)) },
	}
}

// account is what a Line that always waits was told since its first turn was over.
type account struct {
	queued   int
	greatest int64
	total    int64
	turns    int64
	begun    bool
}

// overAtNext tells whether the Line that has the Turn has not enough left for its first Size.
func overAtNext(r impl.Round) bool {
	l := r.Lines[r.Turn]
	return r.Given && l.Sizes[0] > l.Left
}

// Each Line is Queued one for each that goes, so that it always waits: turn after turn, whoever the
// others are, it is served 100 Weight each, to within its greatest Size.
func isFair(t *testing.T, r impl.Round, sends []func(int) int64, turns int64) {
	t.Helper()
	count := int64(len(r.Lines))
	accounts := make([]account, count)
	queue := func(n int64) {
		a := &accounts[n]
		size := sends[n](a.queued)
		var is bool
		if r, is = impl.Queued(r, n, size); !is {
			t.Fatalf("Queued(%v, %d, %d) is refused", r, n, size)
		}
		a.queued++
		a.greatest = max(a.greatest, size)
	}
	for n := range count {
		for range 2 {
			queue(n)
		}
	}
	for accounts[0].turns < turns {
		was := r
		if overAtNext(was) {
			a := &accounts[was.Turn]
			if a.begun {
				a.turns++
			}
			a.begun = true
			if off := a.total - 100*was.Lines[was.Turn].Weight*a.turns; off <= -a.greatest || off >= a.greatest {
				t.Fatalf("Line %d of %v was served %d in %d turns: it is off by %d", was.Turn, was, a.total, a.turns, off)
			}
		}
		then, n, size := impl.Served(r)
		asked := was.Turn
		if overAtNext(was) {
			asked = (was.Turn + 1) % count
		}
		if n != asked || n != then.Turn || !then.Given || !impl.RoundOk(then) {
			t.Fatalf("Served(%v): %v, %d, %d", was, then, n, size)
		}
		r = then
		if accounts[n].begun {
			accounts[n].total += size
		}
		queue(n)
	}
	// Nobody is passed over: at no time one has had two turns more than another.
	for n, a := range accounts {
		if a.turns < turns-1 || a.turns > turns+1 {
			t.Fatalf("Line %d of %v had %d turns, and Line 0 %d", n, r, a.turns, turns)
		}
	}
}

func TestOfLinesThatAlwaysWaitEachIsServedItsWeight(t *testing.T) {
	ways := len(sizesBySource(0))
	for count := 1; count <= 6; count++ {
		for seed := range uint32(40) {
			s := source{seed: seed*7 + uint32(count)}
			r := round(0, false)
			var sends []func(int) int64
			for range count {
				r.Lines = append(r.Lines, line(int64(1+s.next(10)), 0))
				sends = append(sends, sizesBySource(s.seed)[s.next(uint32(ways))])
			}
			if seed%2 == 1 { // from anywhere on, and whatever each has left
				r.Turn, r.Given = int64(s.next(uint32(count))), s.next(2) == 0
				for i := range r.Lines {
					r.Lines[i].Left = []int64{0, 99, 1000, 1950, 2000}[s.next(5)]
				}
			}
			isFair(t, r, sends, 6)
		}
	}
}

func TestEachWeightAndEachWayOfSendingIsFair(t *testing.T) {
	ways := sizesBySource(1)
	for weight := int64(1); weight <= 10; weight++ {
		for i := range ways {
			isFair(t, round(0, false, line(weight, 0)), []func(int) int64{ways[i]}, 4)
			for j := range ways {
				isFair(t, round(0, false, line(weight, 0), line(11-weight, 0)), []func(int) int64{ways[i], ways[j]}, 4)
			}
		}
	}
}

// A new round of Lines that always wait: behind each whole round each Line was told 100 Weight for each, but less than its greatest Size.
func TestWholeRoundsOfANewRound(t *testing.T) {
	weights := []int64{1, 10, 3, 1, 7, 2}
	sizes := []int64{100, 99, 37, 51, 1, 64}
	for count := 2; count <= 6; count++ {
		r := round(0, false)
		for i := range count {
			r.Lines = append(r.Lines, line(weights[i], 0, sizes[i], sizes[i]))
		}
		told, rounds, last := make([]int64, count), int64(0), int64(0)
		for rounds < 40 {
			then, n, size := impl.Served(r)
			if n < last { // the Turn has come to the first one again
				rounds++
				for i, sum := range told {
					if most := 100 * weights[i] * rounds; sum > most || sum <= most-sizes[i] {
						t.Fatalf("%d Lines: Line %d was told %d in %d rounds", count, i, sum, rounds)
					}
				}
			}
			last = n
			told[n] += size
			r, _ = impl.Queued(then, n, sizes[n])
		}
	}
}

// Whoever waits is served before any other one has had more than its turn and what it had left.
func TestNobodyIsPassedOverForLong(t *testing.T) {
	for seed := range uint32(200) {
		s := source{seed: seed}
		r := s.round()
		for i := range r.Lines {
			r.Lines[i].Left = int64(s.next(100)) // as much as one that always waits can have left behind its turn
			if len(r.Lines[i].Sizes) == 0 {
				r.Lines[i].Sizes = []int64{s.size()}
			}
		}
		since := make([][]int64, len(r.Lines)) // of each Line, what each other one was told since it was
		for i := range since {
			since[i] = make([]int64, len(r.Lines))
		}
		for range 300 {
			was := r
			then, n, size := impl.Served(r)
			r = then
			for i := range since {
				since[i][n] += size
				if most := 99 + 100*r.Lines[n].Weight; int64(i) != n && since[i][n] > most {
					t.Fatalf("Served(%v): Line %d was told %d while Line %d waited", was, n, since[i][n], i)
				}
			}
			clear(since[n])
			r, _ = impl.Queued(r, n, s.size())
		}
	}
}

// roundSpans are the memory that a round's lists reach, spare room and all.
func roundSpans(r impl.Round) [][2]uintptr {
	var s [][2]uintptr
	add := func(p unsafe.Pointer, n uintptr) {
		if n > 0 {
			s = append(s, [2]uintptr{uintptr(p), uintptr(p) + n})
		}
	}
	add(unsafe.Pointer(unsafe.SliceData(r.Lines)), uintptr(cap(r.Lines))*unsafe.Sizeof(impl.Line{}))
	for _, l := range r.Lines {
		add(unsafe.Pointer(unsafe.SliceData(l.Sizes)), uintptr(cap(l.Sizes))*unsafe.Sizeof(int64(0)))
	}
	return s
}

func areApart(t *testing.T, what string, given, answer impl.Round) {
	t.Helper()
	own := roundSpans(answer)
	for i, a := range own {
		for _, b := range roundSpans(given) {
			if meet(a, b) {
				t.Fatalf("%s of %v shares memory with it", what, given)
			}
		}
		for _, b := range own[:i] {
			if meet(a, b) {
				t.Fatalf("%s of %v: two of its lists share memory", what, given)
			}
		}
	}
}

// amidst is the round with its Lines, and the Sizes of each, amidst others, which show a write ahead
// of them and into the room behind them.
func amidst(r impl.Round) (given impl.Round, lines []impl.Line, sizes [][]int64) {
	lines = append(lines, line(71, 72, 73))
	for _, l := range r.Lines {
		all := slices.Concat([]int64{81}, l.Sizes, []int64{82, 83})
		sizes = append(sizes, all)
		lines = append(lines, impl.Line{Weight: l.Weight, Left: l.Left, Sizes: all[1 : 1+len(l.Sizes)]})
	}
	lines = append(lines, line(74, 75, 76), line(77, 78, 79))
	return round(r.Turn, r.Given, lines[1:1+len(r.Lines)]...), lines, sizes
}

func TestRoundArgumentsStayAndAnswersAreNewMemory(t *testing.T) {
	for _, r := range append(rightRounds(), wrongRounds()...) {
		given, lines, sizes := amidst(r)
		_, heldLines, heldSizes := amidst(r)
		if cap(given.Lines) < len(r.Lines)+2 {
			t.Fatal("there is no room behind the lines")
		}
		stays := func(what string, answer impl.Round) {
			t.Helper()
			areApart(t, what, given, answer)
			for i, l := range answer.Lines {
				for at := range l.Sizes[:cap(l.Sizes)] {
					l.Sizes[:cap(l.Sizes)][at] = -9
				}
				answer.Lines[i] = line(-7, -8)
			}
			if !slices.EqualFunc(lines, heldLines, sameLine) || !slices.EqualFunc(sizes, heldSizes, slices.Equal) || given.Turn != r.Turn || given.Given != r.Given {
				t.Fatalf("%s of %v changed it: %v, %v", what, r, lines, sizes)
			}
		}
		for _, n := range someLineNumbers(r) {
			for _, size := range []int64{0, 1, 100, 101} {
				answer, _ := impl.Queued(given, n, size)
				stays("Queued", answer)
			}
		}
		answer, _, _ := impl.Served(given)
		stays("Served", answer)
		impl.Waiting(given)
		impl.RoundOk(given)
		stays("Waiting and RoundOk", impl.Round{})
	}
}

// Lines that are given with one list, or with lists of which one has its room in the next, are answered with lists apart.
func TestLinesThatShareTheirSizesAreAnsweredApart(t *testing.T) {
	list := []int64{60, 61, 62, 63, 64, 65}
	given := round(0, false, line(1, 0, list...), line(2, 0, list[:2]...), line(3, 0, list[2:4]...), line(4, 0, list...), line(5, 0, list[:0]...), line(6, 0, list[1:]...))
	want := copiedRound(given)
	for n := range int64(6) {
		x, is := impl.Queued(given, n, 7)
		areApart(t, "Queued", given, x)
		then, _ := queuedAsWritten(want, n, 7)
		if !is || !sameRound(x, then) {
			t.Fatalf("Queued(%v, %d, 7): %v", given, n, x)
		}
		given.Turn, want.Turn = n, n
		x, _, _ = impl.Served(given)
		areApart(t, "Served", given, x)
		then, _, _ = servedAsWritten(want)
		if !sameRound(x, then) {
			t.Fatalf("Served(%v): %v", given, x)
		}
		x, _ = impl.Queued(given, n, 0)
		areApart(t, "Queued of nothing", given, x)
		if !sameRound(x, want) || !sameRound(given, want) || !slices.Equal(list, []int64{60, 61, 62, 63, 64, 65}) {
			t.Fatalf("%v, %v", x, given)
		}
	}
}

// Two answers of one round share none either, though there is room behind its lists.
func TestTwoAnswersOfOneRoundAreApart(t *testing.T) {
	r, _ := impl.Queued(round(0, false, line(1, 0, 60, 61, 62), line(2, 0, 70)), 0, 63)
	r, _, _ = impl.Served(r)
	a, _ := impl.Queued(r, 0, 1)
	b, _ := impl.Queued(r, 0, 2)
	c, _, _ := impl.Served(r)
	d, _, _ := impl.Served(r)
	e, _ := impl.Queued(r, 9, 2)
	all := []impl.Round{r, a, b, c, d, e}
	for i, x := range all {
		for _, y := range all[:i] {
			areApart(t, "an answer", y, x)
		}
	}
	if !sameRound(a, round(0, true, line(1, 40, 61, 62, 63, 1), line(2, 0, 70))) || !sameRound(b, round(0, true, line(1, 40, 61, 62, 63, 2), line(2, 0, 70))) || !sameRound(c, d) {
		t.Error(a, b, c, d)
	}
}
