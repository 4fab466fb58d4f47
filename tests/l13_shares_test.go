package tests

import (
	"math"
	"slices"
	"testing"
	"unsafe"

	"loop.example/g00296/impl"
)

func numbers(list ...int64) []int64 { return list }

func sumOf(list []int64) int64 {
	sum := int64(0)
	for _, n := range list {
		sum += n
	}
	return sum
}

// wantsAsWritten is what the chapter wants, want by want.
func wantsAsWritten(wants []int64) bool {
	if len(wants) < 1 || len(wants) > 10 {
		return false
	}
	for _, want := range wants {
		if want < 0 || want > 100000 {
			return false
		}
	}
	return true
}

func isRoom(room int64) bool { return room >= 0 && room <= 1000000 }

// sharesAsWritten hands out one by one, round after round, as the chapter tells it.
func sharesAsWritten(wants []int64, room int64) []int64 {
	if !wantsAsWritten(wants) || !isRoom(room) {
		return nil
	}
	shares := make([]int64, len(wants))
	for gave := true; gave; {
		gave = false
		for i, want := range wants {
			if room > 0 && shares[i] < want {
				shares[i]++
				room--
				gave = true
			}
		}
	}
	return shares
}

func levelAsWritten(wants []int64, room int64) int64 {
	if !wantsAsWritten(wants) || !isRoom(room) {
		return -1
	}
	level := int64(0)
	for _, share := range sharesAsWritten(wants, room) {
		if share > level {
			level = share
		}
	}
	return level
}

// evenAsWritten holds each one against each other one.
func evenAsWritten(wants, shares []int64) bool {
	if !wantsAsWritten(wants) || len(wants) != len(shares) {
		return false
	}
	for i, share := range shares {
		if share < 0 || share > wants[i] {
			return false
		}
	}
	for i, share := range shares {
		for _, other := range shares {
			if wants[i] > share && share < other-1 {
				return false
			}
		}
	}
	return true
}

// Each asks that what was handed in is as it was, too.

func areShares(t *testing.T, wants []int64, room int64, shares []int64) {
	t.Helper()
	was := slices.Clone(wants)
	if got := impl.Shares(wants, room); !slices.Equal(got, shares) || !slices.Equal(wants, was) {
		t.Fatalf("Shares(%v, %d): %v, not %v; the argument is %v", was, room, got, shares, wants)
	}
}

func isLevel(t *testing.T, wants []int64, room, level int64) {
	t.Helper()
	was := slices.Clone(wants)
	if got := impl.Level(wants, room); got != level || !slices.Equal(wants, was) {
		t.Fatalf("Level(%v, %d): %d, not %d; the argument is %v", was, room, got, level, wants)
	}
}

func isEven(t *testing.T, wants, shares []int64, even bool) {
	t.Helper()
	was, had := slices.Clone(wants), slices.Clone(shares)
	if got := impl.Even(wants, shares); got != even || !slices.Equal(wants, was) || !slices.Equal(shares, had) {
		t.Fatalf("Even(%v, %v): %v, not %v; the arguments are %v and %v", was, had, got, even, wants, shares)
	}
}

// sharedAsWritten asks each function, with each of these rooms.
func sharedAsWritten(t *testing.T, wants []int64, rooms ...int64) {
	t.Helper()
	for _, room := range rooms {
		shares := sharesAsWritten(wants, room)
		areShares(t, wants, room, shares)
		isLevel(t, wants, room, levelAsWritten(wants, room))
		isEven(t, wants, shares, wantsAsWritten(wants) && isRoom(room))
	}
}

// someRooms are those around both ends, around the sum of the wants, and where some lack and some do not.
func someRooms(wants []int64) []int64 {
	n, sum := int64(len(wants)), sumOf(wants)
	list := numbers(-1, 0, 1, 2, n-1, n, n+1, 2*n-1, 2*n, 2*n+1, sum-n, sum-2, sum-1, sum, sum+1, sum+n, sum/2, sum/3, 999999, 1000000, 1000001)
	for _, want := range wants {
		list = append(list, n*want-1, n*want, n*want+1)
	}
	return list
}

// rightWants have every number of them, with wants that are alike, that rise, that fall, and some that are 0 or the greatest.
func rightWants() [][]int64 {
	list := [][]int64{
		{2, 9, 9}, {9, 2, 9}, {9, 9, 2}, {2, 2, 9}, {1, 1}, {0, 5}, {5, 0}, {0, 0, 5, 0}, {3, 3, 3, 4}, {4, 3, 3, 3}, {3, 4, 3, 3},
		{7, 7, 7, 7, 7, 7, 7, 7, 7, 8}, {8, 7, 7, 7, 7, 7, 7, 7, 7, 7}, {1, 2, 3, 4, 5, 6, 7, 8, 9, 10}, {10, 9, 8, 7, 6, 5, 4, 3, 2, 1},
		{100000, 1}, {1, 100000}, {99999, 100000}, {0, 100000, 1, 50000, 2, 99999, 3, 33333, 4, 100000},
	}
	for n := 1; n <= 10; n++ {
		for _, want := range []int64{0, 1, 2, 7, 100, 99999, 100000} {
			list = append(list, times(n, want))
		}
	}
	return list
}

// wrongWants each miss what the chapter wants by one thing: their number, or one want of them.
func wrongWants() [][]int64 {
	wrong := [][]int64{nil, {}, times(11, 0), times(11, 1), times(11, 5), times(11, 100000), times(12, 3), times(100, 3)}
	for _, wants := range [][]int64{{5}, {0}, {2, 9, 9}, {100000, 100000}, {1, 2, 3, 4, 5, 6, 7, 8, 9, 10}} {
		for at := range wants {
			for _, n := range append(numbers(-1, 100001, 100002, 1000000), farNumbers()...) {
				x := slices.Clone(wants)
				x[at] = n
				wrong = append(wrong, x)
			}
		}
	}
	return wrong
}

func wrongRooms() []int64 { return append(numbers(-1, 1000001, 1000002), farNumbers()...) }

func TestSharesAndTheirLevel(t *testing.T) {
	for _, c := range []struct {
		wants  []int64
		room   int64
		shares []int64
		level  int64
	}{
		// Who wants little gets it, who wants much shares the rest; what a round leaves over goes to the first ones that lack.
		{numbers(2, 9, 9), 11, numbers(2, 5, 4), 5}, {numbers(2, 9, 9), 12, numbers(2, 5, 5), 5}, {numbers(2, 9, 9), 13, numbers(2, 6, 5), 6},
		{numbers(9, 2, 9), 11, numbers(5, 2, 4), 5}, {numbers(9, 9, 2), 11, numbers(5, 4, 2), 5}, {numbers(1, 1), 9, numbers(1, 1), 1},
		{numbers(2, 9, 9), 4, numbers(2, 1, 1), 2}, {numbers(2, 9, 9), 5, numbers(2, 2, 1), 2}, {numbers(2, 9, 9), 6, numbers(2, 2, 2), 2}, {numbers(2, 9, 9), 7, numbers(2, 3, 2), 3}, {numbers(2, 9, 9), 8, numbers(2, 3, 3), 3},
		{numbers(0, 4, 0, 4), 5, numbers(0, 3, 0, 2), 3}, {numbers(4, 0, 1, 9), 8, numbers(4, 0, 1, 3), 4}, {numbers(3, 1, 2), 4, numbers(2, 1, 1), 2}, {numbers(3, 1, 2), 5, numbers(2, 1, 2), 2},
		// No room, room for one, just the sum, one less and one more.
		{numbers(2, 9, 9), 0, numbers(0, 0, 0), 0}, {numbers(2, 9, 9), 1, numbers(1, 0, 0), 1}, {numbers(2, 9, 9), 2, numbers(1, 1, 0), 1}, {numbers(2, 9, 9), 3, numbers(1, 1, 1), 1},
		{numbers(2, 9, 9), 19, numbers(2, 9, 8), 9}, {numbers(2, 9, 9), 20, numbers(2, 9, 9), 9}, {numbers(2, 9, 9), 21, numbers(2, 9, 9), 9}, {numbers(2, 9, 9), 1000000, numbers(2, 9, 9), 9},
		{numbers(0, 0, 7), 1, numbers(0, 0, 1), 1}, {numbers(7, 0, 0), 1, numbers(1, 0, 0), 1},
		// One alone.
		{numbers(5), 0, numbers(0), 0}, {numbers(5), 1, numbers(1), 1}, {numbers(5), 4, numbers(4), 4}, {numbers(5), 5, numbers(5), 5}, {numbers(5), 6, numbers(5), 5}, {numbers(0), 6, numbers(0), 0}, {numbers(1), 6, numbers(1), 1},
		{numbers(100000), 1000000, numbers(100000), 100000}, {numbers(100000), 99999, numbers(99999), 99999},
		// All wants are 0.
		{numbers(0, 0, 0), 0, numbers(0, 0, 0), 0}, {numbers(0, 0, 0), 5, numbers(0, 0, 0), 0}, {times(10, 0), 1000000, times(10, 0), 0},
		// Wants that are alike, and one that is greater.
		{numbers(4, 4, 4), 7, numbers(3, 2, 2), 3}, {numbers(4, 4, 4), 8, numbers(3, 3, 2), 3}, {numbers(4, 4, 4), 9, numbers(3, 3, 3), 3}, {numbers(4, 4, 4), 11, numbers(4, 4, 3), 4},
		{numbers(4, 4, 5), 11, numbers(4, 4, 3), 4}, {numbers(4, 4, 5), 12, numbers(4, 4, 4), 4}, {numbers(4, 4, 5), 13, numbers(4, 4, 5), 5}, {numbers(5, 4, 4), 13, numbers(5, 4, 4), 5}, {numbers(5, 4, 4), 11, numbers(4, 4, 3), 4},
		// Ten of them, and the greatest of all.
		{times(10, 100000), 1000000, times(10, 100000), 100000}, {times(10, 100000), 999999, append(times(9, 100000), 99999), 100000}, {times(10, 100000), 999990, times(10, 99999), 99999}, {times(10, 100000), 9, append(times(9, 1), 0), 1},
		{numbers(1, 2, 3, 4, 5, 6, 7, 8, 9, 10), 30, numbers(1, 2, 3, 4, 4, 4, 3, 3, 3, 3), 4}, {numbers(10, 9, 8, 7, 6, 5, 4, 3, 2, 1), 30, numbers(4, 4, 4, 3, 3, 3, 3, 3, 2, 1), 4},
		// Out of range: the number of the wants, a want, the room.
		{nil, 0, nil, -1}, {nil, 1, nil, -1}, {numbers(), 5, nil, -1}, {times(11, 0), 0, nil, -1}, {times(11, 1), 5, nil, -1}, {numbers(-1), 1, nil, -1}, {numbers(100001), 1, nil, -1}, {numbers(2, -1, 9), 11, nil, -1}, {numbers(2, 9, 100001), 11, nil, -1},
		{numbers(2, 9, 9), -1, nil, -1}, {numbers(2, 9, 9), 1000001, nil, -1}, {numbers(0), -1, nil, -1}, {numbers(0), 1000001, nil, -1}, {nil, -1, nil, -1},
		{numbers(2, 9, 9), math.MinInt64, nil, -1}, {numbers(2, 9, 9), math.MaxInt64, nil, -1}, {numbers(math.MinInt64, 9), 11, nil, -1}, {numbers(2, math.MaxInt64), 11, nil, -1},
	} {
		areShares(t, c.wants, c.room, c.shares)
		isLevel(t, c.wants, c.room, c.level)
		if c.level >= 0 {
			isEven(t, c.wants, c.shares, true)
		}
	}
}

func TestEven(t *testing.T) {
	for _, c := range []struct {
		wants, shares []int64
		even          bool
	}{
		{numbers(2, 9, 9), numbers(2, 5, 4), true}, {numbers(2, 9, 9), numbers(2, 4, 5), true}, {numbers(2, 9, 9), numbers(2, 6, 3), false}, {numbers(2, 9), numbers(3, 3), false},
		// Fewer or more than the wants.
		{numbers(2, 9, 9), nil, false}, {numbers(2, 9, 9), numbers(2, 5), false}, {numbers(2, 9, 9), numbers(2, 5, 4, 0), false}, {numbers(2), numbers(), false}, {numbers(2), numbers(2, 2), false}, {numbers(0), numbers(), false}, {numbers(0), numbers(0), true},
		// -1, 0, just the want and one more, at each place.
		{numbers(2), numbers(-1), false}, {numbers(2), numbers(0), true}, {numbers(2), numbers(1), true}, {numbers(2), numbers(2), true}, {numbers(2), numbers(3), false}, {numbers(0), numbers(1), false}, {numbers(0), numbers(-1), false},
		{numbers(1, 1), numbers(-1, 0), false}, {numbers(1, 1), numbers(0, -1), false}, {numbers(1, 1), numbers(2, 1), false}, {numbers(1, 1), numbers(1, 2), false}, {numbers(1, 1), numbers(1, 1), true}, {numbers(1, 1), numbers(0, 0), true}, {numbers(1, 1), numbers(0, 1), true}, {numbers(1, 1), numbers(1, 0), true},
		{numbers(100000), numbers(100000), true}, {numbers(100000), numbers(100001), false}, {times(10, 100000), times(10, 100000), true}, {times(10, 100000), append(times(9, 100000), 99999), true}, {times(10, 100000), append(times(9, 100000), 99998), false},
		// Less than another one's by 1 and by 2, with a want above it and without.
		{numbers(9, 9), numbers(4, 5), true}, {numbers(9, 9), numbers(5, 4), true}, {numbers(9, 9), numbers(3, 5), false}, {numbers(9, 9), numbers(5, 3), false}, {numbers(4, 9), numbers(3, 5), false}, {numbers(3, 9), numbers(3, 5), true}, {numbers(9, 3), numbers(5, 3), true}, {numbers(9, 4), numbers(5, 3), false},
		{numbers(0, 9), numbers(0, 9), true}, {numbers(1, 9), numbers(0, 1), true}, {numbers(1, 9), numbers(0, 2), false}, {numbers(1, 9), numbers(1, 2), true}, {numbers(1, 100000), numbers(1, 100000), true}, {numbers(1, 100000), numbers(0, 100000), false},
		// One that has what it wants is another one all the same; and whoever lacks is held against the greatest, wherever it is.
		{numbers(9, 5, 9), numbers(3, 5, 5), false}, {numbers(5, 9), numbers(5, 3), false}, {numbers(5, 9), numbers(5, 4), true}, {numbers(9, 9, 9), numbers(4, 5, 6), false}, {numbers(9, 9, 9), numbers(6, 5, 4), false}, {numbers(9, 9, 9), numbers(5, 6, 4), false}, {numbers(4, 9, 9), numbers(4, 5, 6), true}, {numbers(4, 5, 6), numbers(4, 5, 6), true},
		{numbers(9, 1, 9, 2, 9), numbers(4, 1, 3, 2, 4), true}, {numbers(9, 1, 9, 2, 9), numbers(4, 1, 3, 1, 4), false}, {numbers(9, 1, 9, 2, 9), numbers(3, 0, 3, 2, 3), false},
		// Nobody has anything, or everybody all; not all there is need be given.
		{numbers(2, 9, 9), numbers(0, 0, 0), true}, {numbers(2, 9, 9), numbers(2, 9, 9), true}, {numbers(2, 9, 9), numbers(1, 1, 1), true}, {numbers(2, 9, 9), numbers(0, 0, 1), true}, {numbers(2, 9, 9), numbers(0, 0, 2), false}, {numbers(0, 0), numbers(0, 0), true},
		// Wants out of range.
		{nil, nil, false}, {numbers(), numbers(), false}, {nil, numbers(0), false}, {times(10, 1), times(10, 1), true}, {times(11, 1), times(11, 1), false}, {times(11, 0), times(11, 0), false}, {numbers(-1), numbers(-1), false}, {numbers(-1), numbers(0), false}, {numbers(100001), numbers(0), false}, {numbers(100001), numbers(100001), false}, {numbers(100001), numbers(100000), false}, {numbers(9, 100001), numbers(5, 5), false}, {numbers(100001, 9), numbers(5, 5), false},
		// The least and the greatest number.
		{numbers(9, 9), numbers(math.MinInt64, 0), false}, {numbers(9, 9), numbers(0, math.MinInt64), false}, {numbers(9, 9), numbers(math.MaxInt64, 0), false}, {numbers(9, 9), numbers(9, math.MaxInt64), false}, {numbers(9, 9), numbers(math.MinInt64, math.MinInt64), false}, {numbers(9, 9), numbers(math.MaxInt64, math.MaxInt64), false}, {numbers(9, 9), numbers(math.MinInt64, math.MaxInt64), false},
		{numbers(math.MaxInt64), numbers(math.MaxInt64), false}, {numbers(math.MaxInt64), numbers(0), false}, {numbers(math.MinInt64), numbers(math.MinInt64), false}, {numbers(math.MinInt64), numbers(0), false}, {numbers(math.MinInt64, math.MaxInt64), numbers(math.MinInt64, math.MaxInt64), false},
	} {
		isEven(t, c.wants, c.shares, c.even)
		if evenAsWritten(c.wants, c.shares) != c.even {
			t.Errorf("by the tests' own %v and %v: %v", c.wants, c.shares, !c.even)
		}
	}
}

func TestSharesAtEachEdge(t *testing.T) {
	for _, wants := range rightWants() {
		sharedAsWritten(t, wants, someRooms(wants)...)
	}
}

// Each room from one end to past the sum, so that each way in which a round breaks off is there.
func TestSharesOfEachRoom(t *testing.T) {
	for _, wants := range rightWants() {
		if sumOf(wants) > 2000 {
			continue
		}
		for room := int64(-1); room <= sumOf(wants)+2; room++ {
			sharedAsWritten(t, wants, room)
		}
	}
}

func TestWrongWantsHaveTheOneFixedAnswer(t *testing.T) {
	for _, wants := range wrongWants() {
		if wantsAsWritten(wants) {
			t.Fatalf("%v are right by the tests' own", wants)
		}
		for _, room := range append(numbers(0, 1, 11, 1000000), wrongRooms()...) {
			areShares(t, wants, room, nil)
			isLevel(t, wants, room, -1)
		}
		for _, share := range append(numbers(0, 1, 5, -1, 100000, 100001), farNumbers()...) {
			isEven(t, wants, times(len(wants), share), false)
		}
		isEven(t, wants, slices.Clone(wants), false)
		isEven(t, wants, nil, false)
		isEven(t, wants, numbers(0), false)
	}
}

func TestWrongRoomsHaveTheOneFixedAnswer(t *testing.T) {
	for _, wants := range rightWants() {
		for _, room := range wrongRooms() {
			areShares(t, wants, room, nil)
			isLevel(t, wants, room, -1)
		}
		if impl.Level(wants, 0) != 0 || impl.Level(wants, 1000000) != slices.Max(wants) {
			t.Fatalf("%v: Level of no room %d, of all room %d", wants, impl.Level(wants, 0), impl.Level(wants, 1000000))
		}
	}
}

// A share that is out of range at one place, where all others are as they should be.
func TestEvenWithOneShareOutOfRange(t *testing.T) {
	for _, wants := range rightWants() {
		for at, want := range wants {
			for _, share := range append(numbers(-1, want+1, want+2), farNumbers()...) {
				for _, room := range []int64{0, sumOf(wants) / 2, sumOf(wants)} {
					shares := sharesAsWritten(wants, room)
					shares[at] = share
					isEven(t, wants, shares, false)
				}
			}
		}
	}
}

func TestEvenOfFewerOrMoreSharesThanWants(t *testing.T) {
	for _, wants := range rightWants() {
		shares := sharesAsWritten(wants, sumOf(wants)/2)
		for n := range shares {
			isEven(t, wants, shares[:n], false)
		}
		for _, more := range []int64{0, 1, shares[len(shares)-1], -1, math.MinInt64, math.MaxInt64} {
			isEven(t, wants, append(slices.Clone(shares), more), false)
		}
		isEven(t, wants, shares, true)
	}
}

// The least and the greatest number at each place, alone and with others beside it.
func TestSharesOfTheLeastAndTheGreatestNumbers(t *testing.T) {
	ends := numbers(math.MinInt64, math.MinInt64+1, -1, 0, 1, 2, math.MaxInt64-1, math.MaxInt64)
	for _, a := range ends {
		sharedAsWritten(t, numbers(a), ends...)
		for _, b := range ends {
			sharedAsWritten(t, numbers(a, b), ends...)
			isEven(t, numbers(a), numbers(b), evenAsWritten(numbers(a), numbers(b)))
			for _, c := range ends {
				sharedAsWritten(t, numbers(a, b, c), ends...)
				for _, d := range ends {
					isEven(t, numbers(a, b), numbers(c, d), evenAsWritten(numbers(a, b), numbers(c, d)))
				}
			}
		}
	}
}

// eachUpTo goes through all lists that have at each place a number from least to that of most.
func eachUpTo(most []int64, least int64, each func([]int64)) {
	list := times(len(most), least)
	for {
		each(list)
		at := len(list) - 1
		for at >= 0 && list[at] == most[at] {
			list[at] = least
			at--
		}
		if at < 0 {
			return
		}
		list[at]++
	}
}

// P13 of all small wants and rooms: of all Even ones for which there is room none gives more.
func TestNoOtherEvenOnesGiveMore(t *testing.T) {
	for n := 1; n <= 4; n++ {
		most := int64(6 - n)
		eachUpTo(times(n, most), 0, func(wants []int64) {
			sum := sumOf(wants)
			best := make([]int64, sum+2)
			eachUpTo(wants, 0, func(shares []int64) {
				even := evenAsWritten(wants, shares)
				isEven(t, wants, shares, even)
				for room := sumOf(shares); even && room <= sum+1; room++ {
					best[room] = max(best[room], sumOf(shares))
				}
			})
			for room := int64(0); room <= sum+1; room++ {
				sharedAsWritten(t, wants, room)
				if shares := impl.Shares(wants, room); sumOf(shares) != best[room] || sumOf(shares) != min(room, sum) {
					t.Fatalf("Shares(%v, %d): %v, and Even ones give %d", wants, room, shares, best[room])
				}
			}
		})
	}
}

// All small wants with all small shares, right or not, so that no rule rests on the ends alone.
func TestEvenOfAllSmallOnes(t *testing.T) {
	even, not := 0, 0
	for n := 1; n <= 3; n++ {
		eachUpTo(times(n, 4), -1, func(wants []int64) {
			eachUpTo(times(n, 5), -1, func(shares []int64) {
				is := evenAsWritten(wants, shares)
				isEven(t, wants, shares, is)
				if is {
					even++
				} else {
					not++
				}
			})
		})
	}
	if even < 1000 || not < 1000 {
		t.Fatalf("only %d were Even and %d not", even, not)
	}
}

// wants are right ones: some with little and much in them, some that are all about alike.
func (s *source) wants() []int64 {
	wants := times(1+s.next(10), 0)
	scale := []int64{3, 10, 300, 100000}[s.next(4)]
	base := s.upTo(scale)
	for i := range wants {
		switch s.next(4) {
		case 0:
			wants[i] = base
		case 1:
			wants[i] = max(0, base-s.upTo(2))
		default:
			wants[i] = s.upTo(scale)
		}
	}
	return wants
}

// room is one for which it matters what is wanted, mostly.
func (s *source) room(wants []int64) int64 {
	sum := sumOf(wants)
	switch s.next(6) {
	case 0:
		return min(1000000, sum+s.upTo(3))
	case 1:
		return max(0, sum-s.upTo(12))
	case 2:
		return s.upTo(1000000)
	default:
		return s.upTo(sum)
	}
}

func TestSomeSharesAsWritten(t *testing.T) {
	s := source{seed: 13}
	for range 6000 {
		wants := s.wants()
		sharedAsWritten(t, wants, s.room(wants), 1000000+1+s.upTo(5), -1-s.upTo(5))
	}
}

// arePromised asks P13 of one call, by what it answers alone.
func arePromised(t *testing.T, wants []int64, room int64) (shares []int64, lack bool) {
	t.Helper()
	shares = impl.Shares(wants, room)
	sum := sumOf(wants)
	if len(shares) != len(wants) || !impl.Even(wants, shares) || !evenAsWritten(wants, shares) || sumOf(shares) != min(room, sum) {
		t.Fatalf("Shares(%v, %d): %v, Even %v", wants, room, shares, impl.Even(wants, shares))
	}
	for i, share := range shares {
		if share < 0 || share > wants[i] {
			t.Fatalf("Shares(%v, %d): %v", wants, room, shares)
		}
	}
	isLevel(t, wants, room, slices.Max(shares))
	return shares, room < sum
}

func TestSharesAreEvenAndGiveAllThereIsOrAllThatIsWanted(t *testing.T) {
	short, enough := 0, 0
	ask := func(wants []int64, room int64) {
		t.Helper()
		shares, lack := arePromised(t, wants, room)
		if lack {
			short++
		} else if enough++; !slices.Equal(shares, wants) {
			t.Fatalf("Shares(%v, %d): %v", wants, room, shares)
		}
	}
	for _, wants := range rightWants() {
		for _, room := range someRooms(wants) {
			if isRoom(room) {
				ask(wants, room)
			}
		}
	}
	s := source{seed: 5}
	for range 30000 {
		wants := s.wants()
		ask(wants, s.room(wants))
	}
	if short < 10000 || enough < 5000 {
		t.Fatalf("only %d times somebody lacked, %d times nobody", short, enough)
	}
}

// What is more by one of room goes to one, to the first of those that have the least of all that lack, and nobody has less.
func TestWithRoomForOneMoreNobodyHasLess(t *testing.T) {
	more := func(wants []int64, room int64) {
		t.Helper()
		shares, then := impl.Shares(wants, room), impl.Shares(wants, room+1)
		next := -1
		for i, share := range shares {
			if share < wants[i] && (next == -1 || share < shares[next]) {
				next = i
			}
		}
		want := slices.Clone(shares)
		if next >= 0 {
			want[next]++
		}
		if !slices.Equal(then, want) {
			t.Fatalf("Shares of %v: with %d %v, and with one more %v", wants, room, shares, then)
		}
		if impl.Level(wants, room+1) < impl.Level(wants, room) {
			t.Fatalf("Level of %v: with %d %d, and with one more %d", wants, room, impl.Level(wants, room), impl.Level(wants, room+1))
		}
	}
	for _, wants := range rightWants() {
		for _, room := range someRooms(wants) {
			if room >= 0 && room < 1000000 {
				more(wants, room)
			}
		}
	}
	s := source{seed: 21}
	for range 30000 {
		wants := s.wants()
		more(wants, min(999999, s.room(wants)))
	}
}

func TestOneWhoWantsMoreHasNoLessForIt(t *testing.T) {
	grew, same := 0, 0
	for seed := range uint32(20000) {
		s := source{seed: seed}
		wants := s.wants()
		room, at := s.room(wants), s.next(uint32(len(wants)))
		greedy := slices.Clone(wants)
		greedy[at] = min(100000, wants[at]+1+s.upTo(20))
		was, then := impl.Shares(wants, room), impl.Shares(greedy, room)
		if then[at] < was[at] {
			t.Fatalf("number %d of %v has %d of %d, and %d where it wants %d", at, wants, was[at], room, then[at], greedy[at])
		}
		if then[at] > was[at] {
			grew++
		} else {
			same++
		}
		for i := range wants {
			// Whoever lacked ahead of it gains nothing by wanting more, and nobody else gains by another one's want.
			if i != at && then[i] > was[i] || was[at] < wants[at] && then[i] != was[i] {
				t.Fatalf("number %d has %d of %v, and %d of %v", i, was[i], wants, then[i], greedy)
			}
		}
	}
	if grew < 2000 || same < 2000 {
		t.Fatalf("only %d had more for it, and %d not", grew, same)
	}
}

// One moved from one who has it to another one is no longer Even, or parts them by one alone.
func TestAShareThatIsMoved(t *testing.T) {
	even, not := 0, 0
	move := func(wants, shares []int64, from, to int) {
		t.Helper()
		moved := slices.Clone(shares)
		moved[from]--
		moved[to]++
		is := impl.Even(wants, moved)
		if is != evenAsWritten(wants, moved) {
			t.Fatalf("Even(%v, %v): %v", wants, moved, is)
		}
		if !is {
			not++
		} else if even++; moved[to]-moved[from] != 1 {
			t.Fatalf("of %v of %v one moved from %d to %d is Even, too", shares, wants, from, to)
		}
	}
	s := source{seed: 77}
	for range 5000 {
		wants := s.wants()
		shares := impl.Shares(wants, s.room(wants))
		for from := range shares {
			for to := range shares {
				if from != to && shares[from] > 0 {
					move(wants, shares, from, to)
				}
			}
		}
	}
	if even < 5000 || not < 5000 {
		t.Fatalf("only %d were Even and %d not", even, not)
	}
}

// What is left over of the last round goes to the first ones that lack: none behind one of them that has less had it.
func TestWhatIsLeftOverGoesToTheFirstOnes(t *testing.T) {
	over := 0
	for seed := range uint32(20000) {
		s := source{seed: seed}
		wants := s.wants()
		room := s.room(wants)
		shares := impl.Shares(wants, room)
		for i := range shares {
			for j := i + 1; j < len(shares); j++ {
				if shares[i] < wants[i] && shares[j] > shares[i] {
					t.Fatalf("Shares(%v, %d): %v, and %d is behind %d", wants, room, shares, j, i)
				}
				if shares[j] < wants[j] && shares[i] > shares[j] {
					over++
				}
			}
		}
	}
	if over < 5000 {
		t.Fatalf("only %d were left over", over)
	}
	// Rooms that the number of those who lack does not divide, one by one.
	for n := int64(1); n <= 10; n++ {
		for room := int64(0); room <= 5*n; room++ {
			shares := impl.Shares(times(int(n), 100), room)
			for i, share := range shares {
				want := room / n
				if int64(i) < room%n {
					want++
				}
				if share != want {
					t.Fatalf("%d of %d: %v", room, n, shares)
				}
			}
		}
	}
}

// Whoever lacks has no less than another one, but for one; so the Level of many alike is their part, rounded up.
func TestLevelIsTheGreatestShare(t *testing.T) {
	for n := int64(1); n <= 10; n++ {
		for _, want := range []int64{1, 7, 100000} {
			for _, room := range []int64{0, 1, n, n + 1, 3*n - 1, 3 * n, 3*n + 1, 7*n - 1, 7 * n, 99999*n + 1, 1000000} {
				isLevel(t, times(int(n), want), room, min(want, (room+n-1)/n))
			}
		}
	}
	s := source{seed: 3}
	for range 20000 {
		wants := s.wants()
		room := s.room(wants)
		isLevel(t, wants, room, slices.Max(impl.Shares(wants, room)))
	}
}

// amidstNumbers is the list amidst others, which show a write ahead of it and into the room behind it.
func amidstNumbers(list []int64) (given, all []int64) {
	all = slices.Concat(numbers(91), list, numbers(92, 93))
	return all[1 : 1+len(list)], all
}

func numberSpan(list []int64) [2]uintptr {
	at := uintptr(unsafe.Pointer(unsafe.SliceData(list)))
	return [2]uintptr{at, at + uintptr(cap(list))*unsafe.Sizeof(int64(0))}
}

func TestSharesArgumentsStayAndAnswersAreNewMemory(t *testing.T) {
	for _, wants := range append(rightWants(), wrongWants()...) {
		given, all := amidstNumbers(wants)
		_, held := amidstNumbers(wants)
		stays := func(what string, answers ...[]int64) {
			t.Helper()
			if !slices.Equal(all, held) {
				t.Fatalf("%s of %v: the argument is %v", what, wants, all)
			}
			for i, answer := range answers {
				if cap(answer) > 0 && meet(numberSpan(answer), numberSpan(all)) {
					t.Fatalf("%s of %v shares memory with it", what, wants)
				}
				for _, other := range answers[:i] {
					if cap(answer) > 0 && cap(other) > 0 && meet(numberSpan(answer), numberSpan(other)) {
						t.Fatalf("%s of %v: two answers share memory", what, wants)
					}
				}
			}
		}
		for _, room := range append(someRooms(wants), wrongRooms()...) {
			first, second := impl.Shares(given, room), impl.Shares(given, room)
			stays("Shares", first, second)
			for i := range first {
				first[i] = 94
			}
			stays("Shares", first, second)
			areShares(t, given, room, second)
			impl.Level(given, room)
			stays("Level")

			shares, allShares := amidstNumbers(second)
			_, heldShares := amidstNumbers(second)
			for range 2 {
				impl.Even(given, shares)
				if stays("Even"); !slices.Equal(allShares, heldShares) {
					t.Fatalf("Even of %v: the shares are %v", wants, allShares)
				}
			}
		}
		// One list for both, and a share of each kind that is wrong.
		impl.Even(given, given)
		stays("Even")
		impl.Even(all, given)
		stays("Even")
		impl.Even(given, all)
		stays("Even")
	}
}

// A call hangs on what it is given alone: what was asked ahead of it does not change it.
func TestSharesAreTheSameWhateverWasAskedAhead(t *testing.T) {
	type call struct {
		wants  []int64
		room   int64
		shares []int64
	}
	var calls []call
	s := source{seed: 41}
	for range 500 {
		wants := s.wants()
		room := s.room(wants)
		calls = append(calls, call{wants, room, impl.Shares(wants, room)})
	}
	for _, c := range slices.Backward(calls) {
		areShares(t, c.wants, c.room, c.shares)
		isEven(t, c.wants, c.shares, true)
	}
}
