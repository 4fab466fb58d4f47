package tests

import (
	"math"
	"testing"

	"loop.example/g00296/impl"
)

const lastTime = 1000000 // the document's MaxTime

func bucket(rate, most, level, at int64) impl.Bucket {
	return impl.Bucket{Rate: rate, Most: most, Level: level, At: at}
}

// bucketAsWritten is what the chapter wants, want by want.
func bucketAsWritten(b impl.Bucket) bool {
	switch {
	case b.Rate < 0, b.Rate > 1000:
		return false
	case b.Most < 1, b.Most > 10000:
		return false
	case b.Level < 0, b.Level > b.Most:
		return false
	case b.At < 0, b.At > lastTime:
		return false
	}
	return true
}

// ticked goes one tick on, so that no answer of the tests' own hangs on a product or a quotient.
func ticked(b impl.Bucket) impl.Bucket {
	b.At++
	b.Level += b.Rate
	if b.Level > b.Most {
		b.Level = b.Most
	}
	return b
}

func isNow(b impl.Bucket, now int64) bool { return now >= 0 && now <= lastTime && now >= b.At }

func filledAsWritten(b impl.Bucket, now int64) impl.Bucket {
	if !bucketAsWritten(b) {
		return impl.Bucket{}
	}
	if !isNow(b, now) {
		return b
	}
	// One that is full, or into which nothing comes, changes no more.
	for b.At < now && b.Rate > 0 && b.Level < b.Most {
		b = ticked(b)
	}
	b.At = now
	return b
}

func pouredAsWritten(b impl.Bucket, now, n int64) (impl.Bucket, bool) {
	then := filledAsWritten(b, now)
	if !bucketAsWritten(b) || !isNow(b, now) || n < 0 || n > then.Level {
		return then, false
	}
	then.Level -= n
	return then, true
}

func whenFullAsWritten(b impl.Bucket, n int64) int64 {
	if !bucketAsWritten(b) || n < 0 || n > b.Most {
		return -1
	}
	for b.Level < n {
		if b.Rate == 0 || b.At == lastTime {
			return -1
		}
		b = ticked(b)
	}
	return b.At
}

// Each asks that what was handed in is as it was, too.

func isFilled(t *testing.T, b impl.Bucket, now int64, then impl.Bucket) {
	t.Helper()
	was := b
	if got := impl.Filled(b, now); got != then || b != was {
		t.Fatalf("Filled(%v, %d): %v, not %v; the argument is %v", was, now, got, then, b)
	}
}

func isPoured(t *testing.T, b impl.Bucket, now, n int64, then impl.Bucket, right bool) {
	t.Helper()
	was := b
	if got, is := impl.Poured(b, now, n); got != then || is != right || b != was {
		t.Fatalf("Poured(%v, %d, %d): %v, %v, not %v, %v; the argument is %v", was, now, n, got, is, then, right, b)
	}
}

func isWhenFull(t *testing.T, b impl.Bucket, n, when int64) {
	t.Helper()
	was := b
	if got := impl.WhenFull(b, n); got != when || b != was {
		t.Fatalf("WhenFull(%v, %d): %d, not %d; the argument is %v", was, n, got, when, b)
	}
}

// bucketsAsWritten asks each function about the bucket, at each of these times and with each of these numbers.
func bucketsAsWritten(t *testing.T, b impl.Bucket, nows, ns []int64) {
	t.Helper()
	if right := bucketAsWritten(b); impl.BucketOk(b) != right {
		t.Fatalf("BucketOk(%v): %v", b, !right)
	}
	for _, now := range nows {
		isFilled(t, b, now, filledAsWritten(b, now))
		for _, n := range ns {
			then, is := pouredAsWritten(b, now, n)
			isPoured(t, b, now, n, then, is)
		}
	}
	for _, n := range ns {
		isWhenFull(t, b, n, whenFullAsWritten(b, n))
	}
}

// farNumbers are out of every range; some are in range by their lowest 32 bits.
func farNumbers() []int64 {
	return []int64{-2, -1 << 31, 1 << 31, -1 << 32, 1 << 32, 1<<32 + 1, 1<<32 + 7, 1 << 62, -1 << 62,
		math.MinInt64, math.MinInt64 + 1, math.MaxInt64 - 1, math.MaxInt64}
}

// someTimes are those around At, around both ends, and around the tick by which the bucket is full.
func someTimes(b impl.Bucket) []int64 {
	list := []int64{-1, 0, 1, lastTime - 1, lastTime, lastTime + 1, b.At - 1, b.At, b.At + 1, b.At + 2, b.At + 1000}
	if b.Rate > 0 {
		full := b.At + (b.Most-b.Level)/b.Rate
		list = append(list, full-2, full-1, full, full+1, full+2)
	}
	return append(list, farNumbers()...)
}

func someAmounts(b impl.Bucket) []int64 {
	list := []int64{-1, 0, 1, 2, b.Level - 1, b.Level, b.Level + 1, b.Level + b.Rate - 1, b.Level + b.Rate, b.Level + b.Rate + 1,
		b.Most - 1, b.Most, b.Most + 1, 9999, 10000, 10001}
	return append(list, farNumbers()...)
}

func rightBuckets() []impl.Bucket {
	list := []impl.Bucket{
		bucket(3, 10, 2, 4), bucket(3, 10, 1, 4), bucket(3, 10, 0, 4), bucket(3, 10, 10, 4), bucket(3, 10, 9, 4),
		bucket(7, 100, 50, 900000), bucket(7, 100, 51, 999993), bucket(7, 100, 51, 999992), bucket(7, 100, 51, 999994),
		bucket(999, 1000, 0, 12), bucket(1000, 999, 0, 12), bucket(1000, 1000, 0, 12), bucket(500, 501, 1, 12),
	}
	for _, rate := range []int64{0, 1, 2, 999, 1000} {
		for _, most := range []int64{1, 2, 9999, 10000} {
			for _, level := range []int64{0, 1, most / 2, most - 1, most} {
				for _, at := range []int64{0, 1, 77, lastTime - 1, lastTime} {
					list = append(list, bucket(rate, most, level, at))
				}
			}
		}
	}
	return list
}

// wrongBuckets each miss what the chapter wants by one thing.
func wrongBuckets() []impl.Bucket {
	var wrong []impl.Bucket
	far := append([]int64{-1}, farNumbers()...)
	for _, b := range []impl.Bucket{bucket(3, 10, 2, 4), bucket(0, 1, 0, 0), bucket(1000, 10000, 10000, lastTime), bucket(1, 10000, 0, lastTime)} {
		for _, n := range append([]int64{1001, 1002, 10000}, far...) {
			wrong = append(wrong, bucket(n, b.Most, b.Level, b.At))
		}
		for _, n := range append([]int64{0, 10001, 10002}, far...) {
			// A Level of 0 is below every right Most: what is wrong is Most alone.
			wrong = append(wrong, bucket(b.Rate, n, 0, b.At), bucket(b.Rate, n, b.Level, b.At))
		}
		for _, n := range append([]int64{b.Most + 1, b.Most + 2, 10001}, far...) {
			wrong = append(wrong, bucket(b.Rate, b.Most, n, b.At))
		}
		for _, n := range append([]int64{lastTime + 1, lastTime + 2}, far...) {
			wrong = append(wrong, bucket(b.Rate, b.Most, b.Level, n))
		}
	}
	return append(wrong, impl.Bucket{}, bucket(3, 0, 0, 4), bucket(3, -5, -5, 4), bucket(3, -5, -6, 4), bucket(3, 10001, 10001, 4))
}

func TestMaxTimeIsThatOfTheDocument(t *testing.T) {
	if impl.MaxTime != 1000000 {
		t.Error(impl.MaxTime)
	}
}

func TestBucketOk(t *testing.T) {
	for _, c := range []struct {
		b  impl.Bucket
		is bool
	}{
		{bucket(3, 10, 2, 4), true}, {bucket(0, 1, 0, 0), true}, {bucket(1000, 10000, 10000, 1000000), true},
		{bucket(-1, 10, 2, 4), false}, {bucket(0, 10, 2, 4), true}, {bucket(1, 10, 2, 4), true}, {bucket(1000, 10, 2, 4), true}, {bucket(1001, 10, 2, 4), false},
		{bucket(3, 0, 0, 4), false}, {bucket(3, 1, 0, 4), true}, {bucket(3, 1, 1, 4), true}, {bucket(3, 10000, 2, 4), true}, {bucket(3, 10001, 2, 4), false}, {bucket(3, -1, 0, 4), false},
		{bucket(3, 10, -1, 4), false}, {bucket(3, 10, 0, 4), true}, {bucket(3, 10, 10, 4), true}, {bucket(3, 10, 11, 4), false}, {bucket(3, 1, 2, 4), false}, {bucket(3, 10000, 10000, 4), true}, {bucket(3, 10000, 10001, 4), false},
		{bucket(3, 10, 2, -1), false}, {bucket(3, 10, 2, 0), true}, {bucket(3, 10, 2, 1000000), true}, {bucket(3, 10, 2, 1000001), false},
		{impl.Bucket{}, false},
	} {
		if impl.BucketOk(c.b) != c.is {
			t.Errorf("BucketOk(%v): %v", c.b, !c.is)
		}
	}
	for _, b := range rightBuckets() {
		if !impl.BucketOk(b) || !bucketAsWritten(b) {
			t.Errorf("right bucket %v: %v, by the tests' own %v", b, impl.BucketOk(b), bucketAsWritten(b))
		}
	}
	for _, b := range wrongBuckets() {
		if impl.BucketOk(b) || bucketAsWritten(b) {
			t.Errorf("wrong bucket %v: %v, by the tests' own %v", b, impl.BucketOk(b), bucketAsWritten(b))
		}
	}
}

func TestBucketOkAtItsLimits(t *testing.T) {
	for n := int64(-3); n <= 10010; n++ {
		rates, mosts, levels := bucket(n, 10, 2, 4), bucket(3, n, 0, 4), bucket(3, 5000, n, 4)
		if impl.BucketOk(rates) != (n >= 0 && n <= 1000) || impl.BucketOk(mosts) != (n >= 1 && n <= 10000) || impl.BucketOk(levels) != (n >= 0 && n <= 5000) {
			t.Fatal(n)
		}
	}
	for most := int64(1); most <= 10000; most++ {
		if !impl.BucketOk(bucket(0, most, most, 0)) || impl.BucketOk(bucket(0, most, most+1, 0)) || impl.BucketOk(bucket(0, most, -1, 0)) {
			t.Fatalf("Most %d", most)
		}
	}
	for at := int64(-3); at <= lastTime+3; at++ {
		if impl.BucketOk(bucket(3, 10, 2, at)) != (at >= 0 && at <= lastTime) {
			t.Fatalf("At %d", at)
		}
	}
}

func TestFilled(t *testing.T) {
	b := bucket(3, 10, 2, 4)
	for _, c := range []struct {
		b    impl.Bucket
		now  int64
		then impl.Bucket
	}{
		// Just At, one below and one above it.
		{b, 4, b}, {b, 3, b}, {b, 5, bucket(3, 10, 5, 5)}, {b, 6, bucket(3, 10, 8, 6)},
		{bucket(3, 10, 2, 0), 0, bucket(3, 10, 2, 0)}, {bucket(3, 10, 2, 0), -1, bucket(3, 10, 2, 0)}, {bucket(3, 10, 2, 0), 1, bucket(3, 10, 5, 1)},
		// What would be above Most is not there.
		{b, 7, bucket(3, 10, 10, 7)}, {b, 8, bucket(3, 10, 10, 8)}, {b, 60, bucket(3, 10, 10, 60)},
		// It reaches Most just at now, one tick earlier, one later.
		{bucket(4, 10, 2, 4), 6, bucket(4, 10, 10, 6)}, {bucket(4, 10, 2, 4), 7, bucket(4, 10, 10, 7)}, {bucket(4, 10, 2, 4), 5, bucket(4, 10, 6, 5)},
		{bucket(1, 10000, 0, 0), 9999, bucket(1, 10000, 9999, 9999)}, {bucket(1, 10000, 0, 0), 10000, bucket(1, 10000, 10000, 10000)}, {bucket(1, 10000, 0, 0), 10001, bucket(1, 10000, 10000, 10001)},
		{bucket(1000, 10000, 1, 0), 9, bucket(1000, 10000, 9001, 9)}, {bucket(1000, 10000, 1, 0), 10, bucket(1000, 10000, 10000, 10)},
		// One that is full stays so, and one into which nothing comes; the time goes on all the same.
		{bucket(3, 10, 10, 4), 5, bucket(3, 10, 10, 5)}, {bucket(0, 10, 2, 4), 5, bucket(0, 10, 2, 5)}, {bucket(0, 10, 2, 4), 1000000, bucket(0, 10, 2, 1000000)}, {bucket(0, 10, 10, 4), 9, bucket(0, 10, 10, 9)},
		// The greatest of all.
		{bucket(1000, 10000, 0, 0), 1000000, bucket(1000, 10000, 10000, 1000000)}, {bucket(1000, 1, 0, 0), 1, bucket(1000, 1, 1, 1)}, {bucket(1000, 1, 0, 999999), 1000000, bucket(1000, 1, 1, 1000000)},
		// MaxTime and one more, and below 0.
		{b, 1000000, bucket(3, 10, 10, 1000000)}, {b, 1000001, b}, {b, -1, b}, {b, math.MinInt64, b}, {b, math.MaxInt64, b},
		{bucket(3, 10, 2, 999999), 1000000, bucket(3, 10, 5, 1000000)}, {bucket(3, 10, 2, 999999), 1000001, bucket(3, 10, 2, 999999)},
		{bucket(3, 10, 2, 1000000), 1000000, bucket(3, 10, 2, 1000000)}, {bucket(3, 10, 2, 1000000), 999999, bucket(3, 10, 2, 1000000)}, {bucket(3, 10, 2, 1000000), 1000001, bucket(3, 10, 2, 1000000)},
		// Not BucketOk.
		{bucket(1001, 10, 2, 4), 5, impl.Bucket{}}, {bucket(3, 10, 11, 4), 5, impl.Bucket{}}, {bucket(3, 10, 2, -1), 5, impl.Bucket{}}, {bucket(3, 10, 11, 4), 3, impl.Bucket{}}, {bucket(3, 10, 11, 4), -1, impl.Bucket{}}, {impl.Bucket{}, 0, impl.Bucket{}},
	} {
		isFilled(t, c.b, c.now, c.then)
	}
}

func TestPoured(t *testing.T) {
	b := bucket(3, 10, 2, 4)
	for _, c := range []struct {
		b      impl.Bucket
		now, n int64
		then   impl.Bucket
		is     bool
	}{
		// None, some, just what is there, one more: then what came in stays.
		{b, 4, 0, b, true}, {b, 4, 1, bucket(3, 10, 1, 4), true}, {b, 4, 2, bucket(3, 10, 0, 4), true}, {b, 4, 3, b, false},
		{b, 6, 0, bucket(3, 10, 8, 6), true}, {b, 6, 5, bucket(3, 10, 3, 6), true}, {b, 6, 8, bucket(3, 10, 0, 6), true}, {b, 6, 9, bucket(3, 10, 8, 6), false},
		{bucket(3, 10, 3, 6), 6, 4, bucket(3, 10, 3, 6), false}, {bucket(3, 10, 0, 6), 6, 0, bucket(3, 10, 0, 6), true}, {bucket(3, 10, 0, 6), 6, 1, bucket(3, 10, 0, 6), false},
		// Just Most and one more.
		{b, 60, 10, bucket(3, 10, 0, 60), true}, {b, 60, 11, bucket(3, 10, 10, 60), false}, {b, 6, 10, bucket(3, 10, 8, 6), false}, {b, 7, 10, bucket(3, 10, 0, 7), true}, {b, 7, 11, bucket(3, 10, 10, 7), false},
		{bucket(1000, 10000, 0, 0), 10, 10000, bucket(1000, 10000, 0, 10), true}, {bucket(1000, 10000, 0, 0), 9, 10000, bucket(1000, 10000, 9000, 9), false}, {bucket(1000, 10000, 0, 0), 1000000, 10001, bucket(1000, 10000, 10000, 1000000), false},
		// Below 0: what came in is there, and nothing goes or comes.
		{b, 4, -1, b, false}, {b, 6, -1, bucket(3, 10, 8, 6), false}, {b, 6, math.MinInt64, bucket(3, 10, 8, 6), false}, {b, 6, math.MaxInt64, bucket(3, 10, 8, 6), false},
		// A now that is not right: as it is.
		{b, 3, 0, b, false}, {b, 3, 1, b, false}, {b, 3, 3, b, false}, {b, 3, -1, b, false}, {b, -1, 1, b, false}, {b, 1000001, 0, b, false}, {b, 1000001, 1, b, false}, {b, math.MinInt64, 1, b, false}, {b, math.MaxInt64, 1, b, false},
		{b, 1000000, 1, bucket(3, 10, 9, 1000000), true}, {bucket(3, 10, 2, 1000000), 1000000, 2, bucket(3, 10, 0, 1000000), true}, {bucket(3, 10, 2, 1000000), 1000001, 2, bucket(3, 10, 2, 1000000), false},
		// Nothing comes in.
		{bucket(0, 10, 2, 4), 1000000, 2, bucket(0, 10, 0, 1000000), true}, {bucket(0, 10, 2, 4), 1000000, 3, bucket(0, 10, 2, 1000000), false},
		// Not BucketOk.
		{bucket(1001, 10, 2, 4), 5, 1, impl.Bucket{}, false}, {bucket(3, 10, 11, 4), 5, 1, impl.Bucket{}, false}, {bucket(3, 10, 11, 4), 5, 0, impl.Bucket{}, false}, {bucket(3, 10, 2, 1000001), 5, 0, impl.Bucket{}, false}, {impl.Bucket{}, 0, 0, impl.Bucket{}, false}, {impl.Bucket{}, -1, -1, impl.Bucket{}, false},
	} {
		isPoured(t, c.b, c.now, c.n, c.then, c.is)
	}
}

func TestWhenFull(t *testing.T) {
	b := bucket(3, 10, 2, 4)
	for _, c := range []struct {
		b       impl.Bucket
		n, when int64
	}{
		// What is there already is there at At.
		{b, 0, 4}, {b, 1, 4}, {b, 2, 4}, {bucket(3, 10, 10, 4), 10, 4}, {bucket(0, 10, 2, 4), 2, 4}, {bucket(0, 10, 2, 4), 0, 4}, {bucket(0, 10, 10, 4), 10, 4},
		// A Rate that divides what lacks, and one that does not.
		{b, 3, 5}, {b, 4, 5}, {b, 5, 5}, {b, 6, 6}, {b, 8, 6}, {b, 9, 7}, {b, 10, 7},
		{bucket(1000, 10000, 0, 0), 1, 1}, {bucket(1000, 10000, 0, 0), 1000, 1}, {bucket(1000, 10000, 0, 0), 1001, 2}, {bucket(1000, 10000, 0, 0), 10000, 10}, {bucket(1000, 10000, 1, 0), 10000, 10}, {bucket(1, 10000, 0, 0), 10000, 10000},
		// One tick brings more than there is room for.
		{bucket(1000, 1, 0, 7), 1, 8}, {bucket(1000, 999, 0, 7), 999, 8}, {bucket(1000, 999, 998, 7), 999, 8},
		// Just Most and one more, and below 0.
		{b, 11, -1}, {b, -1, -1}, {bucket(3, 10000, 2, 4), 10001, -1}, {bucket(3, 1, 1, 4), 1, 4}, {bucket(3, 1, 1, 4), 2, -1}, {b, math.MinInt64, -1}, {b, math.MaxInt64, -1},
		// Nothing comes in.
		{bucket(0, 10, 2, 4), 3, -1}, {bucket(0, 10, 0, 4), 1, -1}, {bucket(0, 10, 9, 0), 10, -1},
		// Just MaxTime, and one tick later.
		{bucket(3, 10, 2, 999999), 5, 1000000}, {bucket(3, 10, 2, 999999), 6, -1}, {bucket(3, 10, 2, 999998), 8, 1000000}, {bucket(3, 10, 2, 999998), 9, -1}, {bucket(3, 10, 2, 999997), 10, 1000000}, {bucket(3, 10, 2, 999998), 10, -1},
		{bucket(3, 10, 2, 1000000), 2, 1000000}, {bucket(3, 10, 2, 1000000), 3, -1}, {bucket(1, 10000, 0, 990000), 10000, 1000000}, {bucket(1, 10000, 0, 990001), 10000, -1},
		// Not BucketOk.
		{bucket(1001, 10, 2, 4), 2, -1}, {bucket(-1, 10, 2, 4), 2, -1}, {bucket(3, 10001, 2, 4), 2, -1}, {bucket(3, 10, 11, 4), 2, -1}, {bucket(3, 10, -1, 4), 2, -1}, {bucket(3, 10, 2, -1), 2, -1}, {bucket(3, 10, 2, 1000001), 2, -1}, {impl.Bucket{}, 0, -1},
	} {
		isWhenFull(t, c.b, c.n, c.when)
	}
}

func TestBucketsAtEachEdge(t *testing.T) {
	for _, b := range rightBuckets() {
		bucketsAsWritten(t, b, someTimes(b), someAmounts(b))
	}
}

// All small buckets, at all small times, so that no rule rests on the ends alone.
func TestSmallBuckets(t *testing.T) {
	nows, late, ns := []int64{}, []int64{}, []int64{}
	for n := int64(-1); n <= 9; n++ {
		nows, late, ns = append(nows, n), append(late, lastTime-8+n), append(ns, n)
	}
	for rate := int64(-1); rate <= 5; rate++ {
		for most := int64(-1); most <= 7; most++ {
			for level := int64(-1); level <= 8; level++ {
				for at := int64(-1); at <= 4; at++ {
					bucketsAsWritten(t, bucket(rate, most, level, at), nows, ns)
					bucketsAsWritten(t, bucket(rate, most, level, lastTime-3+at), late, ns)
				}
			}
		}
	}
}

func TestWrongBucketsHaveTheOneFixedAnswer(t *testing.T) {
	for _, b := range wrongBuckets() {
		for _, now := range someTimes(bucket(3, 10, 2, 4)) {
			isFilled(t, b, now, impl.Bucket{})
			for _, n := range someAmounts(bucket(3, 10, 2, 4)) {
				isPoured(t, b, now, n, impl.Bucket{}, false)
			}
		}
		for _, n := range append(someAmounts(bucket(3, 10, 2, 4)), b.Level, b.Most) {
			isWhenFull(t, b, n, -1)
		}
	}
}

// The least and the greatest number at each place, alone and with others beside it.
func TestBucketsOfTheLeastAndTheGreatestNumbers(t *testing.T) {
	ends := []int64{math.MinInt64, math.MinInt64 + 1, -1, 0, 1, math.MaxInt64 - 1, math.MaxInt64}
	for _, rate := range ends {
		for _, most := range ends {
			for _, level := range ends {
				for _, at := range ends {
					bucketsAsWritten(t, bucket(rate, most, level, at), ends, ends)
				}
			}
		}
	}
}

func TestFilledAtNoTimeOrAnEarlierOneIsAsItIs(t *testing.T) {
	for _, b := range rightBuckets() {
		wrong := append([]int64{-1, lastTime + 1, b.At - 1, b.At - 2}, farNumbers()...)
		for _, now := range wrong {
			isFilled(t, b, now, b)
			for _, n := range someAmounts(b) {
				isPoured(t, b, now, n, b, false)
			}
		}
	}
}

// Levels are reached just at a tick, one tick earlier and one later: at each of them, each way there.
func TestWhereTheLevelReachesMost(t *testing.T) {
	for _, rate := range []int64{1, 2, 3, 7, 10, 333, 999, 1000} {
		for _, ticks := range []int64{1, 2, 3, 9} {
			for _, over := range []int64{-1, 0, 1} {
				most, at := rate*ticks+over, int64(500)
				if most < 1 {
					continue
				}
				b := bucket(rate, most, 0, at)
				for now := at; now <= at+ticks+2; now++ {
					isFilled(t, b, now, filledAsWritten(b, now))
				}
				for n := int64(0); n <= most; n += max(1, most/50) {
					isWhenFull(t, b, n, whenFullAsWritten(b, n))
				}
				isWhenFull(t, b, most, whenFullAsWritten(b, most))
			}
		}
	}
}

func (s *source) upTo(most int64) int64 {
	switch s.next(8) {
	case 0:
		return 0
	case 1:
		return most
	case 2:
		return min(most, int64(s.next(4)))
	default:
		return int64(s.next(uint32(most + 1)))
	}
}

// bucket is right, now and then full or empty; most begin early, so that time is left.
func (s *source) bucket() impl.Bucket {
	b := bucket(s.upTo(1000), 1+s.upTo(9999), 0, 0)
	if s.next(2) == 0 {
		b.Rate = s.upTo(9)
	}
	if s.next(3) == 0 {
		b.Most = 1 + s.upTo(30)
	}
	b.Level = s.upTo(b.Most)
	if s.next(4) == 0 {
		b.At = s.upTo(lastTime)
	}
	return b
}

// later is a time from At on, mostly soon; where it is not to be right, one earlier than At or past the last one.
func (s *source) later(b impl.Bucket, right bool) int64 {
	switch {
	case !right && s.next(2) == 0:
		return b.At - 1 - s.upTo(20)
	case !right:
		return lastTime + 1 + s.upTo(20)
	case s.next(20) == 0:
		return b.At + s.upTo(lastTime-b.At)
	}
	return min(lastTime, b.At+s.upTo(12))
}

func TestSomeBucketsAsWritten(t *testing.T) {
	s := source{seed: 12}
	for range 4000 {
		b := s.bucket()
		nows := []int64{s.later(b, true), s.later(b, true), s.later(b, false)}
		ns := []int64{s.upTo(b.Most), s.upTo(b.Most), b.Level + s.upTo(b.Rate), -1 - s.upTo(3), b.Most + 1 + s.upTo(3)}
		bucketsAsWritten(t, b, nows, ns)
	}
}

// Whatever came ahead, a bucket stays right, and of Rate and Most it keeps what it has.
func TestABucketStaysRight(t *testing.T) {
	full, empty := 0, 0
	for seed := range uint32(300) {
		s := source{seed: seed}
		b := s.bucket()
		for range 200 {
			was := b
			now, n := s.later(b, s.next(6) > 0), s.upTo(b.Most+1)-s.upTo(1)
			if s.next(3) == 0 {
				b = impl.Filled(b, now)
			} else {
				b, _ = impl.Poured(b, now, n)
			}
			if !impl.BucketOk(b) || !bucketAsWritten(b) || b.Level > b.Most || b.Rate != was.Rate || b.Most != was.Most || b.At < was.At {
				t.Fatalf("behind %v at %d, %d: %v", was, now, n, b)
			}
			if b.Level == b.Most {
				full++
			} else if b.Level == 0 {
				empty++
			}
		}
	}
	if full < 1000 || empty < 1000 {
		t.Fatalf("only %d were full and %d empty", full, empty)
	}
}

func TestFilledByTwoStepsIsFilledByOne(t *testing.T) {
	byTwo := func(b impl.Bucket, first, second int64) {
		t.Helper()
		if once, twice := impl.Filled(b, second), impl.Filled(impl.Filled(b, first), second); once != twice {
			t.Fatalf("%v Filled at %d and then at %d: %v, and at once %v", b, first, second, twice, once)
		}
	}
	for _, b := range rightBuckets() {
		for _, first := range someTimes(b) {
			for _, second := range someTimes(b) {
				// A first time that is not right leaves the bucket, so that the second one alone counts.
				if !isNow(b, first) || second >= first && isNow(b, second) {
					byTwo(b, first, second)
				}
			}
		}
	}
	s := source{seed: 99}
	for range 20000 {
		b := s.bucket()
		first := s.later(b, true)
		byTwo(b, first, first+s.upTo(lastTime-first))
		byTwo(b, first, min(lastTime, first+s.upTo(10)))
	}
	// And by a step for each tick.
	for _, b := range []impl.Bucket{bucket(3, 1000, 2, 4), bucket(0, 10, 2, 4), bucket(999, 10000, 0, 0), bucket(1, 10000, 1, lastTime-300)} {
		each := b
		for now := b.At; now <= min(lastTime, b.At+300); now++ {
			each = impl.Filled(each, now)
			isFilled(t, b, now, each)
		}
	}
}

func TestPouredTakesJustNOrLeavesWhatFilledHas(t *testing.T) {
	taken, left := 0, 0
	takes := func(b impl.Bucket, now, n int64) {
		t.Helper()
		filled := impl.Filled(b, now)
		then, is := impl.Poured(b, now, n)
		want := filled
		if is {
			want.Level -= n
			taken++
		} else {
			left++
		}
		if then != want || is != (isNow(b, now) && n >= 0 && n <= filled.Level) {
			t.Fatalf("Poured(%v, %d, %d): %v, %v, and Filled has %v", b, now, n, then, is, filled)
		}
	}
	for _, b := range rightBuckets() {
		for _, now := range someTimes(b) {
			filled := impl.Filled(b, now)
			for _, n := range append(someAmounts(b), filled.Level-1, filled.Level, filled.Level+1) {
				takes(b, now, n)
			}
		}
	}
	s := source{seed: 7}
	for range 20000 {
		b := s.bucket()
		takes(b, s.later(b, s.next(8) > 0), s.upTo(b.Most+2)-s.upTo(1))
	}
	if taken < 10000 || left < 10000 {
		t.Fatalf("only %d were taken and %d left", taken, left)
	}
}

// pour is what went at one time.
type pour struct{ at, n int64 }

// noMoreThanCame asks P12 of a row of pours: in each span of it no more goes than Most and what comes in it, and
// from the first time on no more than there was and what came.
func noMoreThanCame(t *testing.T, first impl.Bucket, row []pour) {
	t.Helper()
	for i := range row {
		sum := int64(0)
		for _, p := range row[i:] {
			sum += p.n
			if came := first.Rate * (p.at - row[i].at); sum > first.Most+came {
				t.Fatalf("of %v %d went from %d to %d", first, sum, row[i].at, p.at)
			}
			if came := first.Rate * (p.at - first.At); i == 0 && sum > first.Level+came {
				t.Fatalf("of %v %d went up to %d", first, sum, p.at)
			}
		}
	}
}

func TestNoMoreIsPouredThanThereWasAndWhatCame(t *testing.T) {
	went, refused := 0, 0
	for seed := range uint32(400) {
		s := source{seed: seed}
		first := s.bucket()
		b := first
		var row []pour
		// Some rows ask for much at once, some for a little again and again.
		greed := 1 + s.upTo(min(b.Most, 20*(1+b.Rate)))
		for range 120 {
			now, n := s.later(b, s.next(10) > 0), s.upTo(greed)
			if s.next(10) == 0 {
				n = -n
			}
			if s.next(5) == 0 {
				b = impl.Filled(b, now)
				continue
			}
			then, is := impl.Poured(b, now, n)
			if is {
				row = append(row, pour{now, n})
				went++
			} else {
				refused++
			}
			b = then
		}
		noMoreThanCame(t, first, row)
	}
	if went < 10000 || refused < 5000 {
		t.Fatalf("only %d went and %d were refused", went, refused)
	}
}

// Whoever takes one at a time, as long as there is any, gets just what there was and what came, where none is lost at the brim.
func TestAllThatComesCanBePoured(t *testing.T) {
	for _, c := range []struct{ b, then impl.Bucket }{
		{bucket(3, 10, 2, 4), bucket(3, 10, 0, 54)}, {bucket(1, 1, 0, 0), bucket(1, 1, 0, 50)}, {bucket(10, 10, 10, 7), bucket(10, 10, 0, 57)}, {bucket(0, 50, 40, 3), bucket(0, 50, 0, 53)},
	} {
		b, sum := c.b, int64(0)
		for now := c.b.At; now <= c.b.At+50; now++ {
			// One more than there can be: so the last one is refused, and a fault does not go on for ever.
			for range c.b.Most + 1 {
				var is bool
				if b, is = impl.Poured(b, now, 1); is {
					sum++
				}
			}
		}
		if b != c.then || sum != c.b.Level+50*c.b.Rate {
			t.Fatalf("%v: %d went, and it is %v", c.b, sum, b)
		}
	}
	// What does not fit is lost: at the brim only Most can go, however long it was.
	b, is := impl.Poured(bucket(1000, 10, 0, 0), lastTime, 10)
	if !is || b != bucket(1000, 10, 0, lastTime) {
		t.Fatal(b, is)
	}
	isPoured(t, b, lastTime, 1, b, false)
}

// isFirstTime asks that at the time that WhenFull tells there are n or more, and one tick earlier there are not.
func isFirstTime(t *testing.T, b impl.Bucket, n int64) bool {
	t.Helper()
	when := impl.WhenFull(b, n)
	if when == -1 {
		if n >= 0 && n <= b.Most && impl.Filled(b, lastTime).Level >= n {
			t.Fatalf("WhenFull(%v, %d): none, and at the last time there are so many", b, n)
		}
		return false
	}
	if !isNow(b, when) || impl.Filled(b, when).Level < n {
		t.Fatalf("WhenFull(%v, %d): %d, and it is %v then", b, n, when, impl.Filled(b, when))
	}
	if when > b.At && impl.Filled(b, when-1).Level >= n {
		t.Fatalf("WhenFull(%v, %d): %d, and it is %v one tick earlier", b, n, when, impl.Filled(b, when-1))
	}
	if when == b.At && b.Level < n {
		t.Fatalf("WhenFull(%v, %d): At, where there are less", b, n)
	}
	then := impl.Filled(b, when)
	then.Level -= n
	isPoured(t, b, when, n, then, true)
	if when > b.At {
		isPoured(t, b, when-1, n, impl.Filled(b, when-1), false)
	}
	return true
}

func TestWhenFullIsTheFirstTime(t *testing.T) {
	some, none := 0, 0
	ask := func(b impl.Bucket, n int64) {
		t.Helper()
		if isFirstTime(t, b, n) {
			some++
		} else {
			none++
		}
	}
	for _, b := range rightBuckets() {
		for _, n := range someAmounts(b) {
			ask(b, n)
		}
	}
	s := source{seed: 31}
	for range 20000 {
		b := s.bucket()
		ask(b, s.upTo(b.Most))
		b.At = lastTime - s.upTo(20)
		ask(b, s.upTo(b.Most))
	}
	if some < 10000 || none < 5000 {
		t.Fatalf("only %d times were told and %d were none", some, none)
	}
}

// Each n of a bucket, and each At near the end, where the last tick is the one that counts.
func TestWhenFullAroundTheLastTime(t *testing.T) {
	for _, rate := range []int64{0, 1, 2, 3, 7, 1000} {
		for at := int64(lastTime - 15); at <= lastTime; at++ {
			for level := int64(0); level <= 20; level += 4 {
				b := bucket(rate, 20, level, at)
				for n := int64(-1); n <= 21; n++ {
					isWhenFull(t, b, n, whenFullAsWritten(b, n))
					isFirstTime(t, b, n)
				}
			}
		}
	}
}

// A greater n is never there earlier, and what was told at one time is told at each one up to it.
func TestWhenFullStaysAsTimeGoesOn(t *testing.T) {
	s := source{seed: 64}
	for range 3000 {
		b := s.bucket()
		n := s.upTo(b.Most)
		when := impl.WhenFull(b, n)
		if n > 0 {
			if less := impl.WhenFull(b, n-1); when != -1 && (less == -1 || less > when) {
				t.Fatalf("%v: %d at %d, and %d at %d", b, n-1, less, n, when)
			}
		}
		if when == -1 {
			isWhenFull(t, impl.Filled(b, lastTime), n, -1)
			continue
		}
		for _, now := range []int64{b.At, b.At + (when-b.At)/2, when - 1, when} {
			if now >= b.At {
				isWhenFull(t, impl.Filled(b, now), n, when)
			}
		}
	}
}
