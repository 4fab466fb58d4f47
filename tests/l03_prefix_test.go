package tests

import (
	"math"
	"math/big"
	"strings"
	"testing"
	"unsafe"

	"loop.example/g00296/impl"
)

// rightHighs are all numbers whose lowest bits are 0 and that one byte holds.
func rightHighs(bits int64) []int64 {
	var highs []int64
	for high := int64(0); high < 256; high += 1 << bits {
		highs = append(highs, high)
	}
	return highs
}

// wrongBits are out of range; some of them are right ones where only the last 3, 6, 8 or 32 bits are looked at.
func wrongBits() []int64 {
	return []int64{0, -1, -5, 9, 10, 13, 16, 63, 64, 69, 256 + 5, 1 << 32, 1<<32 + 5, math.MinInt64, math.MinInt64 + 5, math.MaxInt64}
}

// someNumbers are the edges of each width, and numbers of every size between them.
func someNumbers(bits int64) []int64 {
	full := int64(1)<<bits - 1
	numbers := []int64{0, full - 1, full, full + 1, full + 2}
	for rest := int64(128); rest < impl.MaxNumber; rest *= 128 {
		numbers = append(numbers, full+rest-2, full+rest-1, full+rest, full+rest+1)
	}
	for n := int64(1); n <= impl.MaxNumber; n *= 2 {
		numbers = append(numbers, n-1, n)
	}
	seed := uint32(bits)
	for i := range 300 {
		seed = seed*1664525 + 1013904223
		numbers = append(numbers, int64(seed>>4)>>(i%28))
	}
	return append(numbers, impl.MaxNumber-1, impl.MaxNumber)
}

// spelt is a number as chapter 3 writes it, but of any size and with noughts behind it on demand:
// what Prefixed must not make.
func spelt(n *big.Int, bits int64, high int64, noughts int) string {
	full := big.NewInt(int64(1)<<bits - 1)
	rest := new(big.Int).Sub(n, full)
	if rest.Sign() < 0 {
		return string([]byte{byte(high + n.Int64())})
	}
	digits := []byte{byte(new(big.Int).And(rest, big.NewInt(127)).Int64())}
	for rest.Rsh(rest, 7); rest.Sign() > 0; rest.Rsh(rest, 7) {
		digits = append(digits, byte(new(big.Int).And(rest, big.NewInt(127)).Int64()))
	}
	digits = append(digits, make([]byte, noughts)...)
	for i := range digits[:len(digits)-1] {
		digits[i] += 128
	}
	return string([]byte{byte(high + full.Int64())}) + string(digits)
}

func TestPrefixedAsWritten(t *testing.T) {
	if impl.MaxNumber != 1<<28 {
		t.Error("MaxNumber", impl.MaxNumber)
	}
	for _, c := range []struct {
		n, bits, high int64
		want          string
	}{
		{0, 1, 0, "\x00"},
		{0, 1, 254, "\xfe"},
		{1, 1, 0, "\x01\x00"},
		{2, 1, 254, "\xff\x01"},
		{128, 1, 0, "\x01\x7f"},
		{129, 1, 0, "\x01\x80\x01"},
		{2, 2, 252, "\xfe"},
		{3, 2, 252, "\xff\x00"},
		{4, 2, 0, "\x03\x01"},
		{12, 5, 64, "\x4c"},
		{10, 5, 224, "\xea"},
		{30, 5, 0, "\x1e"},
		{31, 5, 0, "\x1f\x00"},
		{32, 5, 0, "\x1f\x01"},
		{31 + 127, 5, 32, "\x3f\x7f"},
		{31 + 128, 5, 32, "\x3f\x80\x01"},
		{31 + 129, 5, 32, "\x3f\x81\x01"},
		{1000, 5, 0, "\x1f\xc9\x07"},
		{1337, 5, 0, "\x1f\x9a\x0a"},
		{126, 7, 128, "\xfe"},
		{127, 7, 128, "\xff\x00"},
		{128, 7, 0, "\x7f\x01"},
		{254, 8, 0, "\xfe"},
		{255, 8, 0, "\xff\x00"},
		{256, 8, 0, "\xff\x01"},
		{255 + 127, 8, 0, "\xff\x7f"},
		{255 + 128, 8, 0, "\xff\x80\x01"},
		{255 + 16383, 8, 0, "\xff\xff\x7f"},
		{255 + 16384, 8, 0, "\xff\x80\x80\x01"},
		{255 + 2097151, 8, 0, "\xff\xff\xff\x7f"},
		{255 + 2097152, 8, 0, "\xff\x80\x80\x80\x01"},
		{1 << 28, 1, 128, "\x81\xff\xff\xff\x7f"},
		{1 << 28, 5, 0, "\x1f\xe1\xff\xff\x7f"},
		{1 << 28, 8, 0, "\xff\x81\xfe\xff\x7f"},
	} {
		if s := impl.Prefixed(c.n, c.bits, c.high); s != c.want {
			t.Errorf("Prefixed(%d, %d, %d): %q, not %q", c.n, c.bits, c.high, s, c.want)
		}
		if n, k := impl.ReadPrefixed(c.want, c.bits); n != c.n || k != int64(len(c.want)) {
			t.Errorf("ReadPrefixed(%q, %d): %d, %d", c.want, c.bits, n, k)
		}
		if high := impl.High(c.want, c.bits); high != c.high {
			t.Errorf("High(%q, %d): %d", c.want, c.bits, high)
		}
		if k := impl.Width(c.n, c.bits); k != int64(len(c.want)) {
			t.Errorf("Width(%d, %d): %d", c.n, c.bits, k)
		}
	}
}

func TestReadPrefixedOfPrefixedIsTheNumber(t *testing.T) {
	behind := []string{"", "x", "\x00", "\x80", "\xff\xff", strings.Repeat("\x80", 20), allBytes()}
	for bits := int64(1); bits <= 8; bits++ {
		highs := rightHighs(bits)
		for i, n := range someNumbers(bits) {
			k := impl.Width(n, bits)
			if (k == 1) != (n < 1<<bits-1) {
				t.Errorf("Width(%d, %d): %d", n, bits, k)
			}
			for j, high := range highs {
				s := impl.Prefixed(n, bits, high)
				if s != spelt(big.NewInt(n), bits, high, 0) || int64(len(s)) != k {
					t.Fatalf("Prefixed(%d, %d, %d): %q, of width %d", n, bits, high, s, k)
				}
				text := s + behind[(i+j)%len(behind)]
				if m, took := impl.ReadPrefixed(text, bits); m != n || took != k {
					t.Fatalf("ReadPrefixed(%q, %d): %d, %d", text, bits, m, took)
				}
				if got := impl.High(text, bits); got != high {
					t.Fatalf("High(%q, %d): %d", text, bits, got)
				}
			}
		}
	}
}

// Every text of two bytes, and every one of three that does not end with its first, holds just
// the number that Prefixed makes it of.
func TestReadPrefixedReadsNoOtherText(t *testing.T) {
	check := func(s string, bits int64, made map[string]int64) {
		wantN, wantK := int64(-1), int64(0)
		low := string([]byte{s[0] & (1<<bits - 1)}) + s[1:]
		for k := 1; k <= len(s); k++ {
			if n, is := made[low[:k]]; is {
				wantN, wantK = n, int64(k)
			}
		}
		if n, k := impl.ReadPrefixed(s, bits); n != wantN || k != wantK {
			t.Fatalf("ReadPrefixed(%q, %d): %d, %d, not %d, %d", s, bits, n, k, wantN, wantK)
		}
	}
	for bits := int64(1); bits <= 8; bits++ {
		full := int64(1)<<bits - 1
		made := map[string]int64{}
		for n := range full + 128*128 {
			made[impl.Prefixed(n, bits, 0)] = n
		}
		if int64(len(made)) != full+128*128 {
			t.Fatalf("%d bits: two numbers have one text", bits)
		}
		for two := range 1 << 16 {
			a, b := byte(two>>8), byte(two)
			check(string([]byte{a, b}), bits, made)
			check(string([]byte{byte(full), a, b}), bits, made)
			check(string([]byte{a | byte(full), b, a}), bits, made)
		}
		for a := range 256 {
			check(string([]byte{byte(a)}), bits, made)
		}
	}
}

func isNoPrefix(t *testing.T, s string, bits int64) {
	t.Helper()
	if n, k := impl.ReadPrefixed(s, bits); n != -1 || k != 0 {
		t.Errorf("ReadPrefixed(%.40q of %d bytes, %d): %d, %d", s, len(s), bits, n, k)
	}
}

func TestReadPrefixedOfATextThatEndsWithin(t *testing.T) {
	for bits := int64(1); bits <= 8; bits++ {
		isNoPrefix(t, "", bits)
		for _, n := range someNumbers(bits) {
			for _, high := range []int64{0, 256 - 1<<bits} {
				s := impl.Prefixed(n, bits, high)
				for k := range s {
					isNoPrefix(t, s[:k], bits)
				}
			}
		}
		full := string([]byte{1<<bits - 1})
		for _, k := range []int{1, 2, 3, 4, 5, 8, 9, 10, 18, 19, 64, 1 << 16} {
			isNoPrefix(t, full+strings.Repeat("\x80", k), bits)
			isNoPrefix(t, full+strings.Repeat("\xff", k), bits)
		}
	}
}

func TestReadPrefixedAboveMaxNumber(t *testing.T) {
	for bits := int64(1); bits <= 8; bits++ {
		for _, high := range []int64{0, 256 - 1<<bits} {
			for over := int64(1); over <= 300; over++ {
				isNoPrefix(t, spelt(big.NewInt(impl.MaxNumber+over), bits, high, 0), bits)
			}
			// A great power and a small number: where the power wraps round to 0, the small one is left.
			for power := uint(29); power <= 200; power++ {
				for _, small := range []int64{-1, 0, 5, 31, 300, 1000, 1 << 27} {
					n := new(big.Int).Lsh(big.NewInt(1), power)
					s := spelt(n.Add(n, big.NewInt(small)), bits, high, 0)
					isNoPrefix(t, s, bits)
					isNoPrefix(t, s+"\x00", bits)
				}
			}
		}
	}
}

func TestReadPrefixedWithMoreBytesThanPrefixedMakes(t *testing.T) {
	for bits := int64(1); bits <= 8; bits++ {
		full := int64(1)<<bits - 1
		for _, n := range someNumbers(bits) {
			if n < full {
				continue
			}
			for _, noughts := range []int{1, 2, 3, 4, 5, 8, 9, 10, 17, 18, 27, 36, 100} {
				s := spelt(big.NewInt(n), bits, 0, noughts)
				isNoPrefix(t, s, bits)
				isNoPrefix(t, s+"x", bits)
			}
		}
		isNoPrefix(t, spelt(big.NewInt(full), bits, 0, 1<<16), bits)
		isNoPrefix(t, spelt(big.NewInt(impl.MaxNumber), bits, 256-1<<bits, 1<<16), bits)
	}
}

func TestHigh(t *testing.T) {
	for bits := int64(1); bits <= 8; bits++ {
		for a := range int64(256) {
			want := a / (1 << bits) * (1 << bits)
			for _, behind := range []string{"", "x", "\xff\xff"} {
				s := string([]byte{byte(a)}) + behind
				if high := impl.High(s, bits); high != want {
					t.Errorf("High(%q, %d): %d, not %d", s, bits, high, want)
				}
			}
		}
		if high := impl.High("", bits); high != -1 {
			t.Errorf("High of nothing by %d: %d", bits, high)
		}
	}
}

func TestPrefixBitsOutOfRange(t *testing.T) {
	for _, bits := range wrongBits() {
		for _, n := range []int64{-1, 0, 1, 30, 31, 1000, impl.MaxNumber, impl.MaxNumber + 1} {
			for _, high := range []int64{0, 64, 128, 256} {
				if s := impl.Prefixed(n, bits, high); s != "" {
					t.Errorf("Prefixed(%d, %d, %d): %q", n, bits, high, s)
				}
			}
			if k := impl.Width(n, bits); k != 0 {
				t.Errorf("Width(%d, %d): %d", n, bits, k)
			}
		}
		for _, s := range []string{"", "\x00", "\x05", "\x1f\x00", "\x1f\xc9\x07", "\xff\x01", allBytes()} {
			isNoPrefix(t, s, bits)
			if high := impl.High(s, bits); high != -1 {
				t.Errorf("High(%q, %d): %d", s, bits, high)
			}
		}
	}
}

func TestPrefixedNumberOutOfRange(t *testing.T) {
	for bits := int64(1); bits <= 8; bits++ {
		for _, n := range []int64{-1, -2, -128, -impl.MaxNumber, impl.MaxNumber + 1, impl.MaxNumber + 256, 1 << 32, 1<<32 + 5, -1<<32 + 5, math.MinInt64, math.MaxInt64} {
			if s := impl.Prefixed(n, bits, 0); s != "" {
				t.Errorf("Prefixed(%d, %d, 0): %q", n, bits, s)
			}
			if k := impl.Width(n, bits); k != 0 {
				t.Errorf("Width(%d, %d): %d", n, bits, k)
			}
		}
	}
}

func TestPrefixedHighOutOfRange(t *testing.T) {
	for bits := int64(1); bits <= 8; bits++ {
		wrong := []int64{-1, -256, -1 << bits, 255, 256, 512, 256 + 1<<bits, 1 << 32, 1<<32 + 128, math.MinInt64, math.MaxInt64}
		for high := range int64(256) {
			if high%(1<<bits) != 0 {
				wrong = append(wrong, high)
			}
		}
		for _, high := range wrong {
			for _, n := range []int64{0, 1, 5, 300, impl.MaxNumber} {
				if s := impl.Prefixed(n, bits, high); s != "" {
					t.Errorf("Prefixed(%d, %d, %d): %q", n, bits, high, s)
				}
			}
		}
	}
}

// A text made over a buffer shows a write that a plain text would hide.
func TestPrefixArgumentsStayAndAnswersAreNewMemory(t *testing.T) {
	buffer := []byte("\x1f\xc9\x07\x1f\x80\x80\x80\x80\x80\x00")
	before := string(buffer)
	for from := range buffer {
		for bits := int64(0); bits <= 9; bits++ {
			s := unsafe.String(&buffer[from], len(buffer)-from)
			impl.ReadPrefixed(s, bits)
			impl.High(s, bits)
		}
	}
	if string(buffer) != before {
		t.Errorf("an argument was written into: %q", buffer)
	}
	a, b := impl.Prefixed(1000, 5, 0), impl.Prefixed(1000, 5, 0)
	if a != b || share(a, b) {
		t.Errorf("two answers share memory: %q, %q", a, b)
	}
}
