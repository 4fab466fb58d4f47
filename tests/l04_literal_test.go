package tests

import (
	"math/big"
	"strconv"
	"strings"
	"testing"
	"unsafe"

	"loop.example/g00296/impl"
)

// allSigns stand at their numbers.
const allSigns = "abcdefghijklmnopqrstuvwxyz-./:="

// someSigns are n signs, others for another seed.
func someSigns(n int, seed uint32) string {
	made := make([]byte, n)
	for i := range made {
		seed = seed*1664525 + 1013904223
		made[i] = allSigns[seed>>8%31]
	}
	return string(made)
}

// someTextsOfSigns are texts of every length from 0 to MaxText, at some lengths of each sign alone.
func someTextsOfSigns() []string {
	var texts []string
	for n := 0; n <= impl.MaxText; n++ {
		for seed := range uint32(8) {
			texts = append(texts, someSigns(n, seed))
		}
		texts = append(texts, strings.Repeat("a", n), strings.Repeat("=", n), someSigns(max(n-1, 0), 9)+"=")
	}
	for _, n := range []int{1, 2, 3, 4, 5, 6, 7, 8, 9, 16} {
		for i := range allSigns {
			texts = append(texts, strings.Repeat(allSigns[i:i+1], n))
		}
	}
	return texts
}

// packedAsWritten packs by digits, as the document tells it.
func packedAsWritten(s string) string {
	digits := ""
	for i := range len(s) {
		five := strconv.FormatInt(int64(strings.IndexByte(allSigns, s[i])), 2)
		digits += strings.Repeat("0", 5-len(five)) + five
	}
	for len(digits)%8 != 0 {
		digits += "1"
	}
	var made []byte
	for ; digits != ""; digits = digits[8:] {
		n, _ := strconv.ParseUint(digits[:8], 2, 8)
		made = append(made, byte(n))
	}
	return string(made)
}

func notPacked(t *testing.T, s string) {
	t.Helper()
	if p, is := impl.Packed(s); is || p != "" {
		t.Errorf("Packed(%q): %q, %v", s, p, is)
	}
}

func notUnpacked(t *testing.T, s string) {
	t.Helper()
	if p, is := impl.Unpacked(s); is || p != "" {
		t.Errorf("Unpacked(%q): %q, %v", s, p, is)
	}
}

func isNoLiteral(t *testing.T, s string) {
	t.Helper()
	if text, n := impl.ReadLiteral(s); text != "" || n != 0 {
		t.Errorf("ReadLiteral(%q): %q, %d", s, text, n)
	}
}

func TestPackedAsWritten(t *testing.T) {
	if impl.MaxText != 200 {
		t.Error("MaxText", impl.MaxText)
	}
	for _, c := range []struct{ text, packed string }{
		{"", ""},
		{"a", "\x07"},       // 00000 111
		{"b", "\x0f"},       // 00001 111
		{"z", "\xcf"},       // 11001 111
		{"-", "\xd7"},       // 11010 111
		{".", "\xdf"},       // 11011 111
		{"/", "\xe7"},       // 11100 111
		{":", "\xef"},       // 11101 111
		{"=", "\xf7"},       // 11110 111
		{"ab", "\x00\x7f"},  // 00000 00001 111111
		{"==", "\xf7\xbf"},  // 11110 11110 111111
		{"z-", "\xce\xbf"},  // 11001 11010 111111
		{"abc", "\x00\x45"}, // 00000 00001 00010 1
		{"===", "\xf7\xbd"}, // 11110 11110 11110 1
		{"az-", "\x06\x75"}, // 00000 11001 11010 1
		{"q:/", "\x87\x79"}, // 10000 11101 11100 1
		{"abc=", "\x00\x45\xef"},
		{"aaaaa", "\x00\x00\x00\x7f"},
		{"aaaaaa", "\x00\x00\x00\x03"},
		{"aaaaaaa", "\x00\x00\x00\x00\x1f"},
		{"aaaaaaaa", "\x00\x00\x00\x00\x00"},
		{"aaaaaaaaa", "\x00\x00\x00\x00\x00\x07"},
		{"=======", "\xf7\xbd\xef\x7b\xdf"},
		{"========", "\xf7\xbd\xef\x7b\xde"},
		{"=========", "\xf7\xbd\xef\x7b\xde\xf7"},
		{strings.Repeat("a", 200), strings.Repeat("\x00", 125)},
		{strings.Repeat("=", 200), strings.Repeat("\xf7\xbd\xef\x7b\xde", 25)},
		{strings.Repeat("=", 199), strings.Repeat("\xf7\xbd\xef\x7b\xde", 24) + "\xf7\xbd\xef\x7b\xdf"},
	} {
		if p, is := impl.Packed(c.text); !is || p != c.packed {
			t.Errorf("Packed(%q): %q, %v, not %q", c.text, p, is, c.packed)
		}
		if s, is := impl.Unpacked(c.packed); !is || s != c.text {
			t.Errorf("Unpacked(%q): %q, %v, not %q", c.packed, s, is, c.text)
		}
	}
}

func TestUnpackedOfPackedIsTheText(t *testing.T) {
	for _, text := range someTextsOfSigns() {
		p, is := impl.Packed(text)
		if !is || p != packedAsWritten(text) {
			t.Fatalf("Packed(%q): %q, %v", text, p, is)
		}
		if s, is := impl.Unpacked(p); !is || s != text {
			t.Fatalf("Unpacked(%q): %q, %v, not %q", p, s, is, text)
		}
	}
}

func TestPackedOfATextWithAnotherByte(t *testing.T) {
	for b := range 256 {
		other := string([]byte{byte(b)})
		if strings.Contains(allSigns, other) {
			continue
		}
		for _, ahead := range []int{0, 1, 6, 7, 8, 199} {
			notPacked(t, someSigns(ahead, 1)+other)
			for _, behind := range []int{1, 7, 8, 199 - ahead} {
				notPacked(t, someSigns(ahead, 2)+other+someSigns(behind, 3))
			}
		}
	}
}

func TestPackedOfTooManySigns(t *testing.T) {
	for _, n := range []int{201, 202, 207, 208, 400, 1 << 16} {
		notPacked(t, strings.Repeat("a", n))
		notPacked(t, strings.Repeat("=", n))
		notPacked(t, someSigns(n, 4))
	}
}

// Each text of at most two bytes, and many of three and four, are unpacked where Packed makes them.
func TestUnpackedOfNoOtherText(t *testing.T) {
	made := map[string]string{}
	texts := []string{""}
	for range 4 {
		var longer []string
		for _, text := range texts {
			made[packedAsWritten(text)] = text
			for i := range allSigns {
				longer = append(longer, text+allSigns[i:i+1])
			}
		}
		texts = longer
	}
	for two := range 1 << 16 {
		a, b := byte(two>>8), byte(two)
		for _, s := range []string{string([]byte{b}), string([]byte{a, b})} {
			text, is := impl.Unpacked(s)
			want, wanted := made[s]
			if is != wanted || text != want {
				t.Fatalf("Unpacked(%q): %q, %v, not %q, %v", s, text, is, want, wanted)
			}
		}
	}
	for three := 0; three < 1<<24; three += 5 {
		s := string([]byte{byte(three >> 16), byte(three >> 8), byte(three)})
		isPackedOrNothing(t, s, 4)
		if three%11 == 0 {
			isPackedOrNothing(t, s+"\xff", 5)
			isPackedOrNothing(t, s+"\x7f", 5)
		}
	}
}

// isPackedOrNothing looks at a text of as many bytes as packed signs take: it is packed where
// each sign's number is one, and all bits behind them are 1.
func isPackedOrNothing(t *testing.T, s string, signs int) {
	t.Helper()
	text, is := impl.Unpacked(s)
	digits := ""
	for i := range len(s) {
		eight := strconv.FormatInt(int64(s[i]), 2)
		digits += strings.Repeat("0", 8-len(eight)) + eight
	}
	for n := signs; n <= 8*len(s)/5; n++ {
		rest := digits[5*n:]
		if len(rest) >= 8 || strings.Contains(rest, "0") {
			continue
		}
		want := ""
		for i := range n {
			number, _ := strconv.ParseUint(digits[5*i:5*i+5], 2, 8)
			if number < 31 {
				want += allSigns[number : number+1]
			}
		}
		if len(want) == n {
			if !is || text != want {
				t.Fatalf("Unpacked(%q): %q, %v, not %q", s, text, is, want)
			}
			return
		}
	}
	if is || text != "" {
		t.Fatalf("Unpacked(%q): %q, %v", s, text, is)
	}
}

// What is left of the last byte must be ones, however many bits that are.
func TestUnpackedWithLeftBitsThatAreNotOnes(t *testing.T) {
	for n := 1; n <= 40; n++ {
		text := someSigns(n, uint32(n))
		p, _ := impl.Packed(text)
		last := p[len(p)-1]
		left := 8*len(p) - 5*n
		for zero := range left {
			changed := last &^ (1 << zero)
			s := p[:len(p)-1] + string([]byte{changed})
			got, is := impl.Unpacked(s)
			// Where five bits are left, one 0 among them makes them a sign, and the text another one.
			if is && (left < 5 || packedAsWritten(got) != s) || !is && got != "" {
				t.Errorf("Unpacked(%q) with bit %d of %d left ones 0: %q, %v", s, zero, left, got, is)
			}
		}
	}
	for _, s := range []string{
		"\x00", "\x06", "\x05", "\x03", "\xcb", // a byte holds one sign and three bits
		"\x00\x3e",         // 00000 00000 11111 0
		"\x00\x00\x00",     // four signs and four bits
		"\x00\x00\x07",     // the first of the four is 0
		"\x00\x00\x0e",     // the last is
		"\x00\x00\x00\x02", // six signs and two bits
		"\x00\x00\x00\x01",
		"\x00\x00\x00\x7e", // 31 as the sixth number, and then 10
		"\x00\x00\x00\x7d",
	} {
		notUnpacked(t, s)
	}
}

func TestUnpackedWithAWholeByteTooMany(t *testing.T) {
	for n := 0; n <= 200; n++ {
		p, _ := impl.Packed(someSigns(n, 5))
		notUnpacked(t, p+"\xff")
		notUnpacked(t, p+"\xff\xff")
		if n > 0 && 5*n%8 != 0 {
			// The ones that were left are followed by more, which Packed never does.
			if s, is := impl.Unpacked(p + "\x00"); is && packedAsWritten(s) != p+"\x00" {
				t.Errorf("Unpacked(%q): %q", p+"\x00", s)
			}
		}
	}
}

func TestUnpackedWithANumber31AheadOfTheEnd(t *testing.T) {
	for n := 8; n <= 200; n += 8 {
		p := []byte(packedAsWritten(someSigns(n, 6)))
		for at := 0; at < n; at++ {
			changed := append([]byte(nil), p...)
			for bit := 5 * at; bit < 5*at+5; bit++ {
				changed[bit/8] |= 128 >> (bit % 8)
			}
			if at == n-1 {
				// The last five are then what is left behind one sign less.
				continue
			}
			notUnpacked(t, string(changed))
		}
	}
	notUnpacked(t, "\xff")
	notUnpacked(t, "\xf8")
	notUnpacked(t, "\x07\xff")
	notUnpacked(t, "\x07\xc0")
	notUnpacked(t, strings.Repeat("\xff", 125))
}

func TestUnpackedOfMoreThanMaxTextSigns(t *testing.T) {
	for _, n := range []int{201, 202, 203, 204, 205, 206, 207, 208, 209, 400, 1000} {
		notUnpacked(t, packedAsWritten(strings.Repeat("a", n)))
		notUnpacked(t, packedAsWritten(someSigns(n, 7)))
	}
	notUnpacked(t, strings.Repeat("\x00", 1<<16))
}

func TestLiteralAsWritten(t *testing.T) {
	x126, x127, x128 := strings.Repeat("X", 126), strings.Repeat("X", 127), strings.Repeat("X", 128)
	x200 := strings.Repeat("X", 200)
	for _, c := range []struct{ text, literal string }{
		{"", "\x00"},
		{"a", "\x01a"}, // one sign takes one byte, packed or not
		{"=", "\x01="},
		{"Q", "\x01Q"},
		{"\x00", "\x01\x00"},
		{"\xff", "\x01\xff"},
		{"ab", "\x02ab"}, // two take two
		{"abc", "\x82\x00\x45"},
		{"abC", "\x03abC"},
		{"a c", "\x03a c"},
		{"abc=", "\x83\x00\x45\xef"},
		{"aaaaaaa", "\x85\x00\x00\x00\x00\x1f"},
		{"aaaaaaaa", "\x85\x00\x00\x00\x00\x00"},
		{"aaaaaaaaa", "\x86\x00\x00\x00\x00\x00\x07"},
		{"aaaaaaaaA", "\x09aaaaaaaaA"},
		{x126, "\x7e" + x126},
		{x127, "\x7f\x00" + x127},
		{x128, "\x7f\x01" + x128},
		{x200, "\x7f\x49" + x200},
		{strings.Repeat("a", 199) + "A", "\x7f\x49" + strings.Repeat("a", 199) + "A"},
		{strings.Repeat("a", 200), "\xfd" + strings.Repeat("\x00", 125)},
	} {
		if l := impl.Literal(c.text); l != c.literal {
			t.Errorf("Literal(%q): %q, not %q", c.text, l, c.literal)
		}
		if s, n := impl.ReadLiteral(c.literal); s != c.text || n != int64(len(c.literal)) {
			t.Errorf("ReadLiteral(%q): %q, %d", c.literal, s, n)
		}
	}
}

// somePlainTexts have a byte that is no sign, at every length and in every place of some.
func somePlainTexts() []string {
	texts := []string{allBytes()[:200], allBytes()[56:], "é", "über/wege", "\x80", "\xff\xff\xff"}
	for n := 1; n <= impl.MaxText; n++ {
		at := n * 7 % n
		texts = append(texts, strings.Repeat("X", n), someSigns(n-1, 8)+"A", "\xff"+someSigns(n-1, 8),
			someSigns(at, 9)+"\x00"+someSigns(n-1-at, 10))
	}
	for b := range 256 {
		texts = append(texts, string([]byte{byte(b)}), string([]byte{'a', 'b', byte(b), 'c'}))
	}
	return texts
}

func TestReadLiteralOfLiteralIsTheText(t *testing.T) {
	behind := []string{"", "x", "\x00", "\xff", "\x80\x80", "\x82\x00\x45", strings.Repeat("\xff", 300), allBytes()}
	for i, text := range append(someTextsOfSigns(), somePlainTexts()...) {
		want := impl.Prefixed(int64(len(text)), 7, 0) + text
		if strings.Trim(text, allSigns) == "" && len(packedAsWritten(text)) < len(text) {
			p := packedAsWritten(text)
			want = impl.Prefixed(int64(len(p)), 7, 128) + p
		}
		l := impl.Literal(text)
		if l != want {
			t.Fatalf("Literal(%q): %q, not %q", text, l, want)
		}
		for _, more := range []string{"", behind[i%len(behind)], behind[(i/8+3)%len(behind)]} {
			if s, n := impl.ReadLiteral(l + more); s != text || n != int64(len(l)) {
				t.Fatalf("ReadLiteral(%q): %q, %d, not %q", l+more, s, n, text)
			}
		}
	}
}

// Each text of two bytes, and those of three whose first byte tells a length near theirs, begin
// with the literal that Literal makes of a text, or with none.
func TestReadLiteralReadsNoOtherText(t *testing.T) {
	made := map[string]string{impl.Literal(""): ""}
	for two := range 1 << 16 {
		a, b := string([]byte{byte(two >> 8)}), string([]byte{byte(two)})
		made[impl.Literal(b)] = b
		made[impl.Literal(a+b)] = a + b
	}
	for i := range 31 * 31 * 31 {
		text := string([]byte{allSigns[i/961], allSigns[i/31%31], allSigns[i%31]})
		made[impl.Literal(text)] = text
	}
	if len(made) != 1+1<<8+1<<16+31*31*31 {
		t.Fatalf("two texts have one literal: %d", len(made))
	}
	check := func(s string) {
		want, wantN := "", int64(0)
		for k := 1; k <= len(s); k++ {
			if text, is := made[s[:k]]; is {
				want, wantN = text, int64(k)
			}
		}
		if text, n := impl.ReadLiteral(s); text != want || n != wantN {
			t.Fatalf("ReadLiteral(%q): %q, %d, not %q, %d", s, text, n, want, wantN)
		}
	}
	for a := range 256 {
		check(string([]byte{byte(a)}))
	}
	for two := range 1 << 16 {
		a, b := byte(two>>8), byte(two)
		check(string([]byte{a, b}))
		for _, first := range []byte{0, 1, 2, 3, 4, 126, 127, 128, 129, 130, 131, 132, 254, 255} {
			check(string([]byte{first, a, b}))
		}
	}
}

func TestLiteralOfTooManyBytes(t *testing.T) {
	for _, n := range []int{201, 202, 256, 1 << 16} {
		for _, text := range []string{strings.Repeat("a", n), strings.Repeat("X", n), someSigns(n-1, 11) + "\xff"} {
			if l := impl.Literal(text); l != "" {
				t.Errorf("Literal of %d bytes: %q", n, l)
			}
		}
	}
}

func TestReadLiteralThatEndsAheadOfItsText(t *testing.T) {
	isNoLiteral(t, "")
	for i, text := range append(someTextsOfSigns(), somePlainTexts()...) {
		l := impl.Literal(text)
		for _, k := range []int{0, 1, 2, len(l) / 2, len(l) - 2, len(l) - 1, i % len(l)} {
			if 0 <= k && k < len(l) {
				isNoLiteral(t, l[:k])
			}
		}
	}
	for _, n := range []int64{1, 126, 127, 200, 201, impl.MaxNumber} {
		isNoLiteral(t, impl.Prefixed(n, 7, 0))
		isNoLiteral(t, impl.Prefixed(n, 7, 128))
	}
}

func TestReadLiteralOfALengthAboveWhatIsLet(t *testing.T) {
	for _, n := range []int{201, 202, 255, 256, 1000, 1 << 16} {
		isNoLiteral(t, impl.Prefixed(int64(n), 7, 0)+strings.Repeat("X", n))
		isNoLiteral(t, impl.Prefixed(int64(n), 7, 0)+strings.Repeat("X", n)+"behind")
	}
	for _, n := range []int{201, 202, 205, 208, 400} {
		p := packedAsWritten(strings.Repeat("a", n))
		isNoLiteral(t, impl.Prefixed(int64(len(p)), 7, 128)+p)
	}
	for power := uint(28); power <= 140; power++ {
		n := new(big.Int).Lsh(big.NewInt(1), power)
		n.Add(n, big.NewInt(5))
		isNoLiteral(t, spelt(n, 7, 0, 0)+strings.Repeat("X", 300))
		isNoLiteral(t, spelt(n, 7, 128, 0)+strings.Repeat("\x00", 300))
	}
}

func TestReadLiteralWithAnotherLengthThanPrefixedMakes(t *testing.T) {
	for _, n := range []int{127, 128, 150, 200} {
		for _, noughts := range []int{1, 2, 3, 9, 10} {
			isNoLiteral(t, spelt(big.NewInt(int64(n)), 7, 0, noughts)+strings.Repeat("X", n))
		}
	}
}

func TestReadLiteralThatIsPlainWhereLiteralPacks(t *testing.T) {
	for n := 3; n <= impl.MaxText; n++ {
		s := impl.Prefixed(int64(n), 7, 0) + someSigns(n, 12)
		isNoLiteral(t, s)
		isNoLiteral(t, s+"Q")
	}
}

func TestReadLiteralThatIsPackedWhereLiteralIsPlain(t *testing.T) {
	isNoLiteral(t, "\x80")
	isNoLiteral(t, "\x80abc")
	for i := range allSigns {
		one := allSigns[i : i+1]
		isNoLiteral(t, "\x81"+packedAsWritten(one))
		for j := range allSigns {
			isNoLiteral(t, "\x82"+packedAsWritten(one+allSigns[j:j+1]))
		}
	}
}

func TestReadLiteralWhosePackedRestIsNotWhatPackedMakes(t *testing.T) {
	for _, rest := range []string{
		"\x00\x00", "\x00\x44", "\xff\xff", "\xff\xff\xff", "\x00\x45\xff", "\x00\x00\x00\x00", "abc", "\x00\x45\xe0",
		"\x00\x00\x00\x00\x00\xff", strings.Repeat("\xff", 125), "\xf8" + strings.Repeat("\x00", 124),
	} {
		s := impl.Prefixed(int64(len(rest)), 7, 128) + rest
		if _, is := impl.Unpacked(rest); is {
			t.Errorf("%q is a packed one", rest)
		}
		isNoLiteral(t, s)
		isNoLiteral(t, s+"\xff")
	}
}

// A text made over a buffer shows a write that a plain text would hide, and memory that an
// answer has in common with it.
func TestLiteralArgumentsStayAndAnswersAreNewMemory(t *testing.T) {
	var arguments []string
	for _, text := range []string{"", "a", "ab", "abc", "Q", "abcdefgh", "not signs", allBytes(), strings.Repeat("a", 200), "\x07", "\x00\x45"} {
		arguments = append(arguments, text, impl.Literal(text), impl.Literal(text)+"behind", "\x03"+text, "\x83"+text)
	}
	for _, text := range arguments {
		buffer := append([]byte(text), 0xa5)
		s := unsafe.String(&buffer[0], len(text))
		packed, _ := impl.Packed(s)
		unpacked, _ := impl.Unpacked(s)
		read, _ := impl.ReadLiteral(s)
		literal := impl.Literal(s)
		if string(buffer) != text+"\xa5" {
			t.Errorf("%q was written into: %q", text, buffer)
		}
		for i, answer := range []string{packed, unpacked, read, literal} {
			if share(answer, s) {
				t.Errorf("answer %d of %q shares its memory", i, text)
			}
		}
	}
}
