package tests

import (
	"fmt"
	"math"
	"math/big"
	"regexp"
	"slices"
	"strings"
	"testing"

	"loop.example/g00296/impl"
)

// lastMac is the greatest number that is left of a division by 2147483647.
const lastMac = 2147483646

// macAsWritten goes through all bytes one behind the other, with numbers that can't wrap round.
func macAsWritten(key, text string) int64 {
	h := big.NewInt(17)
	for _, b := range []byte(key + "\n" + text + "\n" + key) {
		h.Mul(h, big.NewInt(1000003))
		h.Add(h, big.NewInt(int64(b)+1))
		h.Mod(h, big.NewInt(2147483647))
	}
	return h.Int64()
}

var nameAsWritten = regexp.MustCompile(`\A[a-z]{1,20}\z`)

func tokenAsWritten(name string, until int64, key string) string {
	if !nameAsWritten.MatchString(name) || until < 0 || until > lastTime || len(key) > 40 {
		return ""
	}
	head := fmt.Sprintf("%s.%d", name, until)
	return fmt.Sprintf("%s.%d", head, macAsWritten(key, head))
}

var partsAsWritten = regexp.MustCompile(`\A([a-z]{1,20})\.(0|[1-9][0-9]{0,8})\.(0|[1-9][0-9]{0,9})\z`)

func readAsWritten(s string) (string, int64, bool) {
	parts := partsAsWritten.FindStringSubmatch(s)
	if parts == nil {
		return "", 0, false
	}
	var until, mac int64
	fmt.Sscan(parts[2], &until)
	fmt.Sscan(parts[3], &mac)
	if until > lastTime || mac > lastMac {
		return "", 0, false
	}
	return parts[1], until, true
}

func signedAsWritten(s, key string, now int64) bool {
	name, until, is := readAsWritten(s)
	return is && s == tokenAsWritten(name, until, key) && until > now
}

// listedAsWritten holds each end of target against what is behind the *.
func listedAsWritten(list []string, target string) bool {
	if len(list) > 20 || len(target) < 1 || len(target) > 60 {
		return false
	}
	for _, text := range list {
		if len(text) > 60 {
			return false
		}
	}
	for from := 0; from <= len(target); from++ {
		if slices.Contains(list, "*"+target[from:]) {
			return true
		}
	}
	return slices.Contains(list, target)
}

func isMac(t *testing.T, key, text string, mac int64) {
	t.Helper()
	if got := impl.Mac(key, text); got != mac {
		t.Fatalf("Mac(%q, %q): %d, not %d", key, text, got, mac)
	}
}

func isToken(t *testing.T, name string, until int64, key, token string) {
	t.Helper()
	if got := impl.Token(name, until, key); got != token {
		t.Fatalf("Token(%q, %d, %q): %q, not %q", name, until, key, got, token)
	}
}

func isRead(t *testing.T, s, name string, until int64, right bool) {
	t.Helper()
	if n, u, is := impl.ReadToken(s); n != name || u != until || is != right {
		t.Fatalf("ReadToken(%q): %q, %d, %v, not %q, %d, %v", s, n, u, is, name, until, right)
	}
}

func isSigned(t *testing.T, s, key string, now int64, signed bool) {
	t.Helper()
	if got := impl.Signed(s, key, now); got != signed {
		t.Fatalf("Signed(%q, %q, %d): %v, not %v", s, key, now, got, signed)
	}
}

// isListed asks that the list is as it was, too.
func isListed(t *testing.T, list []string, target string, listed bool) {
	t.Helper()
	was := slices.Clone(list)
	if got := impl.Listed(list, target); got != listed || !slices.Equal(list, was) {
		t.Fatalf("Listed(%q, %q): %v, not %v; the list is %q", was, target, got, listed, list)
	}
}

// tokensAsWritten asks all that hangs on a name, an until and a key.
func tokensAsWritten(t *testing.T, name string, until int64, key string) {
	t.Helper()
	token := tokenAsWritten(name, until, key)
	isToken(t, name, until, key, token)
	readsAsWritten(t, token, key, until)
}

// readsAsWritten asks who signed a text, too, around until.
func readsAsWritten(t *testing.T, s, key string, until int64) {
	t.Helper()
	name, last, is := readAsWritten(s)
	isRead(t, s, name, last, is)
	for _, now := range numbers(math.MinInt64, -1, 0, until-1, until, until+1, lastTime, math.MaxInt64) {
		isSigned(t, s, key, now, signedAsWritten(s, key, now))
	}
}

func rightNames() []string {
	return []string{"a", "z", "m", "anna", "az", "za", "zz", "abcdefghijklmnopqrs", "abcdefghijklmnopqrst", "ghijklmnopqrstuvwxyz", strings.Repeat("a", 20), strings.Repeat("z", 20)}
}

// wrongNames are too short, too long, or have one byte of each that is no letter from a to z, at each place.
func wrongNames() []string {
	list := []string{"", strings.Repeat("a", 21), strings.Repeat("z", 21), strings.Repeat("a", 22), strings.Repeat("a", 276), strings.Repeat("a", 65537), "\u00e4", "ann\u00e4", "\u0430", "anna.", ".anna", "an.na", " anna", "anna ", "anna\n", "\nanna", "anna\x00"}
	for b := range 256 {
		if b >= 'a' && b <= 'z' {
			continue
		}
		x := string([]byte{byte(b)})
		list = append(list, x, x+"nna", "an"+x+"a", "ann"+x, strings.Repeat("a", 19)+x, strings.Repeat("a", 20)+x, x+strings.Repeat("a", 19))
	}
	return list
}

func rightUntils() []int64 {
	return numbers(0, 1, 2, 9, 10, 11, 50, 99, 100, 999, 1000, 65535, 65536, 99999, 100000, 100001, 999999, 1000000)
}

func wrongUntils() []int64 {
	return append(numbers(-1, -50, 1000001, 1000002, 9999999, 1<<32+50), farNumbers()...)
}

func rightKeys() []string {
	return []string{"", "k", "k1", "k2", "\n", "\n\n", ".", "\x00", "\xff", "\x00\xff", "anna", "a key", "jlsbdhe", "eixeooa", strings.Repeat("k", 39), strings.Repeat("k", 40), strings.Repeat("\x00", 40), strings.Repeat("\xff", 40), allBytes()[:40], allBytes()[216:]}
}

func wrongKeys() []string {
	return []string{strings.Repeat("k", 41), strings.Repeat("\x00", 41), strings.Repeat("\xff", 41), strings.Repeat("k", 42), strings.Repeat("k", 80), allBytes(), strings.Repeat("k", 296), strings.Repeat("k", 65537)}
}

func TestMac(t *testing.T) {
	for _, c := range []struct {
		key, text string
		mac       int64
	}{
		{"k1", "anna.50", 2047271917}, {"k2", "anna.50", 2113419944}, {"k1", "z.0", 2096669914}, {"k1", strings.Repeat("a", 20) + ".1000000", 688729583},
		// No key, no text, neither.
		{"", "", 632450545}, {"a", "", 1951430606}, {"", "a", 1415441231}, {"", "a.0", 1748216238},
		// Where the key ends tells; a byte 10 is one like others.
		{"ab", "c", 73066006}, {"a", "bc", 1036374084}, {"\n", "", 833870486}, {"", "\n", 1328440970}, {"", "\n\n", 833870486}, {"\n", "\n", 792514075},
		// The first byte and the last one.
		{"\x00", "\xff", 1282397950}, {"\xff", "\x00", 1693230628},
		// Nothing is too long for it.
		{strings.Repeat("k", 40), "anna.50", 24370108}, {strings.Repeat("k", 41), "anna.50", 1908139634},
		{strings.Repeat("\xff", 1000), strings.Repeat("\xff", 1000), 1867483917}, {strings.Repeat("\x00", 1000), strings.Repeat("\x00", 1000), 1324541991},
		// The least and the greatest there are.
		{"jlsbdhe", "anna.50", 0}, {"bclgbid", "anna.50", 1}, {"eixeooa", "anna.50", lastMac},
		// One of two keys, but not of each text.
		{"k2302", "anna.50", 1609771647}, {"k42035", "anna.50", 1609771647}, {"k2302", "anna.51", 1523930598}, {"k42035", "anna.51", 1667070031},
	} {
		isMac(t, c.key, c.text, c.mac)
		if macAsWritten(c.key, c.text) != c.mac {
			t.Errorf("by the tests' own %q and %q: %d", c.key, c.text, macAsWritten(c.key, c.text))
		}
	}
}

func TestMacOfEachByte(t *testing.T) {
	for b := range 256 {
		x := string([]byte{byte(b)})
		for _, pair := range [][2]string{{x, ""}, {"", x}, {x, x}, {x + "a", "b" + x}, {"a" + x, x + "b"}, {strings.Repeat(x, 40), strings.Repeat(x, 28)}, {"k1", "an" + x + "a"}, {"k" + x, "anna.50"}} {
			isMac(t, pair[0], pair[1], macAsWritten(pair[0], pair[1]))
		}
	}
	for n := range 300 {
		key, text := strings.Repeat("k\xff", n), strings.Repeat("t\x00", n)
		isMac(t, key, "anna", macAsWritten(key, "anna"))
		isMac(t, "k1", text, macAsWritten("k1", text))
	}
	s := source{seed: 14}
	for range 5000 {
		key, text := s.text(s.next(50)), s.text(s.next(70))
		isMac(t, key, text, macAsWritten(key, text))
	}
}

func TestToken(t *testing.T) {
	twenty, forty := strings.Repeat("a", 20), strings.Repeat("k", 40)
	for _, c := range []struct {
		name  string
		until int64
		key   string
		token string
	}{
		{"anna", 50, "k1", "anna.50.2047271917"}, {"anna", 50, "k2", "anna.50.2113419944"}, {"z", 0, "k1", "z.0.2096669914"}, {"a", 0, "", "a.0.1748216238"},
		{twenty, 1000000, "k1", twenty + ".1000000.688729583"}, {"anna", 50, forty, "anna.50.24370108"},
		{"anna", 50, "jlsbdhe", "anna.50.0"}, {"anna", 50, "bclgbid", "anna.50.1"}, {"anna", 50, "eixeooa", "anna.50.2147483646"},
		// The name, the until, the key.
		{"", 50, "k1", ""}, {twenty + "a", 50, "k1", ""}, {"`", 50, "k1", ""}, {"{", 50, "k1", ""}, {"ann`", 50, "k1", ""}, {"ann{", 50, "k1", ""}, {"Anna", 50, "k1", ""}, {"annA", 50, "k1", ""}, {"ann1", 50, "k1", ""}, {"7", 50, "k1", ""}, {"an.na", 50, "k1", ""}, {".", 50, "k1", ""}, {"\x00", 50, "k1", ""}, {"ann\xff", 50, "k1", ""}, {"an na", 50, "k1", ""},
		{"anna", -1, "k1", ""}, {"anna", 1000001, "k1", ""}, {"anna", math.MinInt64, "k1", ""}, {"anna", math.MaxInt64, "k1", ""},
		{"anna", 50, forty + "k", ""}, {"anna", 50, strings.Repeat("k", 41), ""}, {"anna", 50, allBytes(), ""}, {"", -1, allBytes(), ""}, {"", 0, "", ""},
	} {
		isToken(t, c.name, c.until, c.key, c.token)
		if tokenAsWritten(c.name, c.until, c.key) != c.token {
			t.Errorf("by the tests' own %q, %d and %q: %q", c.name, c.until, c.key, tokenAsWritten(c.name, c.until, c.key))
		}
	}
}

func TestTokensAtEachEdge(t *testing.T) {
	for _, name := range rightNames() {
		for _, until := range rightUntils() {
			for _, key := range rightKeys() {
				tokensAsWritten(t, name, until, key)
				if impl.Token(name, until, key) == "" {
					t.Fatalf("there is no Token of %q, %d, %q", name, until, key)
				}
			}
		}
	}
}

func TestNoTokenOfWhatIsNotRight(t *testing.T) {
	for _, name := range wrongNames() {
		for _, until := range numbers(0, 50, 1000000, -1, 1000001) {
			isToken(t, name, until, "k1", "")
			isToken(t, name, until, "", "")
			isToken(t, name, until, wrongKeys()[0], "")
		}
	}
	for _, name := range append(rightNames(), "") {
		for _, until := range wrongUntils() {
			for _, key := range append(rightKeys(), wrongKeys()...) {
				isToken(t, name, until, key, "")
			}
		}
		for _, until := range rightUntils() {
			for _, key := range wrongKeys() {
				isToken(t, name, until, key, "")
			}
		}
	}
}

func TestReadToken(t *testing.T) {
	twenty := strings.Repeat("a", 20)
	for _, c := range []struct {
		s     string
		name  string
		until int64
		right bool
	}{
		// The last number is only read: it need be nobody's Mac.
		{"anna.50.2047271917", "anna", 50, true}, {"anna.50.7", "anna", 50, true}, {"anna.50.0", "anna", 50, true}, {"anna.50.2147483646", "anna", 50, true}, {"anna.50.2147483647", "", 0, false}, {"anna.50.2147483648", "", 0, false},
		{"anna.50.1000000000", "anna", 50, true}, {"anna.50.999999999", "anna", 50, true}, {"anna.50.9999999999", "", 0, false}, {"anna.50.10000000000", "", 0, false}, {"anna.50.21474836460", "", 0, false}, {"anna.50.02147483646", "", 0, false}, {"anna.50.00000000007", "", 0, false},
		{"anna.50.4294967296", "", 0, false}, {"anna.50.4294967303", "", 0, false}, {"anna.50.9223372036854775807", "", 0, false}, {"anna.50.18446744073709551616", "", 0, false}, {"anna.50.18446744073709551623", "", 0, false}, {"anna.50." + strings.Repeat("9", 1000), "", 0, false},
		// Names.
		{"a.50.7", "a", 50, true}, {"z.50.7", "z", 50, true}, {twenty + ".50.7", twenty, 50, true}, {twenty + "a.50.7", "", 0, false}, {".50.7", "", 0, false}, {"ann`.50.7", "", 0, false}, {"ann{.50.7", "", 0, false}, {"Anna.50.7", "", 0, false}, {"ann1.50.7", "", 0, false}, {"50.50.7", "", 0, false}, {"-.50.7", "", 0, false},
		// Untils.
		{"anna.0.7", "anna", 0, true}, {"anna.1.7", "anna", 1, true}, {"anna.999999.7", "anna", 999999, true}, {"anna.1000000.7", "anna", 1000000, true}, {"anna.1000001.7", "", 0, false}, {"anna.-1.7", "", 0, false}, {"anna.-0.7", "", 0, false}, {"anna.-50.7", "", 0, false}, {"anna.9999999.7", "", 0, false}, {"anna.10000000.7", "", 0, false}, {"anna.999999999.7", "", 0, false}, {"anna.1000000000.7", "", 0, false},
		{"anna.4294967346.7", "", 0, false}, {"anna.18446744073709551666.7", "", 0, false}, {"anna.-18446744073709551566.7", "", 0, false}, {"anna.9223372036854775807.7", "", 0, false}, {"anna.-9223372036854775808.7", "", 0, false},
		// A number has just one form.
		{"anna.050.7", "", 0, false}, {"anna.00.7", "", 0, false}, {"anna.000000050.7", "", 0, false}, {"anna.01.7", "", 0, false}, {"anna.50.07", "", 0, false}, {"anna.50.00", "", 0, false}, {"anna.50.-7", "", 0, false}, {"anna.50.-0", "", 0, false}, {"anna.50.+7", "", 0, false}, {"anna.+50.7", "", 0, false}, {"anna.+0.7", "", 0, false}, {"anna.50.+0", "", 0, false},
		{"anna.0x32.7", "", 0, false}, {"anna.5_0.7", "", 0, false}, {"anna.50.1_0", "", 0, false}, {"anna.5e1.7", "", 0, false}, {"anna.50.0x7", "", 0, false}, {"anna.50.seven", "", 0, false}, {"anna.fifty.7", "", 0, false}, {"anna.-.7", "", 0, false}, {"anna.50.-", "", 0, false}, {"anna.50,0.7", "", 0, false}, {"anna.\u0665.7", "", 0, false},
		// Nothing ahead of a ., between two of them, or behind the last one; one too few and one too many.
		{"", "", 0, false}, {".", "", 0, false}, {"..", "", 0, false}, {"...", "", 0, false}, {"anna", "", 0, false}, {"anna.", "", 0, false}, {"anna..", "", 0, false}, {"anna.50", "", 0, false}, {"anna.50.", "", 0, false}, {"anna..7", "", 0, false}, {"..7", "", 0, false}, {".50.", "", 0, false}, {"50.7", "", 0, false}, {"anna507", "", 0, false}, {"anna50.7", "", 0, false}, {"anna.507", "", 0, false},
		{"anna.50.7.", "", 0, false}, {".anna.50.7", "", 0, false}, {"anna..50.7", "", 0, false}, {"anna.50..7", "", 0, false}, {"anna.50.7.7", "", 0, false}, {"an.na.50.7", "", 0, false}, {"anna.5.0.7", "", 0, false}, {"anna.50.7.anna.50.7", "", 0, false}, {strings.Repeat(".", 100000), "", 0, false}, {"anna.50.7" + strings.Repeat(".7", 100000), "", 0, false},
		// Blanks and others, ahead and behind.
		{" anna.50.7", "", 0, false}, {"anna.50.7 ", "", 0, false}, {"anna .50.7", "", 0, false}, {"anna. 50.7", "", 0, false}, {"anna.50 .7", "", 0, false}, {"anna.50. 7", "", 0, false}, {"anna.50.7\n", "", 0, false}, {"\nanna.50.7", "", 0, false}, {"anna.50.7\x00", "", 0, false}, {"\x00anna.50.7", "", 0, false}, {"anna.50.7\xff", "", 0, false}, {"\xff", "", 0, false}, {"\x00", "", 0, false}, {"anna.50.7\t", "", 0, false}, {"anna,50,7", "", 0, false},
	} {
		isRead(t, c.s, c.name, c.until, c.right)
		if name, until, right := readAsWritten(c.s); name != c.name || until != c.until || right != c.right {
			t.Errorf("by the tests' own %q: %q, %d, %v", c.s, name, until, right)
		}
	}
}

// What is wrong at one place of a token is wrong whatever the others are.
func TestReadTokenOfOneWrongPart(t *testing.T) {
	for _, name := range wrongNames() {
		isRead(t, name+".50.7", "", 0, false)
		if name != "" {
			isRead(t, "anna.50.2047271917"+name, "", 0, false)
		}
	}
	for _, name := range rightNames() {
		for _, until := range append(rightUntils(), wrongUntils()...) {
			for _, mac := range append(numbers(-1, 0, 1, 7, lastMac-1, lastMac, lastMac+1, lastMac+2), farNumbers()...) {
				s := fmt.Sprintf("%s.%d.%d", name, until, mac)
				right := until >= 0 && until <= lastTime && mac >= 0 && mac <= lastMac
				if right {
					isRead(t, s, name, until, true)
				} else {
					isRead(t, s, "", 0, false)
				}
			}
		}
	}
}

func TestSigned(t *testing.T) {
	const anna = "anna.50.2047271917"
	for _, c := range []struct {
		s, key string
		now    int64
		signed bool
	}{
		// Below until, just until, above it; no now is too far.
		{anna, "k1", 0, true}, {anna, "k1", 1, true}, {anna, "k1", 48, true}, {anna, "k1", 49, true}, {anna, "k1", 50, false}, {anna, "k1", 51, false}, {anna, "k1", 1000000, false}, {anna, "k1", 1000001, false}, {anna, "k1", math.MaxInt64, false}, {anna, "k1", -1, true}, {anna, "k1", math.MinInt64, true}, {anna, "k1", 1<<32 + 49, false}, {anna, "k1", -1<<32 + 51, true},
		{"z.0.2096669914", "k1", 0, false}, {"z.0.2096669914", "k1", -1, true}, {"z.0.2096669914", "k1", 1, false}, {"a.0.1748216238", "", -1, true}, {"a.0.1748216238", "", 0, false},
		{strings.Repeat("a", 20) + ".1000000.688729583", "k1", 999999, true}, {strings.Repeat("a", 20) + ".1000000.688729583", "k1", 1000000, false},
		// Another key.
		{anna, "k2", 9, false}, {anna, "", 9, false}, {anna, "k", 9, false}, {anna, "K1", 9, false}, {anna, "k1 ", 9, false}, {anna, "k1\n", 9, false}, {anna, "\x00", 9, false}, {anna, "\xff", 9, false}, {anna, "anna", 9, false},
		// Two keys that make one Mac of it, and not of the next text.
		{"anna.50.1609771647", "k2302", 9, true}, {"anna.50.1609771647", "k42035", 9, true}, {"anna.50.1609771647", "k42035", 50, false}, {"anna.51.1523930598", "k2302", 9, true}, {"anna.51.1523930598", "k42035", 9, false}, {"anna.51.1667070031", "k42035", 9, true}, {"anna.51.1667070031", "k2302", 9, false}, {"anna.51.1609771647", "k2302", 9, false}, {"anna.51.1609771647", "k42035", 9, false},
		// The least and the greatest Mac.
		{"anna.50.0", "jlsbdhe", 49, true}, {"anna.50.0", "bclgbid", 49, false}, {"anna.50.0", "k1", 49, false}, {"anna.50.00", "jlsbdhe", 49, false}, {"anna.50.-0", "jlsbdhe", 49, false}, {"anna.50.", "jlsbdhe", 49, false}, {"anna.50.2147483647", "jlsbdhe", 49, false}, {"anna.50.1", "bclgbid", 49, true}, {"anna.50.01", "bclgbid", 49, false}, {"anna.50.2147483648", "bclgbid", 49, false}, {"anna.50.2147483646", "eixeooa", 49, true}, {"anna.50.-1", "eixeooa", 49, false},
		// A key of 40 bytes, and of 41, of which there is a Mac but no Token.
		{"anna.50.24370108", strings.Repeat("k", 40), 9, true}, {"anna.50.1908139634", strings.Repeat("k", 41), 9, false}, {"anna.50.24370108", strings.Repeat("k", 41), 9, false}, {"anna.50.1908139634", strings.Repeat("k", 40), 9, false},
		// Another name, another until, another form.
		{"anne.50.2047271917", "k1", 9, false}, {"ann.50.2047271917", "k1", 9, false}, {"anna.51.2047271917", "k1", 9, false}, {"anna.5.2047271917", "k1", 4, false}, {"anna.50.2047271918", "k1", 9, false}, {"anna.50.204727191", "k1", 9, false}, {"anna.050.2047271917", "k1", 9, false}, {"anna.+50.2047271917", "k1", 9, false}, {"anna.50.02047271917", "k1", 9, false}, {"anna.50.+2047271917", "k1", 9, false}, {"anna.50.4194755564", "k1", 9, false},
		{anna + " ", "k1", 9, false}, {" " + anna, "k1", 9, false}, {anna + ".", "k1", 9, false}, {anna + "\n", "k1", 9, false}, {"Anna.50.2047271917", "k1", 9, false}, {"anna.50", "k1", 9, false}, {"anna.50.", "k1", 9, false},
		// No token at all: what Token answers where there is none is none.
		{"", "k1", 9, false}, {"", "", 9, false}, {"", "", math.MinInt64, false}, {"", strings.Repeat("k", 41), 9, false}, {"", strings.Repeat("k", 41), -1, false}, {"", strings.Repeat("k", 41), math.MinInt64, false}, {".", "k1", 9, false}, {"..", "k1", -1, false}, {"\x00", "k1", 9, false}, {"\xff", "k1", 9, false}, {"k1", "k1", 9, false},
	} {
		isSigned(t, c.s, c.key, c.now, c.signed)
		if signedAsWritten(c.s, c.key, c.now) != c.signed {
			t.Errorf("by the tests' own %q, %q and %d: %v", c.s, c.key, c.now, !c.signed)
		}
	}
}

// A token is right but for its name, its until or its key, and its Mac is the one that would be it.
func TestNotSignedThoughTheMacIsRight(t *testing.T) {
	made := func(name string, until int64, key string) string {
		head := fmt.Sprintf("%s.%d", name, until)
		return fmt.Sprintf("%s.%d", head, macAsWritten(key, head))
	}
	isSigned(t, made("anna", 50, "k1"), "k1", 9, true)
	for _, name := range wrongNames() {
		isSigned(t, made(name, 50, "k1"), "k1", 9, false)
		isSigned(t, made(name, 50, "k1"), "k1", -1, false)
	}
	for _, until := range wrongUntils() {
		for _, now := range numbers(9, -1, until-1, until, until+1, math.MinInt64, math.MaxInt64) {
			isSigned(t, made("anna", until, "k1"), "k1", now, false)
		}
	}
	for _, key := range wrongKeys() {
		isSigned(t, made("anna", 50, key), key, 9, false)
	}
	for _, head := range []string{"anna.050", "anna.+50", "anna.50 ", "anna. 50", "anna", "anna.", "anna..50", "anna.50.7", "", ".", ".50"} {
		for _, key := range rightKeys() {
			isSigned(t, fmt.Sprintf("%s.%d", head, macAsWritten(key, head)), key, 9, false)
		}
	}
}

func TestSignedAtEachTimeThatItLasts(t *testing.T) {
	for _, until := range numbers(0, 1, 2, 50, 300) {
		token := impl.Token("anna", until, "k1")
		for now := int64(-3); now < until+20; now++ {
			isSigned(t, token, "k1", now, now < until)
			isSigned(t, token, "k2", now, false)
		}
	}
}

func (s *source) name() string {
	n := 1 + s.next(20)
	name := make([]byte, n)
	for i := range name {
		name[i] = byte('a' + s.next(26))
	}
	return string(name)
}

func (s *source) key() string { return s.text(s.next(41)) }

// Signed of Token, as long as it lasts, and by another key only where both make one Mac of it.
func TestSignedOfTokenByItsKeyAlone(t *testing.T) {
	s := source{seed: 140}
	for range 3000 {
		name, until, key := s.name(), s.upTo(lastTime), s.key()
		token := impl.Token(name, until, key)
		if token == "" {
			t.Fatalf("there is no Token of %q, %d, %q", name, until, key)
		}
		isRead(t, token, name, until, true)
		for _, now := range numbers(0, s.upTo(lastTime), until-1, until, until+1) {
			isSigned(t, token, key, now, now < until)
			other := s.key()
			same := impl.Mac(other, fmt.Sprintf("%s.%d", name, until)) == impl.Mac(key, fmt.Sprintf("%s.%d", name, until))
			isSigned(t, token, other, now, same && now < until)
		}
		tokensAsWritten(t, name, until, key)
	}
}

// Of some hundred thousand keys a few make one Mac of a text: these sign for each other, and no others do.
func TestKeysThatMakeOneMacSignForEachOther(t *testing.T) {
	byMac := map[int64]string{}
	pairs := 0
	for i := range 200000 {
		key := fmt.Sprintf("k%d", i)
		mac := impl.Mac(key, "anna.50")
		if other, is := byMac[mac]; is {
			pairs++
			isToken(t, "anna", 50, key, impl.Token("anna", 50, other))
			isSigned(t, impl.Token("anna", 50, key), other, 49, true)
			isSigned(t, impl.Token("anna", 50, other), key, 49, true)
			isSigned(t, impl.Token("anna", 50, other), key, 50, false)
			isSigned(t, impl.Token("anna", 51, key), other, 49, impl.Mac(key, "anna.51") == impl.Mac(other, "anna.51"))
		}
		byMac[mac] = key
	}
	// So many there are by the chapter's own rule.
	if pairs < 6 {
		t.Fatalf("only %d pairs of keys", pairs)
	}
}

// A token of which one byte is another, is gone or has come, is Signed by its key only if it is what Token makes.
func TestTokenWithOneByteAnother(t *testing.T) {
	for _, c := range []struct {
		name  string
		until int64
		key   string
	}{{"anna", 50, "k1"}, {"a", 0, ""}, {"z", 1000000, strings.Repeat("\xff", 40)}, {"anna", 50, "jlsbdhe"}, {"anna", 50, "eixeooa"}, {strings.Repeat("b", 20), 999999, "\n"}} {
		token := impl.Token(c.name, c.until, c.key)
		for at := range len(token) + 1 {
			changed := []string{token[:at], token[at:]}
			for b := range 256 {
				x := string([]byte{byte(b)})
				changed = append(changed, token[:at]+x+token[at:])
				if at < len(token) {
					changed = append(changed, token[:at]+x+token[at+1:])
				}
			}
			if at < len(token) {
				changed = append(changed, token[:at]+token[at+1:])
			}
			for _, s := range changed {
				isSigned(t, s, c.key, -1, signedAsWritten(s, c.key, -1))
				name, until, is := readAsWritten(s)
				isRead(t, s, name, until, is)
				if s != token && impl.Signed(s, c.key, -1) && !is {
					t.Fatalf("%q is Signed, and can't be read", s)
				}
			}
		}
	}
}

func TestListed(t *testing.T) {
	sixty := strings.Repeat("x", 60)
	texts := func(list ...string) []string { return list }
	for _, c := range []struct {
		list   []string
		target string
		listed bool
	}{
		{texts("a.x", "*.y"), "a.x", true}, {texts("a.x", "*.y"), "b.y", true}, {texts("a.x", "*.y"), "b.x", false}, {texts("a.x", "*.y"), "a.y", true}, {texts("a.x", "*.y"), ".y", true}, {texts("a.x", "*.y"), "y", false}, {texts("a.x", "*.y"), "a.y.x", false}, {texts("a.x", "*.y"), "a.x.y", true}, {texts("a.x", "*.y"), "*.y", true}, {texts("a.x", "*.y"), "a.Y", false},
		// No list, no text.
		{nil, "q", false}, {nil, "", false}, {texts(), "q", false}, {texts(""), "q", false}, {texts(""), "", false}, {texts("q"), "", false}, {texts("*"), "", false}, {texts("", "q"), "q", true}, {texts("", "*"), "q", true},
		// * alone has all; * and all of target, all but its first byte, one byte more.
		{texts("*"), "q", true}, {texts("*"), "*", true}, {texts("*"), "\x00", true}, {texts("*"), "\xff", true}, {texts("*"), sixty, true}, {texts("*"), sixty + "x", false},
		{texts("*abc"), "abc", true}, {texts("*bc"), "abc", true}, {texts("*c"), "abc", true}, {texts("*xabc"), "abc", false}, {texts("*aabc"), "abc", false}, {texts("*ab"), "abc", false}, {texts("*b"), "abc", false}, {texts("*abcd"), "abc", false}, {texts("*cc"), "abc", false}, {texts("*q"), "q", true}, {texts("*qq"), "q", false},
		// A * in the midst or at the end is a byte like others; and in target.
		{texts("a*c"), "abc", false}, {texts("a*c"), "a*c", true}, {texts("ab*"), "abc", false}, {texts("ab*"), "ab*", true}, {texts("a*"), "a", false}, {texts("**"), "q", false}, {texts("**"), "*", true}, {texts("**"), "q*", true}, {texts("**"), "**", true}, {texts("**"), "*q", false}, {texts("*a*c"), "a*c", true}, {texts("*a*c"), "xa*c", true}, {texts("*a*c"), "abc", false}, {texts("* "), "q", false}, {texts(" *"), "q", false},
		{texts("abc"), "*", false}, {texts("abc"), "*bc", false}, {texts("abc"), "*abc", false}, {texts("*bc"), "*bc", true}, {texts("*bc"), "*", false}, {texts("*bc"), "**bc", true}, {texts("bc"), "*bc", false},
		// Not by its beginning, its midst or its end, nor by another case.
		{texts("abc"), "ab", false}, {texts("abc"), "bc", false}, {texts("ab"), "abc", false}, {texts("bc"), "abc", false}, {texts("abc"), "abc", true}, {texts("abc"), "ABC", false}, {texts("abc"), "abc ", false}, {texts("abc"), " abc", false}, {texts("abc "), "abc", false}, {texts("a.c"), "abc", false}, {texts("?"), "q", false},
		// Texts are bytes.
		{texts("\x00"), "\x00", true}, {texts("\x00"), "\xff", false}, {texts("*\xff"), "\x00\xff", true}, {texts("*\x00"), "\xff\x00", true}, {texts("*\xff"), "\xff\x00", false}, {texts("*\xbc"), "\u00fc", true}, {texts("a\x00"), "a", false}, {texts("*\n"), "a\n", true},
		// 60 bytes and 61, of target and of a text.
		{texts(sixty), sixty, true}, {texts(sixty + "x"), sixty + "x", false}, {texts(sixty + "x"), "q", false}, {texts("*", sixty+"x"), "q", false}, {texts(sixty+"x", "*"), "q", false}, {texts("q", sixty+"x"), "q", false}, {texts(sixty+"x", "q"), "q", false}, {texts(sixty, "q"), "q", true}, {texts("*" + sixty), sixty, false}, {texts("*" + sixty[1:]), sixty, true}, {texts("*" + sixty[1:]), sixty[1:], true}, {texts("*" + sixty[1:]), sixty[2:], false}, {texts("*x"), sixty, true}, {texts("*x"), sixty + "x", false}, {texts("q", "*"+sixty), "q", false},
	} {
		isListed(t, c.list, c.target, c.listed)
		if listedAsWritten(c.list, c.target) != c.listed {
			t.Errorf("by the tests' own %q and %q: %v", c.list, c.target, !c.listed)
		}
	}
}

func TestListedOfTwentyTextsAndOfTwentyOne(t *testing.T) {
	for _, place := range []string{"q", "*", "*q", "aq"} {
		for n := 1; n <= 25; n++ {
			for at := range n {
				list := make([]string, n)
				for i := range list {
					list[i] = fmt.Sprintf("place%d", i)
				}
				list[at] = place
				isListed(t, list, "aq", n <= 20 && place != "q")
				isListed(t, list, "place", n <= 20 && place == "*")
				// One that is too long spoils the list wherever it is.
				for other := range n {
					if other != at {
						list[other] = strings.Repeat("x", 61)
						isListed(t, list, "aq", false)
						list[other] = strings.Repeat("x", 60)
						isListed(t, list, "aq", n <= 20 && place != "q")
						list[other] = ""
						isListed(t, list, "aq", n <= 20 && place != "q")
					}
				}
			}
		}
	}
	for _, n := range []int{21, 40, 276, 65556} {
		isListed(t, slices.Repeat([]string{"*"}, n), "q", false)
		isListed(t, slices.Repeat([]string{"q"}, n), "q", false)
		isListed(t, slices.Repeat([]string{""}, n), "q", false)
	}
}

func TestListedOfEachLength(t *testing.T) {
	for n := range 70 {
		target := allBytes()[97 : 97+n]
		right := n >= 1 && n <= 60
		isListed(t, []string{"*"}, target, right)
		isListed(t, []string{target}, target, right)
		isListed(t, []string{"a", target}, target, right)
		// What is behind the * ends target, from all of it to nothing.
		for from := range n + 1 {
			list := []string{"*" + target[from:]}
			isListed(t, list, target, right && len(list[0]) <= 60)
			list[0] = "*\x00" + target[from:]
			isListed(t, list, target, false)
			list[0] = "*" + target[from:] + "\x00"
			isListed(t, list, target, false)
		}
	}
	for _, n := range []int{61, 62, 256, 257, 316, 65537, 65596} {
		isListed(t, []string{"*"}, strings.Repeat("q", n), false)
		isListed(t, []string{"*q"}, strings.Repeat("q", n), false)
		isListed(t, []string{"q", strings.Repeat("q", n)}, "q", false)
	}
}

func (s *source) place() string {
	place := "ab*"[s.next(3):3] + "a.b*"[:s.next(5)]
	switch s.next(4) {
	case 0:
		return "*" + place
	case 1:
		return place + "ab"[s.next(2):]
	case 2:
		return strings.Repeat("a", s.next(61))
	default:
		return place
	}
}

// A place that is Listed is so in any order of the list and with more texts in it.
func TestListedInAnyOrderAndAmongMore(t *testing.T) {
	s := source{seed: 1400}
	met := map[bool]int{}
	for range 5000 {
		var list []string
		for range s.next(21) {
			list = append(list, s.place())
		}
		target := s.place()
		listed := listedAsWritten(list, target)
		met[listed]++
		isListed(t, list, target, listed)
		turned := slices.Clone(list)
		slices.Reverse(turned)
		isListed(t, turned, target, listed)
		if len(list) == 0 {
			continue
		}
		at := s.next(uint32(len(list)))
		isListed(t, slices.Concat(list[at:], list[:at]), target, listed)
		if len(list) < 20 {
			isListed(t, slices.Insert(slices.Clone(list), at, list[at]), target, listed)
			isListed(t, slices.Insert(slices.Clone(list), at, ""), target, listed)
			isListed(t, slices.Insert(slices.Clone(list), at, target), target, target != "")
			isListed(t, slices.Insert(slices.Clone(list), at, "*"), target, target != "")
			isListed(t, slices.Insert(slices.Clone(list), at, strings.Repeat("*", 61)), target, false)
		}
	}
	if met[true] < 500 || met[false] < 500 {
		t.Fatalf("Listed and not: %v", met)
	}
}

// The texts of one argument lie over buffers that show a write into them.
func TestTokenArgumentsStayAndAnswersAreNewMemory(t *testing.T) {
	texts := slices.Concat(rightNames(), wrongNames(), rightKeys(), wrongKeys(), []string{"anna.50.2047271917", "anna.50.0", "a.0.7", strings.Repeat("a", 20) + ".1000000.2147483646", "anna.50", "anna.50.7.", "*", "*.y", "a.y"})
	for i, text := range texts {
		s, buffer := overBuffer(text)
		key, keyBuffer := overBuffer(texts[(i*7+3)%len(texts)])
		heldKey := string(keyBuffer)
		var answers []string
		for _, until := range numbers(50, -1, 1000000, math.MinInt64) {
			answers = append(answers, impl.Token(s, until, key), impl.Token(s, until, s), impl.Token("anna", until, s), impl.Token(s, until, "k1"))
			impl.Signed(s, key, until)
			impl.Signed(s, s, until)
		}
		name, _, _ := impl.ReadToken(s)
		again, _, _ := impl.ReadToken(s)
		answers = append(answers, name, again)
		impl.Mac(s, key)
		impl.Mac(s, s)
		impl.Listed([]string{s, key, s}, key)
		impl.Listed([]string{key, s}, s)
		if string(buffer) != text+"\xa5" || string(keyBuffer) != heldKey {
			t.Fatalf("%q was written into: %q; or %q: %q", text, buffer, heldKey, keyBuffer)
		}
		for at, answer := range answers {
			if share(answer, s) || share(answer, key) {
				t.Fatalf("answer %d of %q shares its memory", at, text)
			}
		}
		// A byte alone may lie in a table of the language's own.
		if len(name) > 1 && share(name, again) {
			t.Fatalf("two answers of %q share memory", text)
		}
	}
}

// The list amidst others shows a write ahead of it and into the room behind it.
func TestListedLeavesWhatLiesAroundTheList(t *testing.T) {
	for _, list := range [][]string{nil, {"a.x", "*.y"}, {"*"}, {"", "q"}, slices.Repeat([]string{"*q"}, 20), slices.Repeat([]string{"*q"}, 21), {strings.Repeat("x", 61)}} {
		all := slices.Concat([]string{"ahead"}, list, []string{"behind", "*"})
		held := slices.Clone(all)
		for _, target := range []string{"", "q", "a.x", "b.y", "behind", "ahead", strings.Repeat("q", 60), strings.Repeat("q", 61)} {
			isListed(t, all[1:1+len(list)], target, listedAsWritten(list, target))
			if !slices.Equal(all, held) {
				t.Fatalf("Listed(%q, %q) left %q", list, target, all)
			}
		}
	}
}

// A call hangs on what it is given alone: what was asked ahead of it, or is asked beside it, does not change it.
func TestTokensAreTheSameWhateverWasAskedAhead(t *testing.T) {
	s := source{seed: 14000}
	type call struct {
		name, key, token string
		until            int64
	}
	var calls []call
	for range 300 {
		c := call{name: s.name(), key: s.key(), until: s.upTo(lastTime)}
		c.token = impl.Token(c.name, c.until, c.key)
		calls = append(calls, c)
	}
	for _, c := range slices.Backward(calls) {
		isToken(t, c.name, c.until, c.key, c.token)
		isSigned(t, c.token, c.key, c.until-1, true)
	}
	wrong := make(chan string, 8)
	for range cap(wrong) {
		go func() {
			for _, c := range calls {
				if impl.Token(c.name, c.until, c.key) != c.token || !impl.Signed(c.token, c.key, c.until-1) {
					wrong <- c.token
					return
				}
			}
			wrong <- ""
		}()
	}
	for range cap(wrong) {
		if token := <-wrong; token != "" {
			t.Errorf("%q is another one beside others", token)
		}
	}
}
