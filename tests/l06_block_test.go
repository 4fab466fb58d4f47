package tests

import (
	"math/big"
	"slices"
	"strings"
	"testing"

	"loop.example/g00296/impl"
)

func list(fields ...impl.Field) []impl.Field { return fields }

// literalAsWritten is a text as chapter 4 tells it.
func literalAsWritten(s string) string {
	if strings.Trim(s, allSigns) == "" && len(packedAsWritten(s)) < len(s) {
		p := packedAsWritten(s)
		return spelt(big.NewInt(int64(len(p))), 7, 128, 0) + p
	}
	return spelt(big.NewInt(int64(len(s))), 7, 0, 0) + s
}

// whole is a field written out; named is one whose Name has a number.
func whole(f impl.Field) string { return "\x40" + literalAsWritten(f.Name) + literalAsWritten(f.Value) }

func named(n int64, value string) string {
	return spelt(big.NewInt(n), 6, 64, 0) + literalAsWritten(value)
}

func numbered(n int64) string { return spelt(big.NewInt(n), 7, 128, 0) }

// encodedAsWritten has the parts of which the document tells, field by field, and the table then.
func encodedAsWritten(x impl.Table, fields []impl.Field) ([]string, impl.Table) {
	var parts []string
	for _, f := range fields {
		n, alike := lookedUpAsWritten(x, f)
		if alike {
			parts = append(parts, numbered(n))
			continue
		}
		if n == 0 {
			parts = append(parts, whole(f))
		} else {
			parts = append(parts, named(n, f.Value))
		}
		x = notedAsWritten(x, f)
	}
	return parts, x
}

// isBlock asks that Encoded makes block of the fields, and Decoded the fields of block, and that
// both have the table then.
func isBlock(t *testing.T, x impl.Table, fields []impl.Field, block string, then impl.Table) {
	t.Helper()
	if s, y, is := impl.Encoded(x, fields); !is || s != block || !sameTable(y, then) || !impl.TableOk(y) {
		t.Errorf("Encoded(%#v, %#v): %q, %#v, %v, not %q, %#v", x, fields, s, y, is, block, then)
	}
	if l, y, is := impl.Decoded(x, block); !is || !slices.Equal(l, fields) || !sameTable(y, then) || !impl.TableOk(y) {
		t.Errorf("Decoded(%#v, %q): %#v, %#v, %v, not %#v, %#v", x, block, l, y, is, fields, then)
	}
}

func isNoBlock(t *testing.T, x impl.Table, block string) {
	t.Helper()
	if l, y, is := impl.Decoded(x, block); is || len(l) != 0 || !sameTable(y, x) {
		t.Errorf("Decoded(%#v, %q): %#v, %#v, %v", x, block, l, y, is)
	}
}

func notEncoded(t *testing.T, x impl.Table, fields []impl.Field) {
	t.Helper()
	if s, y, is := impl.Encoded(x, fields); is || s != "" || !sameTable(y, x) {
		t.Errorf("Encoded(%#v, %#v): %q, %#v, %v", x, fields, s, y, is)
	}
}

func TestBlockAsWritten(t *testing.T) {
	qr, qs, qt, q0, xy := field("Q", "R"), field("Q", "S"), field("Q", "T"), field("Q", ""), field("X", "Y") // 10 each, but 9 of q0
	for _, c := range []struct {
		had   impl.Table
		list  []impl.Field
		block string
		then  impl.Table
	}{
		{table(100), nil, "", table(100)},
		{table(100, qr, xy), nil, "", table(100, qr, xy)},
		{table(0), nil, "", table(0)},
		{table(100), list(qr), "\x40\x01Q\x01R", table(100, qr)},
		{table(100), list(q0), "\x40\x01Q\x00", table(100, q0)},
		{table(100), list(qr, qs, qr), "\x40\x01Q\x01R\x41\x01S\x82", table(100, qs, qr)},
		{table(100), list(qr, qr, qr), "\x40\x01Q\x01R\x81\x81", table(100, qr)}, // what has a number is not Noted again
		{table(100, qr), list(qr), "\x81", table(100, qr)},
		{table(100, qr, qs), list(qs), "\x82", table(100, qr, qs)}, // alike goes ahead of an earlier row with the Name
		{table(100, qr, qs), list(qs, qr, qs), "\x82\x81\x82", table(100, qr, qs)},
		{table(100, xy, qr, qr), list(qr), "\x82", table(100, xy, qr, qr)},
		{table(100, qr, qs), list(qt), "\x41\x01T", table(100, qt, qr, qs)},
		{table(100, xy, qs, qr), list(qt), "\x42\x01T", table(100, qt, xy, qs, qr)},
		{table(100, xy, qs), list(q0), "\x42\x00", table(100, q0, xy, qs)},
		{table(100, xy, q0), list(qs), "\x42\x01S", table(100, qs, xy, q0)},
		{table(100, xy, qs), list(field("Y", "X"), field("S", "Q")), "\x40\x01Y\x01X\x40\x01S\x01Q", table(100, field("S", "Q"), field("Y", "X"), xy, qs)},
		{table(100), list(field("to", "abc=")), "\x40\x02to\x83\x00\x45\xef", table(100, field("to", "abc="))},
		{table(100), list(field("abc=", "to")), "\x40\x83\x00\x45\xef\x02to", table(100, field("abc=", "to"))},
		{table(100, field("abc=", "")), list(field("abc=", "abc")), "\x41\x82\x00\x45", table(100, field("abc=", "abc"), field("abc=", ""))},
		// Nothing stays where there is no room for it, and nothing has a number then.
		{table(0), list(qr, qr), "\x40\x01Q\x01R\x40\x01Q\x01R", table(0)},
		{table(9), list(qr, qr, q0, q0, qr), "\x40\x01Q\x01R\x40\x01Q\x01R\x40\x01Q\x00\x81\x41\x01R", table(9)},
		{table(10), list(qr, qs, qr), "\x40\x01Q\x01R\x41\x01S\x41\x01R", table(10, qr)},
		// Rows go in the midst: the Name is found in a row that the field itself lets go.
		{table(10, qr), list(qs, qs, xy, qs), "\x41\x01S\x81\x40\x01X\x01Y\x40\x01Q\x01S", table(10, qs)},
		{table(20), list(qr, xy, qs, qr, xy), "\x40\x01Q\x01R\x40\x01X\x01Y\x42\x01S\x41\x01R\x40\x01X\x01Y", table(20, xy, qr)},
		{table(29, xy, qr), list(qs, qr, xy), "\x42\x01S\x41\x01R\x40\x01X\x01Y", table(29, xy, qr)},
		{table(30, xy, qr), list(qs, qr, xy), "\x42\x01S\x83\x82", table(30, qs, xy, qr)},
		// One that is greater than the room lets all of them go.
		{table(11, qr), list(field("QQ", "RR"), qr), "\x40\x02QQ\x02RR\x40\x01Q\x01R", table(11, qr)},
		{table(11, qr), list(field("Q", "RRR"), qr), "\x41\x03RRR\x40\x01Q\x01R", table(11, qr)},
		{table(100, qr, xy), list(qr, sized(40, 60), qr), "\x81" + whole(sized(40, 60)) + "\x40\x01Q\x01R", table(100, qr)},
	} {
		isBlock(t, c.had, c.list, c.block, c.then)
		parts, then := encodedAsWritten(c.had, c.list)
		if strings.Join(parts, "") != c.block || !sameTable(then, c.then) {
			t.Errorf("%#v, %#v: the tests' own parts are %q, %#v", c.had, c.list, parts, then)
		}
	}
}

// source hands out fields: short ones, of which many come again, and some of every size.
type source struct{ seed uint32 }

func (s *source) next(n uint32) int {
	s.seed = s.seed*1664525 + 1013904223
	return int(s.seed >> 8 % n)
}

func (s *source) text(n int) string {
	if s.next(3) == 0 && n > 0 {
		return someSigns(n-1, s.seed) + string([]byte{byte(s.seed >> 16)})
	}
	return someSigns(n, s.seed)
}

func (s *source) field() impl.Field {
	switch s.next(4) {
	case 0:
		return field(s.text(1+s.next(40)), s.text(s.next(61)))
	case 1:
		return field("abc"[:1+s.next(3)], s.text(s.next(4)))
	default:
		return field("QXabcd"[s.next(5):5], "RS"[:s.next(3)])
	}
}

func (s *source) fields(most int) []impl.Field {
	var fields []impl.Field
	for range s.next(uint32(most) + 1) {
		fields = append(fields, s.field())
	}
	return fields
}

// Both ends begin with one table and have one table, block after block.
func TestDecodedOfEncodedAreTheFieldsBlockAfterBlock(t *testing.T) {
	for _, room := range []int64{0, 1, 8, 9, 10, 18, 20, 30, 50, 107, 108, 109, 200, 400, 990, 999, 1000} {
		s := source{seed: uint32(room)}
		here, there, want := table(room), table(room), table(room)
		for range 120 {
			fields := s.fields(20)
			parts, then := encodedAsWritten(want, fields)
			block, next, is := impl.Encoded(here, fields)
			if !is || block != strings.Join(parts, "") || !sameTable(next, then) {
				t.Fatalf("Encoded(%#v, %#v): %q, %#v, %v, not %q, %#v", here, fields, block, next, is, parts, then)
			}
			read, other, is := impl.Decoded(there, block)
			if !is || !slices.Equal(read, fields) || !sameTable(other, next) {
				t.Fatalf("Decoded(%#v, %q): %#v, %#v, %v, not %#v, %#v", there, block, read, other, is, fields, next)
			}
			if !impl.TableOk(next) || next.Room != room {
				t.Fatalf("Encoded(%#v, %#v): the table then is %#v", here, fields, next)
			}
			here, there, want = next, other, then
		}
	}
}

func TestBlockOfEachRightFieldInEachRightTable(t *testing.T) {
	for _, x := range rightTables() {
		for _, f := range slices.Concat(rightFields(), list(field("to", "a"), field("to", "c"), sized(1, 2))) {
			for _, fields := range [][]impl.Field{list(f), list(f, f), list(f, field(f.Name, ""), f)} {
				parts, then := encodedAsWritten(x, fields)
				isBlock(t, x, fields, strings.Join(parts, ""), then)
			}
		}
		isBlock(t, x, nil, "", x)
	}
}

func TestBlockOfTwentyFieldsAndOfTwentyOne(t *testing.T) {
	s := source{seed: 7}
	var mixed []impl.Field
	for range 21 {
		mixed = append(mixed, s.field())
	}
	for _, fields := range [][]impl.Field{mixed, repeated(field("Q", "R"), 21), repeated(sized(40, 60), 21), repeated(sized(1, 0), 21)} {
		for _, x := range []impl.Table{table(0), table(30), table(1000), table(1000, field("Q", "R"), sized(1, 0))} {
			parts, _ := encodedAsWritten(x, fields)
			for _, n := range []int{19, 20} {
				_, then := encodedAsWritten(x, fields[:n])
				isBlock(t, x, fields[:n], strings.Join(parts[:n], ""), then)
			}
			notEncoded(t, x, fields)
			isNoBlock(t, x, strings.Join(parts, ""))
		}
	}
	for _, n := range []int{21, 22, 40, 256, 1 << 16} {
		notEncoded(t, table(100, field("Q", "R")), repeated(field("Q", "R"), n))
		isNoBlock(t, table(100, field("Q", "R")), strings.Repeat("\x81", n))
	}
}

func TestBlockAtTheGreatestNameAndValue(t *testing.T) {
	for _, x := range []impl.Table{table(0), table(107), table(108), table(1000), table(1000, sized(40, 0), sized(1, 1))} {
		for _, fill := range []string{"n", "N"} {
			name, value := strings.Repeat(fill, 41), strings.Repeat(fill, 61)
			for _, f := range []impl.Field{field(name[:40], ""), field(name[:40], value[:60]), field(fill, value[:60])} {
				parts, then := encodedAsWritten(x, list(f))
				isBlock(t, x, list(f), strings.Join(parts, ""), then)
			}
			for _, f := range []impl.Field{field(name, ""), field(name, value[:60]), field(name[:40], value), field(fill, value), field("", fill)} {
				notEncoded(t, x, list(f))
				isNoBlock(t, x, whole(f))
				isNoBlock(t, x, "\x40"+impl.Literal("Q")+impl.Literal("R")+whole(f))
			}
		}
	}
	for _, size := range []int{61, 62, 200, 201} {
		for _, fill := range []string{"v", "V"} {
			isNoBlock(t, table(1000, sized(1, 1)), named(1, strings.Repeat(fill, size)))
		}
	}
}

// oneByteRows are so many rows, each with another Name of one byte and no Value.
func oneByteRows(count int) []impl.Field {
	var rows []impl.Field
	for n := range count {
		rows = append(rows, field(string([]byte{byte(n)}), ""))
	}
	return rows
}

// By 6 bits the numbers from 63 on take two bytes; by 7 bits no table has a row whose number does.
func TestBlockOfEachNumber(t *testing.T) {
	full := table(1000, oneByteRows(111)...)
	for n := int64(1); n <= 111; n++ {
		row := full.Rows[n-1]
		isBlock(t, full, list(row), string([]byte{byte(128 + n)}), full)
		other := field(row.Name, "VW")
		want := string([]byte{byte(64 + n)}) + "\x02VW"
		if n >= 63 {
			want = "\x7f" + string([]byte{byte(n - 63)}) + "\x02VW"
		}
		isBlock(t, full, list(other), want, notedAsWritten(full, other))
	}
	for _, c := range []struct {
		rows int
		more int64
	}{{0, 1}, {1, 2}, {61, 62}, {62, 63}, {63, 64}, {110, 111}, {111, 112}} {
		x := table(1000, oneByteRows(c.rows)...)
		for _, n := range []int64{c.more, c.more + 1, 126, 127, 128, 254, 255, 256 + 1, 1 << 28, 1<<28 + 1} {
			isNoBlock(t, x, numbered(n))
			isNoBlock(t, x, named(n, "V"))
			isNoBlock(t, x, named(n, ""))
		}
	}
}

// The number 0 has no row by 7 bits.
func TestDecodedOfTheNumberNought(t *testing.T) {
	for _, x := range rightTables() {
		isNoBlock(t, x, "\x80")
		isNoBlock(t, x, "\x80\x00")
		isNoBlock(t, x, "\x80\x01Q\x01R")
		isNoBlock(t, x, whole(field("Q", "R"))+"\x80")
	}
}

// A number whose row went in the midst of the block, and one that comes only later.
func TestDecodedOfARowThatIsNotThere(t *testing.T) {
	qr, xy := field("Q", "R"), field("X", "Y")
	isNoBlock(t, table(10, qr), whole(xy)+"\x82")
	isNoBlock(t, table(10, qr), whole(xy)+"\x42\x01S")
	isNoBlock(t, table(20, qr), "\x82"+whole(xy))
	isBlock(t, table(20, qr), list(xy, qr), whole(xy)+"\x82", table(20, xy, qr))
	isNoBlock(t, table(0), whole(xy)+"\x81")
	isNoBlock(t, table(9), whole(xy)+"\x41\x01Z")
	isNoBlock(t, table(100), "\x81")
	isNoBlock(t, table(0), "\x81")
}

func TestDecodedOfABlockThatBeginsBelow64(t *testing.T) {
	for _, x := range rightTables() {
		for b := range 64 {
			first := string([]byte{byte(b)})
			isNoBlock(t, x, first)
			isNoBlock(t, x, first+"\x01Q\x01R")
			isNoBlock(t, x, first+whole(field("Q", "R")))
			isNoBlock(t, x, whole(field("Q", "R"))+first+"\x01R")
		}
	}
}

// blockCase is what Encoded is given.
type blockCase struct {
	had    impl.Table
	fields []impl.Field
}

// someBlocks have every shape of a field in them, more than once.
func someBlocks() []blockCase {
	full := table(1000, oneByteRows(111)...)
	s := source{seed: 23}
	blocks := []blockCase{
		{table(100, field("Q", "R"), field("Q", "S")), list(field("Q", "S"), field("Q", "T"), field("X", "Y"), field("abc=", "abc="), field("X", ""))},
		{table(20), list(field("Q", "R"), field("X", "Y"), field("Q", "S"), field("Q", "R"), field("X", "Y"))},
		{full, list(full.Rows[110], field("\x6e", "V"), field("\x6e", "abc"), full.Rows[0], field("\x3e", "W"), field("\x3d", "W"))},
		{table(1000), list(sized(40, 60), sized(40, 0), sized(40, 60), sized(1, 60))},
		{table(0), list(field("Q", ""), field("Q", ""), field("@", "@@@"))},
	}
	for _, room := range []int64{0, 30, 200, 1000} {
		x := table(room)
		for range 3 {
			fields := s.fields(12)
			blocks = append(blocks, blockCase{x, fields})
			_, x = encodedAsWritten(x, fields)
		}
	}
	return blocks
}

// A part of a block is no block, or one of less fields, where it ends behind one of them.
func TestDecodedOfAPartOfABlock(t *testing.T) {
	for _, b := range someBlocks() {
		parts, _ := encodedAsWritten(b.had, b.fields)
		ends := map[int]int{0: 0}
		for i := range parts {
			ends[len(strings.Join(parts[:i+1], ""))] = i + 1
		}
		block := strings.Join(parts, "")
		for size := 0; size <= len(block); size++ {
			count, is := ends[size]
			if !is {
				isNoBlock(t, b.had, block[:size])
				continue
			}
			_, then := encodedAsWritten(b.had, b.fields[:count])
			isBlock(t, b.had, b.fields[:count], block[:size], then)
		}
	}
}

func TestDecodedWithBytesBehind(t *testing.T) {
	for _, b := range someBlocks() {
		parts, then := encodedAsWritten(b.had, b.fields)
		block := strings.Join(parts, "")
		for _, behind := range []string{
			"\x00", "\x01", "\x3f", "\x3f\x00", "\x40", "\x40\x01", "\x40\x01Q", "\x40\x01Q\x01", "\x7f", "\x7f\x80", "\x80", "\xf0", "\xff", "\xff\x00", "\xff\x80", " ", "\n",
			strings.Repeat("\x00", 3000), strings.Repeat("\xff", 3000),
		} {
			isNoBlock(t, b.had, block+behind)
		}
		if len(then.Rows) > 0 {
			isBlock(t, b.had, append(slices.Clone(b.fields), then.Rows[0]), block+"\x81", then)
		}
	}
}

// These can be read as fields, but Encoded makes none of them.
func TestDecodedOfWhatEncodedDoesNotMake(t *testing.T) {
	qr, qs, xy := field("Q", "R"), field("Q", "S"), field("X", "Y")
	two := table(100, qr, qs)
	for _, c := range []struct {
		had   impl.Table
		block string
	}{
		{two, "\x40\x01Q\x01R"}, // alike, and written out
		{two, "\x40\x01Q\x01S"},
		{two, "\x41\x01R"}, // alike, and written by its Name
		{two, "\x41\x01S"},
		{two, "\x42\x01S"},
		{two, "\x40\x01Q\x01T"}, // the Name is there, and is written out
		{two, "\x40\x01Q\x00"},
		{two, "\x42\x01T"},                       // an earlier row has the Name
		{table(100, xy, qr, xy, qs), "\x44\x00"}, // likewise
		{table(100, qr, qr), "\x82"},             // an earlier row is alike
		{table(100, xy, qr, qr, xy), "\x83"},
		{table(100, xy, qr, qr, xy), "\x84"},
		{table(100), "\x40\x01Q\x01R\x40\x01Q\x01R"}, // what stands there now is by the block itself
		{table(100), "\x40\x01Q\x01R\x40\x01Q\x01S"},
		{table(100), "\x40\x01Q\x01R\x41\x01R"},
		{table(100), "\x40\x01Q\x01R\x41\x01S\x42\x01T"},
		{table(100), "\x40\x00\x01R"}, // an empty Name
		{table(100), "\x40\x00\x00"},
		{table(100), "\x40\x01Q\x01R\x40\x00\x00"},
		{table(100), "\x40" + impl.Literal(strings.Repeat("N", 41)) + "\x01R"},
		{table(100), "\x40" + impl.Literal(strings.Repeat("n", 41)) + "\x01R"},
		{table(100), "\x40" + impl.Literal(strings.Repeat("n", 200)) + "\x01R"},
		{table(100), "\x40\x01Q" + impl.Literal(strings.Repeat("V", 61))},
		{table(100), "\x40\x01Q" + impl.Literal(strings.Repeat("v", 61))},
		{two, "\x41" + impl.Literal(strings.Repeat("V", 61))},
		{two, "\x41" + impl.Literal(strings.Repeat("v", 200))},
		{table(100), "\x40\x03abc\x01R"}, // a literal that Literal would pack, and ones that it would not
		{table(100), "\x40\x01Q\x03abc"},
		{table(100), "\x40\x81\x07\x01R"},
		{table(100), "\x40\x01Q\x80"},
		{table(100), "\x40\x80\x01R"},
		{table(100), "\x40\x01Q\x82\x00\x44"}, // packed, with bits left that are not 1
		{two, "\x41\x03abc"},
		{two, "\x41\x80"},
		{table(1000, oneByteRows(63)...), "\x7f\x80\x00\x01V"}, // a number with a nought behind it
		{table(1000, oneByteRows(64)...), "\x7f\x81\x00\x01V"},
		{table(100), "\x40\x7f\x00" + strings.Repeat("N", 127) + "\x01R"},
	} {
		isNoBlock(t, c.had, c.block)
		isNoBlock(t, c.had, c.block+"\x81")
	}
}

// isMadeOrNothing asks that a text is refused, or is what Encoded makes of the fields it is read as.
func isMadeOrNothing(t *testing.T, x impl.Table, block string) {
	t.Helper()
	fields, y, is := impl.Decoded(x, block)
	if !is {
		isNoBlock(t, x, block)
		return
	}
	if made, then, is := impl.Encoded(x, fields); !is || made != block || !sameTable(then, y) {
		t.Errorf("Decoded(%#v, %q): %#v, %#v, of which Encoded makes %q, %#v, %v", x, block, fields, y, made, then, is)
	}
}

// Each block of at most two bytes, and ones with a byte changed, gone or put in between.
func TestDecodedReadsNoOtherText(t *testing.T) {
	for _, x := range []impl.Table{table(0), table(100, field("Q", "R"), field("Q", "R"), field("X", ""))} {
		for a := range 256 {
			isMadeOrNothing(t, x, string([]byte{byte(a)}))
			for b := range 256 {
				isMadeOrNothing(t, x, string([]byte{byte(a), byte(b)}))
			}
		}
	}
	for _, made := range someBlocks() {
		parts, _ := encodedAsWritten(made.had, made.fields)
		block := strings.Join(parts, "")
		s := source{seed: uint32(len(block))}
		for at := range len(block) {
			isMadeOrNothing(t, made.had, block[:at]+block[at+1:])
			for _, b := range []byte{0, 1, 0x40, 0x41, 0x42, 0x7f, 0x80, 0x81, 0x82, 0xff, block[at] ^ 1, block[at] ^ 128, byte(s.next(256))} {
				isMadeOrNothing(t, made.had, block[:at]+string([]byte{b})+block[at+1:])
				isMadeOrNothing(t, made.had, block[:at]+string([]byte{b})+block[at:])
			}
		}
	}
}

// The other end has another table: what it reads is no block there, or is made so there.
func TestDecodedByAnotherTable(t *testing.T) {
	for _, made := range someBlocks() {
		parts, _ := encodedAsWritten(made.had, made.fields)
		for _, x := range rightTables() {
			isMadeOrNothing(t, x, strings.Join(parts, ""))
		}
	}
	isNoBlock(t, table(100), "\x40\x01Q\x01R\x82")
	isNoBlock(t, table(100, field("Q", "S")), "\x40\x01Q\x01R")
	isBlock(t, table(100, field("X", "Y")), list(field("X", "Y")), "\x81", table(100, field("X", "Y")))
}

func TestEncodedOfAFieldThatIsNotRight(t *testing.T) {
	s := source{seed: 5}
	for _, x := range rightTables() {
		for i, f := range wrongFields() {
			notEncoded(t, x, list(f))
			notEncoded(t, x, list(f, f))
			fields := append(s.fields(18), field("Q", "R"))
			notEncoded(t, x, slices.Insert(slices.Clone(fields), i%len(fields), f))
			notEncoded(t, x, append(list(f), fields...))
			notEncoded(t, x, append(fields, f))
		}
	}
	// The Name is there, but the Value is too long for a right field.
	notEncoded(t, table(100, field("Q", "R")), list(field("Q", strings.Repeat("R", 61))))
}

func TestBlocksOfATableThatIsNotRight(t *testing.T) {
	lists := [][]impl.Field{nil, list(field("Q", "R")), list(sized(1, 0)), list(impl.Field{}), repeated(sized(1, 0), 20), repeated(sized(1, 0), 21)}
	for _, x := range wrongTables() {
		for _, fields := range lists {
			if s, y, is := impl.Encoded(x, fields); is || s != "" || !isZeroTable(y) {
				t.Errorf("Encoded(%#v, %#v): %q, %#v, %v", x, fields, s, y, is)
			}
		}
		for _, block := range []string{"", "\x81", "\x82", "\x80", "\x40\x01Q\x01R", "\x41\x01R", "\x00", "\xff", strings.Repeat("\x81", 21)} {
			if l, y, is := impl.Decoded(x, block); is || len(l) != 0 || !isZeroTable(y) {
				t.Errorf("Decoded(%#v, %q): %#v, %#v, %v", x, block, l, y, is)
			}
		}
	}
}

func TestPlain(t *testing.T) {
	for _, c := range []struct {
		list []impl.Field
		want int64
	}{
		{nil, 0}, {list(), 0}, {list(field("Q", "R")), 2}, {list(field("Q", "")), 1}, {list(sized(40, 60)), 100}, {list(sized(1, 60)), 61},
		{list(field("to", "abc"), field("to", "abc"), field("é", "ü")), 14},
		{repeated(sized(40, 60), 20), 2000}, {repeated(sized(40, 60), 21), 2100}, {repeated(sized(2, 3), 5000), 25000},
	} {
		if n := impl.Plain(c.list); n != c.want {
			t.Errorf("Plain(%#v): %d, not %d", c.list, n, c.want)
		}
	}
	sum := int64(0)
	for _, f := range rightFields() {
		sum += int64(len(f.Name + f.Value))
	}
	if n := impl.Plain(rightFields()); n != sum {
		t.Errorf("Plain of all right fields: %d, not %d", n, sum)
	}
	for _, f := range wrongFields() {
		for _, fields := range [][]impl.Field{list(f), append(rightFields(), f), append(list(f), rightFields()...), append(append(rightFields(), f), rightFields()...)} {
			if n := impl.Plain(fields); n != -1 {
				t.Errorf("Plain(%#v): %d", fields, n)
			}
		}
	}
}

func TestFieldOf(t *testing.T) {
	fields := list(field("X", "Y"), field("to", "a"), field("to", "b"), field("t", ""), field("oto", "c"))
	for _, c := range []struct {
		list  []impl.Field
		name  string
		value string
		is    bool
	}{
		{fields, "X", "Y", true},
		{fields, "to", "a", true}, // the first of both
		{fields, "t", "", true},
		{fields, "oto", "c", true},
		{fields, "o", "", false},
		{fields, "TO", "", false},
		{fields, "to ", "", false},
		{fields, "a", "", false}, // no Value is taken for a Name
		{fields, "", "", false},
		{fields, strings.Repeat("to", 1000), "", false},
		{nil, "to", "", false},
		{nil, "", "", false},
		{list(), "to", "", false},
		{list(field("to", ""), field("to", "b")), "to", "", true},
		{append(repeated(field("n", "v"), 500), field("to", "b")), "to", "b", true},
		// The chapter asks for the Name alone, whether the fields are right or not.
		{list(field("to", strings.Repeat("v", 61))), "to", strings.Repeat("v", 61), true},
		{list(sized(41, 0), impl.Field{}, field("to", "b")), "to", "b", true},
		{list(field("", "v")), "", "v", true},
		{list(sized(41, 5)), strings.Repeat("n", 41), "vvvvv", true},
	} {
		if v, is := impl.FieldOf(c.list, c.name); v != c.value || is != c.is {
			t.Errorf("FieldOf(%#v, %q): %q, %v, not %q, %v", c.list, c.name, v, is, c.value, c.is)
		}
	}
}

// sharesTexts tells whether a text of one list lies in the memory of one of the other list.
func sharesTexts(a, b []impl.Field) bool {
	for _, f := range a {
		for _, g := range b {
			if share(f.Name, g.Name) || share(f.Name, g.Value) || share(f.Value, g.Name) || share(f.Value, g.Value) {
				return true
			}
		}
	}
	return false
}

// What is right, what is wrong by its last field, and what is wrong by its table is asked for.
func TestEncodedArgumentsStayAndAnswersAreNewMemory(t *testing.T) {
	for _, b := range someBlocks() {
		for _, x := range []impl.Table{b.had, table(-1, b.had.Rows...)} {
			for _, fields := range [][]impl.Field{nil, b.had.Rows, b.fields, append(slices.Clone(b.fields), sized(41, 61))} {
				var w watched
				rows, allRows := w.amidst(x.Rows)
				given, allFields := w.amidst(fields)
				heldRows, heldFields := slices.Clone(allRows), slices.Clone(allFields)

				block, then, _ := impl.Encoded(table(x.Room, rows...), given)
				impl.Plain(given)
				impl.FieldOf(given, "Q")

				w.stay(t)
				if !slices.Equal(allRows, heldRows) || !slices.Equal(allFields, heldFields) {
					t.Errorf("Encoded(%#v, %#v) changed its arguments", x, fields)
				}
				w.apart(t, append(then.Rows, field(block, ""))...)
				if shareRows(then.Rows, allRows) || shareRows(then.Rows, allFields) || sharesTexts(then.Rows, list(field(block, ""))) {
					t.Errorf("Encoded(%#v, %#v): an answer shares its memory", x, fields)
				}
			}
		}
	}
}

func TestDecodedArgumentsStayAndAnswersAreNewMemory(t *testing.T) {
	for _, b := range someBlocks() {
		parts, _ := encodedAsWritten(b.had, b.fields)
		made := strings.Join(parts, "")
		for _, x := range []impl.Table{b.had, table(-1, b.had.Rows...)} {
			for _, text := range []string{"", "\x81\x81", made, made + "\x81", made + "\x00", made + "\x40\x01Z"} {
				var w watched
				rows, all := w.amidst(x.Rows)
				held := slices.Clone(all)
				block := w.field(field(text, "")).Name

				fields, then, _ := impl.Decoded(table(x.Room, rows...), block)

				w.stay(t)
				if !slices.Equal(all, held) {
					t.Errorf("Decoded(%#v, %q) changed its table: %#v", x, text, all)
				}
				w.apart(t, fields...)
				w.apart(t, then.Rows...)
				if shareRows(fields, all) || shareRows(then.Rows, all) || shareRows(fields, then.Rows) || sharesTexts(fields, then.Rows) {
					t.Errorf("Decoded(%#v, %q): an answer shares its memory", x, text)
				}
			}
		}
	}
}

func TestFieldOfAnswersNewMemory(t *testing.T) {
	for _, f := range slices.Concat(rightFields(), wrongFields()) {
		var w watched
		given, all := w.amidst(list(f, f))
		held := slices.Clone(all)
		name := w.field(field(f.Name, "")).Name
		value, _ := impl.FieldOf(given, name)
		w.stay(t)
		if !slices.Equal(all, held) {
			t.Errorf("FieldOf changed its list: %#v", all)
		}
		w.apart(t, field("", value))
	}
}
