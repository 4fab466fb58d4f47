package tests

import (
	"math"
	"slices"
	"strings"
	"testing"
	"unsafe"

	"loop.example/g00296/impl"
)

func field(name, value string) impl.Field { return impl.Field{Name: name, Value: value} }

// sized is a field of so many bytes in its Name and its Value.
func sized(name, value int) impl.Field {
	return field(strings.Repeat("n", name), strings.Repeat("v", value))
}

// weighing is a right field of this Weight, from 9 to 108, another one for another mark.
func weighing(weight int, mark byte) impl.Field {
	value := min(weight-9, 60)
	name := string([]byte{mark}) + strings.Repeat("n", weight-9-value)
	return field(name, strings.Repeat("v", value))
}

func table(room int64, rows ...impl.Field) impl.Table { return impl.Table{Room: room, Rows: rows} }

func sameTable(a, b impl.Table) bool { return a.Room == b.Room && slices.Equal(a.Rows, b.Rows) }

func isZeroTable(t impl.Table) bool { return t.Room == 0 && len(t.Rows) == 0 }

// repeated is n times the same row.
func repeated(f impl.Field, n int) []impl.Field { return slices.Repeat([]impl.Field{f}, n) }

func rightFields() []impl.Field {
	return []impl.Field{
		sized(1, 0), sized(1, 1), sized(1, 60), sized(2, 3), sized(39, 59), sized(40, 0), sized(40, 60),
		field("\x00", "\x00"), field("\xff", "\xff"), field(allBytes()[:40], allBytes()[196:]), field(" ", " "),
		field("é", "ü"), // bytes are counted, not runes
		field(strings.Repeat("é", 20), strings.Repeat("ü", 30)),
	}
}

func wrongFields() []impl.Field {
	return []impl.Field{
		{}, sized(0, 1), sized(0, 60), sized(0, 61), sized(41, 0), sized(41, 60), sized(41, 61), sized(1, 61), sized(40, 61),
		sized(1, 62), sized(42, 0), sized(1, 1000), sized(1000, 1), sized(296, 0), sized(1, 256), sized(1<<16, 0), sized(1, 1<<16),
		field(strings.Repeat("é", 21), ""), field("a", strings.Repeat("ü", 31)),
	}
}

func rightTables() []impl.Table {
	nine := sized(1, 0)
	return []impl.Table{
		{},
		{Rows: []impl.Field{}},
		table(1), table(8), table(9), table(9, nine), table(10, nine), table(17, nine), table(18, nine, nine),
		table(25, field("to", "b"), field("to", "a")),
		table(108, sized(40, 60)), table(109, sized(40, 60)),
		table(300, rightFields()[:5]...),
		table(999), table(999, repeated(nine, 111)...),
		table(1000), table(1000, repeated(nine, 111)...), table(1000, repeated(nine, 110)...),
		table(1000, repeated(sized(40, 60), 9)...),
		table(1000, append(repeated(nine, 110), sized(2, 0))...),                  // just 1000
		table(1000, append([]impl.Field{sized(2, 0)}, repeated(nine, 110)...)...), // likewise
		table(1000, append(repeated(sized(40, 60), 9), sized(1, 19))...),          // likewise
	}
}

// wrongTables each miss what chapter 5 wants by one thing.
func wrongTables() []impl.Table {
	nine := sized(1, 0)
	tables := []impl.Table{
		table(-1), table(math.MinInt64), table(1001), table(math.MaxInt64), table(1001, nine), table(-1, nine),
		table(1 << 32), table(1<<32+100, nine), table(math.MaxInt64, nine), table(math.MinInt64, nine),
		table(0, nine), table(8, nine), table(17, nine, nine), table(21, field("to", "b"), field("to", "a")),
		table(107, sized(40, 60)), table(1000, repeated(nine, 112)...), table(1000, repeated(nine, 113)...),
		table(1000, repeated(nine, 5000)...), table(998, repeated(nine, 111)...), table(0, repeated(nine, 112)...),
		table(1000, append(repeated(nine, 110), sized(2, 1))...),
		table(1000, append([]impl.Field{sized(3, 0)}, repeated(nine, 110)...)...),
		table(1000, append(repeated(sized(40, 60), 9), sized(1, 20))...),
		table(1000, repeated(sized(40, 60), 10)...),
	}
	for _, f := range wrongFields() {
		tables = append(tables, table(1000, f), table(1000, nine, f), table(1000, f, nine), table(1000, nine, f, nine))
	}
	return append(tables, table(0, field("", "")), table(1000, repeated(impl.Field{}, 111)...))
}

func TestWeight(t *testing.T) {
	for _, c := range []struct {
		f    impl.Field
		want int64
	}{
		{field("to", "a"), 11}, {sized(1, 0), 9}, {sized(1, 60), 69}, {sized(40, 0), 48}, {sized(40, 60), 108}, {field("é", "ü"), 12},
	} {
		if w := impl.Weight(c.f); w != c.want {
			t.Errorf("Weight(%#v): %d, not %d", c.f, w, c.want)
		}
	}
	for name := range 44 {
		for value := range 64 {
			want := int64(name + value + 8)
			if name < 1 || name > 40 || value > 60 {
				want = 0
			}
			if w := impl.Weight(sized(name, value)); w != want {
				t.Errorf("Weight with a Name of %d and a Value of %d bytes: %d, not %d", name, value, w, want)
			}
		}
	}
	for _, f := range wrongFields() {
		if w := impl.Weight(f); w != 0 {
			t.Errorf("Weight(%#v): %d", f, w)
		}
	}
}

func TestTableOk(t *testing.T) {
	if impl.MaxTable != 1000 {
		t.Error("MaxTable", impl.MaxTable)
	}
	for i, x := range rightTables() {
		if !impl.TableOk(x) {
			t.Errorf("right table %d is refused: %#v", i, x)
		}
	}
	for i, x := range wrongTables() {
		if impl.TableOk(x) {
			t.Errorf("wrong table %d is let: %#v", i, x)
		}
	}
}

// Each room, with rows that weigh just as much together, one less and one more.
func TestTableOkAtItsRoom(t *testing.T) {
	for room := 0; room <= impl.MaxTable; room++ {
		for _, rows := range [][]impl.Field{together(room-1, 20), together(room, 9), together(room, 50), together(room, 108)} {
			if !impl.TableOk(table(int64(room), rows...)) {
				t.Fatalf("a table of Room %d is refused: %#v", room, rows)
			}
		}
		for _, each := range []int{9, 50, 108} {
			over := together(room+1, each)
			if len(over) > 0 && impl.TableOk(table(int64(room), over...)) {
				t.Fatalf("a table of Room %d is let: %#v", room, over)
			}
		}
	}
}

// together are rows of about this Weight each that weigh total in all, or none where none do.
func together(total, each int) []impl.Field {
	var rows []impl.Field
	for total >= each+9 {
		rows = append(rows, weighing(each, byte('a'+len(rows)%26)))
		total -= each
	}
	if total > 108 {
		rows = append(rows, weighing(total/2, 'y'))
		total -= total / 2
	}
	if total < 9 {
		return nil
	}
	return append(rows, weighing(total, 'z'))
}

func TestNoted(t *testing.T) {
	a, b, c := field("to", "a"), field("to", "b"), field("from", "c") // 11, 11 and 13
	for _, x := range []struct {
		had  impl.Table
		f    impl.Field
		want impl.Table
	}{
		{table(25), a, table(25, a)},
		{table(25, a), b, table(25, b, a)},
		{table(22, a), b, table(22, b, a)},
		{table(21, a), b, table(21, b)},
		{table(22, a), a, table(22, a, a)}, // the same twice is there twice
		{table(21, a), a, table(21, a)},
		{table(25, b, a), c, table(25, c, b)},
		{table(24, b, a), c, table(24, c, b)},
		{table(23, b, a), c, table(23, c)},
		{table(34, b, a), c, table(34, c, b)},
		{table(35, b, a), c, table(35, c, b, a)},
		{table(13, a), c, table(13, c)},
		{table(12, a), c, table(12)}, // it is too great for the room: all go, it itself too
		{table(12), c, table(12)},
		{table(0), c, table(0)},
		{table(0), sized(1, 0), table(0)},
		{table(8), sized(1, 0), table(8)},
		{table(9), sized(1, 0), table(9, sized(1, 0))},
		{table(107, a, b), sized(40, 60), table(107)},
		{table(108, a, b), sized(40, 60), table(108, sized(40, 60))},
		{table(119, a, b), sized(40, 60), table(119, sized(40, 60), a)},
		{table(1000, repeated(a, 90)...), b, table(1000, append([]impl.Field{b}, repeated(a, 89)...)...)},
		{table(1000, repeated(a, 90)...), sized(40, 60), table(1000, append([]impl.Field{sized(40, 60)}, repeated(a, 81)...)...)},
		{table(1000, repeated(sized(1, 0), 111)...), sized(1, 1), table(1000, append([]impl.Field{sized(1, 1)}, repeated(sized(1, 0), 110)...)...)},
		{table(1000, repeated(sized(1, 0), 110)...), sized(1, 1), table(1000, append([]impl.Field{sized(1, 1)}, repeated(sized(1, 0), 110)...)...)},
		{table(1000, repeated(sized(1, 0), 110)...), sized(1, 2), table(1000, append([]impl.Field{sized(1, 2)}, repeated(sized(1, 0), 109)...)...)},
		{table(1000, repeated(sized(40, 60), 9)...), a, table(1000, append([]impl.Field{a}, repeated(sized(40, 60), 9)...)...)},
	} {
		got, is := impl.Noted(x.had, x.f)
		if !is || !sameTable(got, x.want) || !impl.TableOk(got) {
			t.Errorf("Noted(%#v, %#v): %#v, %v, not %#v", x.had, x.f, got, is, x.want)
		}
	}
}

// notedAsWritten is the table of which the document tells, row by row.
func notedAsWritten(x impl.Table, f impl.Field) impl.Table {
	return fitted(table(x.Room, append([]impl.Field{f}, x.Rows...)...))
}

func fitted(x impl.Table) impl.Table {
	for {
		sum := int64(0)
		for _, row := range x.Rows {
			sum += int64(len(row.Name) + len(row.Value) + 8)
		}
		if sum <= x.Room {
			return x
		}
		x.Rows = x.Rows[:len(x.Rows)-1]
	}
}

// A table stays right, whatever is Noted; and what is Noted is the first, where there is room.
func TestATableStaysRight(t *testing.T) {
	for _, room := range []int64{0, 1, 8, 9, 10, 17, 18, 19, 50, 107, 108, 109, 117, 216, 500, 990, 998, 999, 1000} {
		seed := uint32(room)
		next := func(n uint32) int {
			seed = seed*1664525 + 1013904223
			return int(seed >> 8 % n)
		}
		x := table(room)
		for range 400 {
			f := field(someSigns(1+next(40), seed), someSigns(next(61), seed))
			if next(3) > 0 {
				f = field(someSigns(1+next(2), seed), someSigns(next(3), seed))
			}
			want := notedAsWritten(x, f)
			if next(10) == 0 {
				f = wrongFields()[next(uint32(len(wrongFields())))]
				want = x
			}
			got, is := impl.Noted(x, f)
			if is != (impl.Weight(f) > 0) || !sameTable(got, want) {
				t.Fatalf("Noted(%#v, %#v): %#v, %v, not %#v", x, f, got, is, want)
			}
			if !impl.TableOk(got) || got.Room != room {
				t.Fatalf("Noted(%#v, %#v) is not right: %#v", x, f, got)
			}
			if first, there := impl.RowAt(got, 1); is && impl.Weight(f) <= room && (!there || first != f) {
				t.Fatalf("Noted(%#v, %#v): the first is %#v, %v", x, f, first, there)
			}
			if n, there := impl.Lookup(got, f); is && impl.Weight(f) <= room && (n != 1 || !there) {
				t.Fatalf("Noted(%#v, %#v): looked up it is %d, %v", x, f, n, there)
			}
			x = got
		}
		if room < 900 {
			continue
		}
		for to := room; to >= 0; to -= 7 {
			got, is := impl.Resized(x, to)
			if want := fitted(table(to, x.Rows...)); !is || !sameTable(got, want) || !impl.TableOk(got) {
				t.Fatalf("Resized(%#v, %d): %#v, %v", x, to, got, is)
			}
		}
	}
}

func TestNotedOfAFieldThatIsNotRight(t *testing.T) {
	for _, x := range rightTables() {
		for _, f := range wrongFields() {
			if got, is := impl.Noted(x, f); is || !sameTable(got, x) {
				t.Errorf("Noted(%#v, %#v): %#v, %v", x, f, got, is)
			}
		}
	}
}

func TestNotedOfEachRightFieldInEachRightTable(t *testing.T) {
	for _, x := range rightTables() {
		for _, f := range rightFields() {
			if got, is := impl.Noted(x, f); !is || !sameTable(got, notedAsWritten(x, f)) {
				t.Errorf("Noted(%#v, %#v): %#v, %v", x, f, got, is)
			}
		}
	}
}

func TestResized(t *testing.T) {
	a, b, c := field("to", "a"), field("to", "b"), field("from", "c")
	full := table(35, c, b, a)
	for _, x := range []struct {
		room int64
		want impl.Table
	}{
		{1000, table(1000, c, b, a)},
		{999, table(999, c, b, a)},
		{36, table(36, c, b, a)},
		{35, table(35, c, b, a)},
		{34, table(34, c, b)},
		{24, table(24, c, b)},
		{23, table(23, c)},
		{13, table(13, c)},
		{12, table(12)}, // the later ones would fit, but they go first
		{1, table(1)},
		{0, table(0)},
	} {
		got, is := impl.Resized(full, x.room)
		if !is || !sameTable(got, x.want) || !impl.TableOk(got) {
			t.Errorf("Resized(%#v, %d): %#v, %v, not %#v", full, x.room, got, is, x.want)
		}
	}
	for _, x := range rightTables() {
		for room := int64(0); room <= impl.MaxTable; room += 37 {
			got, is := impl.Resized(x, room)
			if want := fitted(table(room, x.Rows...)); !is || !sameTable(got, want) {
				t.Errorf("Resized(%#v, %d): %#v, %v", x, room, got, is)
			}
		}
	}
}

func TestResizedOutOfRange(t *testing.T) {
	for _, x := range rightTables() {
		for _, room := range []int64{-1, -2, -1000, math.MinInt64, 1001, 1002, 1 << 32, 1<<32 + 5, math.MaxInt64} {
			if got, is := impl.Resized(x, room); is || !sameTable(got, x) {
				t.Errorf("Resized(%#v, %d): %#v, %v", x, room, got, is)
			}
		}
	}
}

func TestNotedAndResizedOfATableThatIsNotRight(t *testing.T) {
	for _, x := range wrongTables() {
		for _, f := range append(rightFields(), wrongFields()...) {
			if got, is := impl.Noted(x, f); is || !isZeroTable(got) {
				t.Errorf("Noted(%#v, %#v): %#v, %v", x, f, got, is)
			}
		}
		for _, room := range []int64{0, 1, 500, 1000, -1, 1001, math.MinInt64, math.MaxInt64} {
			if got, is := impl.Resized(x, room); is || !isZeroTable(got) {
				t.Errorf("Resized(%#v, %d): %#v, %v", x, room, got, is)
			}
		}
	}
}

func TestRowAt(t *testing.T) {
	for _, x := range rightTables() {
		count := int64(len(x.Rows))
		for n := int64(1); n <= count; n++ {
			if row, is := impl.RowAt(x, n); !is || row != x.Rows[n-1] {
				t.Fatalf("RowAt(%#v, %d): %#v, %v", x, n, row, is)
			}
		}
		for _, n := range []int64{0, -1, -count, count + 1, count + 2, 1 << 32, 1<<32 + 1, math.MaxInt64, math.MinInt64, math.MinInt64 + 1} {
			if row, is := impl.RowAt(x, n); is || row != (impl.Field{}) {
				t.Errorf("RowAt(%#v, %d): %#v, %v", x, n, row, is)
			}
		}
	}
}

// Each of the rows is asked for, the right ones too: what is wrong may stand elsewhere.
func TestRowAtOfATableThatIsNotRight(t *testing.T) {
	for _, x := range wrongTables() {
		for n := int64(-1); n <= int64(len(x.Rows))+1; n++ {
			if row, is := impl.RowAt(x, n); is || row != (impl.Field{}) {
				t.Fatalf("RowAt(%#v, %d): %#v, %v", x, n, row, is)
			}
		}
	}
}

func TestLookup(t *testing.T) {
	a, b, c, d := field("to", "a"), field("to", "b"), field("from", "c"), field("t", "oa")
	for _, x := range []struct {
		rows []impl.Field
		f    impl.Field
		n    int64
		is   bool
	}{
		{nil, a, 0, false},
		{[]impl.Field{a}, a, 1, true},
		{[]impl.Field{b}, a, 1, false},
		{[]impl.Field{c}, a, 0, false},
		{[]impl.Field{d}, a, 0, false}, // the same bytes in all, but another Name
		{[]impl.Field{b, a}, a, 2, true},
		{[]impl.Field{b, a}, b, 1, true},
		{[]impl.Field{a, a}, a, 1, true},
		{[]impl.Field{c, a, b, a}, a, 2, true},
		{[]impl.Field{b, b, c, a, a}, a, 4, true},
		{[]impl.Field{c, b, a}, field("to", "c"), 2, false},
		{[]impl.Field{c, b, a}, field("to", ""), 2, false},
		{[]impl.Field{c, b, a}, field("from", ""), 1, false},
		{[]impl.Field{c, b, a}, field("From", "c"), 0, false},
		{[]impl.Field{c, b, a}, field("fro", "mc"), 0, false},
		{[]impl.Field{c, b, a}, field("a", "to"), 0, false}, // no Value is taken for a Name
		{[]impl.Field{field("to", ""), a}, field("to", ""), 1, true},
		{[]impl.Field{a, field("to", "")}, field("to", ""), 2, true},
		{[]impl.Field{c, b, a}, impl.Field{}, 0, false},
		{[]impl.Field{c, b, a}, field("", "a"), 0, false},
		{[]impl.Field{c, b, a}, sized(41, 61), 0, false},
		{[]impl.Field{c, b, a}, field("to", strings.Repeat("v", 60)), 2, false},
		{[]impl.Field{c, b, a}, field("to", strings.Repeat("v", 61)), 2, false}, // no right field, but its Name is there
		{[]impl.Field{c, b, a}, field("from", strings.Repeat("v", 1000)), 1, false},
		{[]impl.Field{c, b, a}, field("via", strings.Repeat("v", 61)), 0, false},
		{[]impl.Field{c, field("to", strings.Repeat("v", 60))}, field("to", strings.Repeat("v", 61)), 2, false}, // its first 60 bytes are not it
	} {
		if n, is := impl.Lookup(table(1000, x.rows...), x.f); n != x.n || is != x.is {
			t.Errorf("Lookup(%#v, %#v): %d, %v, not %d, %v", x.rows, x.f, n, is, x.n, x.is)
		}
	}
}

// lookedUpAsWritten is the number of which the document tells, and whether the row is alike.
func lookedUpAsWritten(x impl.Table, f impl.Field) (int64, bool) {
	if alike := slices.Index(x.Rows, f); alike >= 0 {
		return int64(alike) + 1, true
	}
	named := slices.IndexFunc(x.Rows, func(row impl.Field) bool { return row.Name == f.Name })
	return int64(named) + 1, false
}

func TestLookupOfEachRow(t *testing.T) {
	for _, x := range rightTables() {
		for _, f := range append(slices.Clone(x.Rows), rightFields()...) {
			want, alike := lookedUpAsWritten(x, f)
			if n, is := impl.Lookup(x, f); n != want || is != alike {
				t.Fatalf("Lookup(%#v, %#v): %d, %v, not %d, %v", x, f, n, is, want, alike)
			}
		}
	}
}

// A row alike, and one with the Name alone, are asked for: neither has a number there.
func TestLookupInATableThatIsNotRight(t *testing.T) {
	for _, x := range wrongTables() {
		for _, f := range append(slices.Clone(x.Rows), rightFields()...) {
			for _, f := range []impl.Field{f, field(f.Name, f.Value+"v"), field(f.Name, "")} {
				if n, is := impl.Lookup(x, f); n != 0 || is {
					t.Fatalf("Lookup(%#v, %#v): %d, %v", x, f, n, is)
				}
			}
		}
	}
}

// Of a field that is not right the Name is looked up all the same.
func TestLookupOfAFieldThatIsNotRight(t *testing.T) {
	named := table(1000, append(rightFields(), field("n", "a"))...)
	for _, x := range append(rightTables(), named) {
		for _, f := range wrongFields() {
			want, _ := lookedUpAsWritten(x, f)
			if n, is := impl.Lookup(x, f); n != want || is {
				t.Errorf("Lookup(%#v, %#v): %d, %v, not %d", x, f, n, is, want)
			}
		}
	}
}

// Each row is asked for by its Name, with a Value that begins as its own and is too long.
func TestLookupOfAValueThatIsTooLong(t *testing.T) {
	for _, x := range append(rightTables(), table(21, field(":status", "b.y"))) {
		for _, row := range x.Rows {
			for _, more := range []int{61, 62, 200, 256, 1 << 16} {
				for _, fill := range []string{"\x00", "v"} {
					f := field(row.Name, row.Value+strings.Repeat(fill, more))
					want, _ := lookedUpAsWritten(x, f)
					if n, is := impl.Lookup(x, f); n != want || n < 1 || is {
						t.Fatalf("Lookup(%#v, %#v and %d bytes): %d, %v, not %d", x, row, more, n, is, want)
					}
				}
			}
		}
	}
}

// A row of a right table has a right Name, so that no other one is found, whatever its Value.
func TestLookupOfANameThatIsNotRight(t *testing.T) {
	for _, x := range rightTables() {
		for _, name := range []string{"", strings.Repeat("n", 41), strings.Repeat("n", 1000)} {
			for _, value := range []int{0, 1, 60, 61, 200} {
				if n, is := impl.Lookup(x, field(name, strings.Repeat("v", value))); n != 0 || is {
					t.Errorf("Lookup(%#v, a Name of %d and a Value of %d bytes): %d, %v", x, len(name), value, n, is)
				}
			}
		}
	}
}

// overBuffer is the text over a buffer of its own, which shows a write into it.
func overBuffer(text string) (string, []byte) {
	buffer := append([]byte(text), 0xa5)
	return unsafe.String(&buffer[0], len(text)), buffer
}

// watched is a field or a table whose texts lie over buffers, with what they held.
type watched struct {
	buffers [][]byte
	texts   []string
}

func (w *watched) field(f impl.Field) impl.Field {
	name, nameBuffer := overBuffer(f.Name)
	value, valueBuffer := overBuffer(f.Value)
	w.buffers = append(w.buffers, nameBuffer, valueBuffer)
	w.texts = append(w.texts, strings.Clone(f.Name), strings.Clone(f.Value))
	return field(name, value)
}

func (w *watched) stay(t *testing.T) {
	t.Helper()
	for i, buffer := range w.buffers {
		if string(buffer) != w.texts[i]+"\xa5" {
			t.Errorf("%#v was written into: %#v", w.texts[i], buffer)
		}
	}
}

// amidst are the fields, watched, with others ahead of and behind them: a write beside them would
// be seen in all of them.
func (w *watched) amidst(fields []impl.Field) (given, all []impl.Field) {
	all = append(all, w.field(field("ahead", "a")))
	for _, f := range fields {
		all = append(all, w.field(f))
	}
	all = append(all, w.field(field("behind", "b")), w.field(field("behind", "c")))
	return all[1 : 1+len(fields)], all
}

// apart asks that the fields share no memory with what is watched.
func (w *watched) apart(t *testing.T, fields ...impl.Field) {
	t.Helper()
	for _, f := range fields {
		for _, buffer := range w.buffers {
			s := unsafe.String(&buffer[0], len(buffer))
			if share(f.Name, s) || share(f.Value, s) {
				t.Errorf("the answer %#v shares its memory with an argument", f)
			}
		}
	}
}

func shareRows(a, b []impl.Field) bool {
	if cap(a) == 0 || cap(b) == 0 {
		return false
	}
	size := unsafe.Sizeof(impl.Field{})
	from, other := uintptr(unsafe.Pointer(unsafe.SliceData(a))), uintptr(unsafe.Pointer(unsafe.SliceData(b)))
	return meet([2]uintptr{from, from + uintptr(cap(a))*size}, [2]uintptr{other, other + uintptr(cap(b))*size})
}

func TestTableArgumentsStayAndAnswersAreNewMemory(t *testing.T) {
	fields := append(rightFields()[:7], wrongFields()[:9]...)
	for _, x := range append(rightTables(), wrongTables()[:30]...) {
		for _, f := range fields {
			var w watched
			rows, all := w.amidst(x.Rows)
			given := table(x.Room, rows...)
			held := slices.Clone(all)
			asked := w.field(f)

			noted, _ := impl.Noted(given, asked)
			resized, _ := impl.Resized(given, 30)
			refused, _ := impl.Resized(given, -1)
			row, _ := impl.RowAt(given, 1)
			impl.Lookup(given, asked)
			impl.Weight(asked)
			impl.TableOk(given)

			w.stay(t)
			if !slices.Equal(all, held) || given.Room != x.Room {
				t.Errorf("%#v was changed: %#v", x, all)
			}
			w.apart(t, row)
			for _, answer := range []impl.Table{noted, resized, refused} {
				w.apart(t, answer.Rows...)
				if shareRows(answer.Rows, all) {
					t.Errorf("the rows of %#v are those of the argument", answer)
				}
			}
		}
	}
}
