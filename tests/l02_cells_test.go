package tests

import (
	"math"
	"slices"
	"testing"
	"unsafe"

	"loop.example/g00296/impl"
)

func load(cell int64) impl.Step { return impl.Step{Kind: impl.CeLoad, Cell: cell} }

func store(cell, add int64) impl.Step { return impl.Step{Kind: impl.CeStore, Cell: cell, Add: add} }

func swap(cell, add int64) impl.Step { return impl.Step{Kind: impl.CeSwap, Cell: cell, Add: add} }

func cells(c ...int64) []int64 { return c }

func steps(s ...impl.Step) []impl.Step { return s }

func memory(c []int64, threads ...impl.Thread) impl.Memory {
	return impl.Memory{Cells: c, Threads: threads}
}

// sameMemory takes an empty list and nil for the same.
func sameMemory(a, b impl.Memory) bool {
	return slices.Equal(a.Cells, b.Cells) && slices.EqualFunc(a.Threads, b.Threads, sameThread)
}

func sameThread(a, b impl.Thread) bool {
	return slices.Equal(a.Steps, b.Steps) && a.At == b.At && a.Seen == b.Seen && a.Won == b.Won
}

func isZeroMemory(m impl.Memory) bool { return len(m.Cells) == 0 && len(m.Threads) == 0 }

// copyOf is written anew, so that a fault of the program's own copying shows.
func copyOf(m impl.Memory) impl.Memory {
	x := impl.Memory{Cells: slices.Clone(m.Cells), Threads: make([]impl.Thread, len(m.Threads))}
	for i, t := range m.Threads {
		t.Steps = slices.Clone(t.Steps)
		x.Threads[i] = t
	}
	return x
}

func someSteps(n int) []impl.Step {
	s := make([]impl.Step, n)
	for i := range s {
		s[i] = impl.Step{Kind: int64(i)%3 + 1, Cell: int64(i) % 4, Add: int64(i) * 5}
	}
	return s
}

// rightMemories are memories as chapter 2 wants them, at and between its edges.
func rightMemories() []impl.Memory {
	all := int64(impl.MaxCell)
	add := steps(load(0), swap(0, 1))
	return []impl.Memory{
		memory(cells(0, 0, 0, 0)),
		memory(cells(all, all, all, all)),
		memory(cells(1, 2, 3, 4), impl.Thread{}),
		memory(cells(1, 2, 3, 4), impl.Thread{Steps: steps(), Seen: all, Won: all}),
		memory(cells(1, 2, 3, 4), impl.Thread{Steps: add}, impl.Thread{Steps: add}),
		memory(cells(1, 2, 3, 4), impl.Thread{Steps: add, At: 1, Seen: 1}, impl.Thread{Steps: add, At: 2, Seen: 3, Won: 1}),
		memory(cells(0, all, 0, 1), impl.Thread{Steps: steps(store(3, 100), swap(3, 100), load(3)), Seen: all - 100}),
		memory(cells(0, 0, 0, 0), impl.Thread{Steps: steps(impl.Step{Kind: impl.CeLoad, Cell: 3, Add: 100})}),
		memory(cells(9, 9, 9, 9), impl.Thread{Steps: someSteps(20)}, impl.Thread{Steps: someSteps(20), At: 20}),
		memory(cells(9, 9, 9, 9), make([]impl.Thread, 6)...),
		memory(cells(9, 8, 7, 6), impl.Thread{Steps: add}, impl.Thread{}, impl.Thread{Steps: someSteps(3), At: 1},
			impl.Thread{Steps: someSteps(4), At: 4}, impl.Thread{Steps: someSteps(5), At: 2, Seen: 7}, impl.Thread{Steps: someSteps(6), Won: 5}),
	}
}

// wrongMemories each miss what chapter 2 wants by one thing.
func wrongMemories() []impl.Memory {
	good := func() []int64 { return cells(1, 2, 3, 4) }
	add := steps(load(0), swap(0, 1))
	wrong := []impl.Memory{
		{},
		{Cells: cells()},
		{Cells: cells(1, 2, 3)},
		{Cells: cells(1, 2, 3, 4, 5)},
		{Threads: []impl.Thread{{Steps: add}}},
		memory(cells(1, 2, 3), impl.Thread{Steps: add}),
		memory(cells(1, 2, 3, 4, 5), impl.Thread{Steps: add}),
		memory(good(), make([]impl.Thread, 7)...),
		memory(good(), impl.Thread{Steps: someSteps(21)}),
		memory(good(), impl.Thread{Steps: add}, impl.Thread{Steps: someSteps(21), At: 21}),
	}
	for _, n := range []int64{-1, impl.MaxCell + 1, math.MinInt64, math.MaxInt64, 1 << 32} {
		for at := range 4 {
			c := good()
			c[at] = n
			wrong = append(wrong, memory(c), memory(c, impl.Thread{Steps: add}))
		}
		wrong = append(wrong, memory(good(), impl.Thread{Steps: add, Seen: n}), memory(good(), impl.Thread{Steps: add, Won: n}))
		wrong = append(wrong, memory(good(), impl.Thread{Seen: n}), memory(good(), impl.Thread{}, impl.Thread{Won: n}))
	}
	for _, n := range []int64{-1, 3, 20, math.MinInt64, math.MaxInt64, 1 << 32} {
		wrong = append(wrong, memory(good(), impl.Thread{Steps: add, At: n}), memory(good(), impl.Thread{Steps: add}, impl.Thread{Steps: add, At: n}))
	}
	wrong = append(wrong, memory(good(), impl.Thread{At: 1}), memory(good(), impl.Thread{At: -1}))
	for _, s := range wrongSteps() {
		wrong = append(wrong, memory(good(), impl.Thread{Steps: steps(s)}))
		wrong = append(wrong, memory(good(), impl.Thread{Steps: add}, impl.Thread{Steps: steps(load(0), load(1), s), At: 0}))
		// A Step that is done already has to be right as well.
		wrong = append(wrong, memory(good(), impl.Thread{Steps: steps(s, load(0)), At: 1}), memory(good(), impl.Thread{Steps: steps(s), At: 1}))
	}
	return wrong
}

func wrongSteps() []impl.Step {
	var wrong []impl.Step
	for _, n := range []int64{0, 4, -1, math.MinInt64, math.MaxInt64, 1<<32 + 1} {
		wrong = append(wrong, impl.Step{Kind: n})
	}
	for kind := int64(1); kind <= 3; kind++ {
		for _, n := range []int64{-1, 4, math.MinInt64, math.MaxInt64, 1 << 32} {
			wrong = append(wrong, impl.Step{Kind: kind, Cell: n})
		}
		for _, n := range []int64{-1, 101, math.MinInt64, math.MaxInt64, 1 << 32} {
			wrong = append(wrong, impl.Step{Kind: kind, Add: n})
		}
	}
	return wrong
}

func TestMemoryOk(t *testing.T) {
	if impl.CeLoad != 1 || impl.CeStore != 2 || impl.CeSwap != 3 || impl.MaxCell != 1000000 {
		t.Error(impl.CeLoad, impl.CeStore, impl.CeSwap, impl.MaxCell)
	}
	for i, m := range rightMemories() {
		if !impl.MemoryOk(m) {
			t.Errorf("right memory %d is refused: %#v", i, m)
		}
	}
	for i, m := range wrongMemories() {
		if impl.MemoryOk(m) {
			t.Errorf("wrong memory %d is accepted: %#v", i, m)
		}
	}
}

// One Thread, one Step: what the Step does to the Cell and to the Thread.
func TestPickedDoesTheStep(t *testing.T) {
	all := int64(impl.MaxCell)
	for _, c := range []struct {
		step                     impl.Step
		cell, seen, won          int64
		cellNow, seenNow, wonNow int64
	}{
		{load(2), 7, 3, 1, 7, 7, 1},
		{load(2), 0, 3, 1, 0, 0, 1},
		{load(2), all, 0, all, all, all, all},
		{impl.Step{Kind: impl.CeLoad, Cell: 2, Add: 100}, all, 3, 1, all, all, 1},
		{impl.Step{Kind: impl.CeLoad, Cell: 2, Add: 100}, 7, all, 1, 7, 7, 1},
		{store(2, 0), 7, 3, 1, 3, 3, 1},
		{store(2, 5), 7, 3, 1, 8, 3, 1},
		{store(2, 100), 7, 0, all, 100, 0, all},
		{store(2, 5), 3, 3, 1, 8, 3, 1},
		{store(2, 0), 7, all, 1, all, all, 1},
		{store(2, 1), 7, all - 1, 1, all, all - 1, 1},
		{store(2, 100), all, all - 100, 1, all, all - 100, 1},
		{swap(2, 1), 7, 7, 1, 8, 7, 2},
		{swap(2, 0), 7, 7, 1, 7, 7, 2},
		{swap(2, 100), 7, 7, 0, 107, 7, 1},
		{swap(2, 1), 7, 6, 1, 7, 6, 1},
		{swap(2, 1), 7, 8, 1, 7, 8, 1},
		{swap(2, 0), all, all, 1, all, all, 2},
		{swap(2, 1), all - 1, all - 1, all - 1, all, all - 1, all},
		{swap(2, 100), all - 100, all - 100, 1, all, all - 100, 2},
		// A swap that does not find what was Seen writes no number at all.
		{swap(2, 100), 7, all, all, 7, all, all},
		{swap(2, 1), 7, 6, all, 7, 6, all},
	} {
		before := memory(cells(11, 12, c.cell, 13), impl.Thread{Steps: steps(c.step), Seen: c.seen, Won: c.won})
		after := memory(cells(11, 12, c.cellNow, 13), impl.Thread{Steps: steps(c.step), At: 1, Seen: c.seenNow, Won: c.wonNow})
		if m, is := impl.Picked(before, 0); !is || !sameMemory(m, after) {
			t.Errorf("Picked(%#v, 0): %#v, %v", before, m, is)
		}
	}
}

func TestPickedTakesTheThreadTheStepAndTheCell(t *testing.T) {
	other := impl.Thread{Steps: steps(store(0, 9), store(0, 9)), At: 1, Seen: 50, Won: 2}
	for i := range int64(6) {
		for at := range int64(4) {
			own := impl.Thread{Steps: steps(store(0, 10), store(1, 20), store(2, 30), store(3, 40)), At: at, Seen: 5, Won: 3}
			before := memory(cells(1, 2, 3, 4), other, other, other, other, other, other)
			before.Threads[i] = own
			after := copyOf(before)
			after.Threads[i].At++
			after.Cells[at] = 5 + 10*(at+1)
			if m, is := impl.Picked(before, i); !is || !sameMemory(m, after) {
				t.Errorf("Picked(%#v, %d): %#v, %v", before, i, m, is)
			}
		}
	}
}

func TestPickedThatCantBeDoneLeavesItAsItIs(t *testing.T) {
	all := int64(impl.MaxCell)
	for _, m := range rightMemories() {
		n := int64(len(m.Threads))
		for _, i := range []int64{-1, n, n + 1, 7, math.MinInt64, math.MaxInt64, 1 << 32, -1 << 32} {
			if x, is := impl.Picked(m, i); is || !sameMemory(x, m) {
				t.Errorf("Picked(%#v, %d): %#v, %v", m, i, x, is)
			}
		}
		for i, one := range m.Threads {
			if x, is := impl.Picked(m, int64(i)); one.At == int64(len(one.Steps)) && (is || !sameMemory(x, m)) {
				t.Errorf("Picked(%#v, %d), which is through: %#v, %v", m, i, x, is)
			}
		}
	}
	for _, one := range []impl.Thread{
		{Steps: steps(store(1, 1)), Seen: all},
		{Steps: steps(store(1, 100)), Seen: all},
		{Steps: steps(store(1, 100)), Seen: all - 99},
		{Steps: steps(load(0), store(1, 2)), At: 1, Seen: all - 1},
		{Steps: steps(swap(3, 1)), Seen: all, Won: 1},
		{Steps: steps(swap(2, 100)), Seen: all - 99, Won: 1},
		{Steps: steps(swap(0, 1)), Seen: 4, Won: all},
		{Steps: steps(swap(0, 0)), Seen: 4, Won: all},
	} {
		m := memory(cells(4, 5, all-99, all), impl.Thread{Steps: steps(load(0))}, one)
		if x, is := impl.Picked(m, 1); is || !sameMemory(x, m) {
			t.Errorf("Picked(%#v, 1): %#v, %v", m, x, is)
		}
		// The rest goes on: the number that is too great stops its own Thread alone.
		if x := impl.Played(m, []int64{1, 0, 1}); x.Threads[0].At != 1 || !sameThread(x.Threads[1], one) {
			t.Errorf("Played(%#v): %#v", m, x)
		}
	}
}

func TestPickedAtTheMostStepsAndThreads(t *testing.T) {
	m := memory(cells(0, 0, 0, 0), make([]impl.Thread, 6)...)
	for i := range m.Threads {
		m.Threads[i].Steps = slices.Repeat(steps(load(1), swap(1, 1)), 10)
	}
	for n := range int64(120) {
		x, is := impl.Picked(m, n/20)
		if !is || impl.Through(m) || !impl.MemoryOk(x) {
			t.Fatalf("pick %d: %#v", n, x)
		}
		m = x
	}
	if !impl.Through(m) || impl.Wins(m) != 60 || m.Cells[1] != 60 {
		t.Errorf("%#v", m)
	}
	for i := range int64(6) {
		if x, is := impl.Picked(m, i); is || !sameMemory(x, m) {
			t.Errorf("it is through: %#v, %v", x, is)
		}
	}
}

func TestPlayed(t *testing.T) {
	add := steps(load(0), swap(0, 1))
	blind := steps(load(0), store(0, 1))
	for _, c := range []struct {
		first, second []impl.Step
		picks         []int64
		cell          int64
		wins          int64
		through       bool
	}{
		{add, add, nil, 4, 0, false},
		{add, add, []int64{0, 0, 1, 1}, 6, 2, true},
		{add, add, []int64{1, 1, 0, 0}, 6, 2, true},
		{add, add, []int64{0, 1, 0, 1}, 5, 1, true},
		{add, add, []int64{0, 1, 1, 0}, 5, 1, true},
		{add, add, []int64{0, 1, 1}, 5, 1, false},
		{add, add, []int64{0, 0}, 5, 1, false},
		{blind, blind, []int64{0, 0, 1, 1}, 6, 0, true},
		{blind, blind, []int64{0, 1, 0, 1}, 5, 0, true},
		{blind, add, []int64{0, 1, 1, 0}, 5, 1, true},
		{blind, add, []int64{0, 1, 0, 1}, 5, 0, true},
		{blind, add, []int64{0, 0, 1, 1}, 6, 1, true},
		// Picks that can't be done are passed over, wherever they stand.
		{add, add, []int64{-1, 0, 2, 0, 0, 0, 7, 1, math.MinInt64, 1, 1, math.MaxInt64}, 6, 2, true},
	} {
		m := memory(cells(4, 1, 2, 3), impl.Thread{Steps: c.first}, impl.Thread{Steps: c.second})
		x := impl.Played(m, c.picks)
		if !impl.MemoryOk(x) || !slices.Equal(x.Cells, cells(c.cell, 1, 2, 3)) || impl.Wins(x) != c.wins || impl.Through(x) != c.through {
			t.Errorf("Played(%#v, %v): %#v", m, c.picks, x)
		}
	}
}

// A value that left and came back is still Seen.
func TestSwapSeesOnlyTheValue(t *testing.T) {
	m := memory(cells(0, 3, 0, 0),
		impl.Thread{Steps: steps(load(1), swap(1, 1))},
		impl.Thread{Steps: steps(load(1), store(1, 2), store(1, 0))})
	if x := impl.Played(m, []int64{0, 1, 1, 1, 0}); x.Cells[1] != 4 || impl.Wins(x) != 1 {
		t.Errorf("%#v", x)
	}
	if x := impl.Played(m, []int64{0, 1, 1, 0, 1}); x.Cells[1] != 3 || impl.Wins(x) != 0 {
		t.Errorf("%#v", x)
	}
}

func TestPlayedAtTheMostPicks(t *testing.T) {
	m := memory(cells(0, 0, 0, 0), impl.Thread{Steps: slices.Repeat(steps(load(0), swap(0, 1)), 10)})
	picks := make([]int64, 200)
	if x := impl.Played(m, picks); !impl.Through(x) || x.Cells[0] != 10 || impl.Wins(x) != 10 {
		t.Errorf("200 picks: %#v", x)
	}
	// What is picked last counts as what is picked first does.
	for i := range picks[:199] {
		picks[i] = 9
	}
	if x := impl.Played(m, picks); len(x.Threads) != 1 || x.Threads[0].At != 1 {
		t.Errorf("200 picks: %#v", x)
	}
	for _, n := range []int{201, 202, 456, 1 << 16} {
		if x := impl.Played(m, make([]int64, n)); !isZeroMemory(x) {
			t.Errorf("%d picks: %#v", n, x)
		}
	}
	if x := impl.Played(memory(cells(1, 2, 3, 4)), make([]int64, 200)); !sameMemory(x, memory(cells(1, 2, 3, 4))) {
		t.Errorf("no Thread: %#v", x)
	}
}

func TestThroughAndWins(t *testing.T) {
	all := int64(impl.MaxCell)
	one := steps(load(0))
	for _, c := range []struct {
		m       impl.Memory
		through bool
		wins    int64
	}{
		{memory(cells(1, 2, 3, 4)), true, 0},
		{memory(cells(1, 2, 3, 4), impl.Thread{}), true, 0},
		{memory(cells(1, 2, 3, 4), impl.Thread{Won: 9}), true, 9},
		{memory(cells(1, 2, 3, 4), impl.Thread{Steps: one}), false, 0},
		{memory(cells(1, 2, 3, 4), impl.Thread{Steps: one, At: 1, Won: 3}), true, 3},
		{memory(cells(1, 2, 3, 4), impl.Thread{Steps: one, Won: 3}, impl.Thread{Steps: one, At: 1, Won: 4}), false, 7},
		{memory(cells(1, 2, 3, 4), impl.Thread{Steps: one, At: 1, Won: 4}, impl.Thread{Steps: one, Won: 3}), false, 7},
		{memory(cells(1, 2, 3, 4), impl.Thread{Steps: someSteps(20), At: 19}), false, 0},
		{memory(cells(1, 2, 3, 4), impl.Thread{Steps: someSteps(20), At: 20}), true, 0},
		{memory(cells(1, 2, 3, 4), slices.Repeat([]impl.Thread{{Steps: one, At: 1, Won: all}}, 6)...), true, 6 * all},
	} {
		if impl.Through(c.m) != c.through || impl.Wins(c.m) != c.wins {
			t.Errorf("%#v: through %v, wins %d", c.m, impl.Through(c.m), impl.Wins(c.m))
		}
	}
}

func TestWrongMemoriesHaveTheOneFixedAnswer(t *testing.T) {
	for _, m := range wrongMemories() {
		for _, i := range []int64{math.MinInt64, -1, 0, 1, 6, math.MaxInt64} {
			if x, is := impl.Picked(m, i); is || !isZeroMemory(x) {
				t.Errorf("Picked(%#v, %d): %#v, %v", m, i, x, is)
			}
		}
		for _, picks := range [][]int64{nil, {0}, {-1, 1, 0, 9}, make([]int64, 200), make([]int64, 201)} {
			if x := impl.Played(m, picks); !isZeroMemory(x) {
				t.Errorf("Played(%#v, %v): %#v", m, picks, x)
			}
		}
		if impl.Through(m) || impl.Wins(m) != -1 {
			t.Errorf("%#v: through %v, wins %d", m, impl.Through(m), impl.Wins(m))
		}
	}
}

// Every order in which three Threads can do two swaps each: what was Won is
// what the Cell grew by, at every step on the way.
func TestWhatIsWonIsWhatTheCellGrewBy(t *testing.T) {
	add := steps(load(2), swap(2, 1), load(2), swap(2, 1))
	seen := map[int64]bool{}
	var walk func(m impl.Memory)
	walk = func(m impl.Memory) {
		won := impl.Wins(m)
		if !impl.MemoryOk(m) || won != m.Cells[2]-40 || !slices.Equal(m.Cells[:2], cells(7, 8)) || m.Cells[3] != 9 {
			t.Fatalf("%#v: %d won", m, won)
		}
		if impl.Through(m) {
			seen[won] = true
			return
		}
		for i := range m.Threads {
			if x, is := impl.Picked(m, int64(i)); is {
				walk(x)
			}
		}
	}
	walk(memory(cells(7, 8, 40, 9), impl.Thread{Steps: add}, impl.Thread{Steps: add}, impl.Thread{Steps: add}))
	// At the least one of them wins a round, at the most all do.
	for won := int64(2); won <= 6; won++ {
		if !seen[won] {
			t.Errorf("no order wins %d", won)
		}
	}
	if len(seen) != 5 {
		t.Error(seen)
	}
}

func TestWhatIsWonIsWhatAllCellsGrewBy(t *testing.T) {
	for seed := range uint32(300) {
		next := func(n uint32) int64 {
			seed = seed*1664525 + 1013904223
			return int64(seed >> 8 % n)
		}
		m := memory(cells(next(50), next(50), next(50), next(50)), make([]impl.Thread, 1+next(6))...)
		for i := range m.Threads {
			for range next(11) {
				cell := next(4)
				m.Threads[i].Steps = append(m.Threads[i].Steps, load(cell), swap(cell, 1))
			}
		}
		had := m.Cells[0] + m.Cells[1] + m.Cells[2] + m.Cells[3]
		picks := make([]int64, next(201))
		for i := range picks {
			picks[i] = next(8) - 1
		}
		x := impl.Played(m, picks)
		if !impl.MemoryOk(x) || x.Cells[0]+x.Cells[1]+x.Cells[2]+x.Cells[3]-had != impl.Wins(x) {
			t.Fatalf("Played(%#v, %v): %#v", m, picks, x)
		}
	}
}

// mirror does a pick by the words of the chapter, on values of its own.
func mirror(m impl.Memory, i int64) (impl.Memory, bool) {
	x := copyOf(m)
	if i < 0 || i >= int64(len(x.Threads)) {
		return x, false
	}
	t := x.Threads[i]
	if t.At == int64(len(t.Steps)) {
		return x, false
	}
	s := t.Steps[t.At]
	t.At++
	switch {
	case s.Kind == 1:
		t.Seen = x.Cells[s.Cell]
	case s.Kind == 2:
		x.Cells[s.Cell] = t.Seen + s.Add
	case x.Cells[s.Cell] == t.Seen:
		x.Cells[s.Cell] += s.Add
		t.Won++
	}
	if x.Cells[s.Cell] > 1000000 || t.Won > 1000000 {
		return copyOf(m), false
	}
	x.Threads[i] = t
	return x, true
}

func TestPlayedIsPickedOneAfterTheOther(t *testing.T) {
	for seed := range uint32(400) {
		next := func(n uint32) int64 {
			seed = seed*1664525 + 1013904223
			return int64(seed >> 8 % n)
		}
		// Near the top, so that some numbers would be above it.
		start := 1000000 - next(300)
		m := memory(cells(start, start, start-1, 0), make([]impl.Thread, 1+next(6))...)
		for i := range m.Threads {
			for range next(21) {
				m.Threads[i].Steps = append(m.Threads[i].Steps, impl.Step{Kind: 1 + next(3), Cell: next(4), Add: next(101)})
			}
			m.Threads[i].Seen, m.Threads[i].Won = start-next(2), 1000000-next(3)
		}
		picks := make([]int64, next(201))
		for i := range picks {
			picks[i] = next(8) - 1
		}
		x := copyOf(m)
		for _, i := range picks {
			want, may := mirror(x, i)
			got, is := impl.Picked(x, i)
			if is != may || !sameMemory(got, want) {
				t.Fatalf("Picked(%#v, %d): %#v, %v", x, i, got, is)
			}
			x = got
		}
		if got := impl.Played(m, picks); !sameMemory(got, x) {
			t.Fatalf("Played(%#v, %v): %#v", m, picks, got)
		}
	}
}

// spans are the memory that a Memory's lists reach, spare room and all.
func spans(m impl.Memory) [][2]uintptr {
	var s [][2]uintptr
	add := func(p unsafe.Pointer, n uintptr) {
		if n > 0 {
			s = append(s, [2]uintptr{uintptr(p), uintptr(p) + n})
		}
	}
	add(unsafe.Pointer(unsafe.SliceData(m.Cells)), uintptr(cap(m.Cells))*unsafe.Sizeof(int64(0)))
	add(unsafe.Pointer(unsafe.SliceData(m.Threads)), uintptr(cap(m.Threads))*unsafe.Sizeof(impl.Thread{}))
	for _, t := range m.Threads {
		add(unsafe.Pointer(unsafe.SliceData(t.Steps)), uintptr(cap(t.Steps))*unsafe.Sizeof(impl.Step{}))
	}
	return s
}

func meet(a, b [2]uintptr) bool { return a[0] < b[1] && b[0] < a[1] }

func TestMemoryAnswersAreNewMemory(t *testing.T) {
	apart := func(what string, m, x impl.Memory) {
		own := spans(x)
		for i, a := range own {
			for _, b := range spans(m) {
				if meet(a, b) {
					t.Errorf("%s of %#v shares memory with it", what, m)
				}
			}
			for _, b := range own[:i] {
				if meet(a, b) {
					t.Errorf("%s of %#v: two of its lists share memory", what, m)
				}
			}
		}
	}
	for _, m := range rightMemories() {
		for i := int64(-1); i <= 6; i++ {
			x, _ := impl.Picked(m, i)
			apart("Picked", m, x)
		}
		for _, picks := range [][]int64{nil, {0, 0, 0}, {-1, 9}, {0, 1, 2, 3, 4, 5}} {
			apart("Played", m, impl.Played(m, picks))
		}
	}
}

// Lists with spare room behind them show a write that plain lists would hide.
func TestMemoryArgumentsStay(t *testing.T) {
	room := cells(4, 5, 6, 7, 81, 82)
	list := steps(load(0), swap(0, 1), store(1, 2), load(3), swap(2, 9))
	threads := []impl.Thread{{Steps: list[:2:4]}, {Steps: list[1:3]}, {Steps: list[:0]}, {Steps: list, At: 3, Seen: 91}}
	picks := []int64{0, 0, 1, 1, 2, 3, -1, 99}
	m := impl.Memory{Cells: room[:4], Threads: threads[:3]}
	for _, m := range []impl.Memory{m, {Cells: room[:3], Threads: threads[:3]}} {
		for i := int64(-1); i <= 3; i++ {
			x, _ := impl.Picked(m, i)
			impl.Picked(x, i)
		}
		impl.Played(impl.Played(m, picks[:3]), picks[:6])
		impl.Through(m)
		impl.Wins(m)
		impl.MemoryOk(m)
	}
	if !slices.Equal(room, cells(4, 5, 6, 7, 81, 82)) ||
		!slices.Equal(list, steps(load(0), swap(0, 1), store(1, 2), load(3), swap(2, 9))) ||
		!slices.Equal(picks, []int64{0, 0, 1, 1, 2, 3, -1, 99}) {
		t.Error("an argument was written into", room, list, picks)
	}
	for i, want := range []impl.Thread{{Steps: list[:2]}, {Steps: list[1:3]}, {}, {Steps: list, At: 3, Seen: 91}} {
		if !sameThread(threads[i], want) {
			t.Errorf("thread %d was written into: %#v", i, threads[i])
		}
	}
}
