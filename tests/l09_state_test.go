package tests

import (
	"math"
	"slices"
	"testing"

	"loop.example/g00296/impl"
)

// The document's numbers, so that a constant of the program that is another one is seen.
const (
	idle, open, mine, theirs, closed = 0, 1, 2, 3, 4

	gotHead, gotEnd, sentEnd, gotReset, sentReset, gotData, sentData = 1, 2, 3, 4, 5, 6, 7
)

func allStates() []int64 { return []int64{idle, open, mine, theirs, closed} }

func allEvents() []int64 {
	return []int64{gotHead, gotEnd, sentEnd, gotReset, sentReset, gotData, sentData}
}

// Numbers that are a state or an event by their lowest bits are among them.
func wrongNumbers() []int64 {
	return []int64{-1, -2, -4, -7, 8, 9, 10, 100, 256, 257, 260, 1 << 31, 1<<31 + 1, 1 << 32, 1<<32 + 1, 1<<32 + 4, 1<<32 + 6, -1 << 32, -1<<32 + 1,
		1 << 62, -1 << 62, math.MinInt64, math.MinInt64 + 1, math.MinInt64 + 4, math.MaxInt64 - 1, math.MaxInt64}
}

func wrongStates() []int64 { return append(wrongNumbers(), 5, 6, 7) }

func wrongEvents() []int64 { return append(wrongNumbers(), 0) }

// nextAsWritten is the chapter, sentence by sentence.
func nextAsWritten(state, event int64) (int64, bool) {
	reset := event == gotReset || event == sentReset
	switch {
	case state == idle && event == gotHead:
		return open, true
	case state == open && event == gotEnd:
		return mine, true
	case state == open && event == sentEnd:
		return theirs, true
	case state == open && (event == gotData || event == sentData):
		return open, true
	case state == mine && event == sentEnd:
		return closed, true
	case state == mine && event == sentData:
		return mine, true
	case state == theirs && event == gotEnd:
		return closed, true
	case state == theirs && event == gotData:
		return theirs, true
	case (state == open || state == mine || state == theirs) && reset:
		return closed, true
	case state == closed && reset:
		return closed, true
	}
	return state, false
}

func afterAsWritten(events []int64) (int64, bool) {
	state := int64(idle)
	for _, event := range events {
		then, is := nextAsWritten(state, event)
		if !is {
			return state, false
		}
		state = then
	}
	return state, true
}

func isNext(t *testing.T, state, event, then int64, right bool) {
	t.Helper()
	if got, is := impl.Next(state, event); got != then || is != right {
		t.Fatalf("Next(%d, %d): %d, %v, not %d, %v", state, event, got, is, then, right)
	}
}

func isAfter(t *testing.T, events []int64, then int64, right bool) {
	t.Helper()
	if got, is := impl.After(events); got != then || is != right {
		t.Fatalf("After(%v): %d, %v, not %d, %v", events, got, is, then, right)
	}
}

// rows are all rows of so many events, out of those that are given.
func rows(of []int64, length int) [][]int64 {
	made := [][]int64{nil}
	for range length {
		var longer [][]int64
		for _, row := range made {
			for _, event := range of {
				longer = append(longer, append(slices.Clone(row), event))
			}
		}
		made = longer
	}
	return made
}

// rightRows are all rows of at most so many events none of which is false.
func rightRows(most int) [][]int64 {
	made := [][]int64{nil}
	for at := 0; at < len(made); at++ {
		if len(made[at]) == most {
			break
		}
		for _, event := range allEvents() {
			longer := append(slices.Clone(made[at]), event)
			if _, is := afterAsWritten(longer); is {
				made = append(made, longer)
			}
		}
	}
	return made
}

// wayTo is the shortest row of events to a state.
func wayTo(state int64) []int64 {
	return [][]int64{nil, {gotHead}, {gotHead, gotEnd}, {gotHead, sentEnd}, {gotHead, gotEnd, sentEnd}}[state]
}

func TestStatesAndEventsAreThoseOfTheDocument(t *testing.T) {
	if got := []int64{impl.SsIdle, impl.SsOpen, impl.SsMine, impl.SsTheirs, impl.SsClosed}; !slices.Equal(got, allStates()) {
		t.Error(got)
	}
	got := []int64{impl.EvGotHead, impl.EvGotEnd, impl.EvSentEnd, impl.EvGotReset, impl.EvSentReset, impl.EvGotData, impl.EvSentData}
	if !slices.Equal(got, allEvents()) {
		t.Error(got)
	}
}

// Written out by hand, a state a line: what each of the seven events makes of it, in order; no is where it is false.
func TestNext(t *testing.T) {
	const no = -1
	for state, line := range [][]int64{
		idle:   {open, no, no, no, no, no, no},
		open:   {no, mine, theirs, closed, closed, open, open},
		mine:   {no, no, closed, closed, closed, no, mine},
		theirs: {no, closed, no, closed, closed, theirs, no},
		closed: {no, no, no, closed, closed, no, no},
	} {
		for i, then := range line {
			state, event := int64(state), allEvents()[i]
			if then == no {
				isNext(t, state, event, state, false)
			} else {
				isNext(t, state, event, then, true)
			}
		}
	}
}

func TestNextOfEachSmallNumber(t *testing.T) {
	for state := int64(-300); state <= 300; state++ {
		for event := int64(-300); event <= 300; event++ {
			then, is := nextAsWritten(state, event)
			isNext(t, state, event, then, is)
		}
	}
}

func TestNextOfWhatIsNoStateOrNoEvent(t *testing.T) {
	for _, state := range wrongStates() {
		for _, event := range append(allEvents(), wrongEvents()...) {
			isNext(t, state, event, state, false)
		}
	}
	for _, state := range allStates() {
		for _, event := range wrongEvents() {
			isNext(t, state, event, state, false)
		}
	}
}

func TestWhoIsClosedStaysClosed(t *testing.T) {
	for _, event := range append(allEvents(), wrongEvents()...) {
		isNext(t, closed, event, closed, event == gotReset || event == sentReset)
	}
	// By each way to closed, and whatever comes behind it.
	ways := 0
	for _, row := range rightRows(5) {
		if then, _ := afterAsWritten(row); then != closed {
			continue
		}
		ways++
		for _, behind := range rows(allEvents(), 2) {
			then, is := impl.After(append(slices.Clone(row), behind...))
			resets := !slices.ContainsFunc(behind, func(event int64) bool { return event != gotReset && event != sentReset })
			if then != closed || is != resets {
				t.Fatalf("After(%v) and then %v: %d, %v", row, behind, then, is)
			}
		}
	}
	if ways < 50 {
		t.Fatalf("only %d ways to closed", ways)
	}
}

// The other end, and then this one, or the other way round, with whatever is right between and behind them.
func TestNobodySpeaksBehindAnEnd(t *testing.T) {
	for _, c := range []struct{ end, data int64 }{{sentEnd, sentData}, {gotEnd, gotData}} {
		ended := 0
		for _, row := range rightRows(7) {
			if !slices.Contains(row, c.end) {
				continue
			}
			ended++
			if behind := row[slices.Index(row, c.end):]; slices.Contains(behind, c.data) {
				t.Fatalf("%v: %d is right behind %d", row, c.data, c.end)
			}
			then, is := impl.After(row)
			if !is {
				t.Fatalf("After(%v): %d, false", row, then)
			}
			isAfter(t, append(slices.Clone(row), c.data), then, false)
			isAfter(t, append(slices.Clone(row), c.end), then, false)
			isNext(t, then, c.data, then, false)
		}
		if ended < 100 {
			t.Fatalf("only %d rows have event %d", ended, c.end)
		}
	}
}

func TestBothEndsEndInWhateverOrder(t *testing.T) {
	for _, c := range []struct {
		events []int64
		then   int64
		is     bool
	}{
		{[]int64{gotHead, gotData, gotEnd, sentData, sentEnd}, closed, true},
		{[]int64{gotHead, sentData, sentEnd, gotData, gotEnd}, closed, true},
		{[]int64{gotHead, gotEnd, sentEnd}, closed, true},
		{[]int64{gotHead, sentEnd, gotEnd}, closed, true},
		{[]int64{gotHead, gotEnd, sentData, sentData}, mine, true},
		{[]int64{gotHead, sentEnd, gotData, gotData}, theirs, true},
		// Data behind the end of whoever sends it, while the other one still speaks.
		{[]int64{gotHead, gotEnd, gotData}, mine, false},
		{[]int64{gotHead, sentEnd, sentData}, theirs, false},
		{[]int64{gotHead, gotEnd, sentData, gotData}, mine, false},
		{[]int64{gotHead, sentEnd, gotData, sentData}, theirs, false},
		// And behind both ends.
		{[]int64{gotHead, gotEnd, sentEnd, gotData}, closed, false},
		{[]int64{gotHead, gotEnd, sentEnd, sentData}, closed, false},
		{[]int64{gotHead, sentEnd, gotEnd, gotData}, closed, false},
		{[]int64{gotHead, sentEnd, gotEnd, sentData}, closed, false},
		// A second end of the same end.
		{[]int64{gotHead, gotEnd, gotEnd}, mine, false},
		{[]int64{gotHead, sentEnd, sentEnd}, theirs, false},
		{[]int64{gotHead, gotEnd, sentEnd, gotEnd}, closed, false},
		{[]int64{gotHead, gotEnd, sentEnd, sentEnd}, closed, false},
		{[]int64{gotHead, sentEnd, gotEnd, sentEnd}, closed, false},
	} {
		isAfter(t, c.events, c.then, c.is)
	}
}

func TestMaySendAndMayGet(t *testing.T) {
	for _, c := range []struct {
		state     int64
		send, get bool
	}{{idle, false, false}, {open, true, true}, {mine, true, false}, {theirs, false, true}, {closed, false, false}} {
		if impl.MaySend(c.state) != c.send || impl.MayGet(c.state) != c.get {
			t.Errorf("%d: MaySend %v, MayGet %v", c.state, impl.MaySend(c.state), impl.MayGet(c.state))
		}
	}
	for _, state := range wrongStates() {
		if impl.MaySend(state) || impl.MayGet(state) {
			t.Errorf("%d: MaySend %v, MayGet %v", state, impl.MaySend(state), impl.MayGet(state))
		}
	}
}

func TestMaySendAndMayGetAgreeWithNext(t *testing.T) {
	for _, state := range append(allStates(), wrongStates()...) {
		then, is := impl.Next(state, sentData)
		if is != impl.MaySend(state) || then != state {
			t.Errorf("MaySend(%d): %v, Next by data: %d, %v", state, impl.MaySend(state), then, is)
		}
		then, is = impl.Next(state, gotData)
		if is != impl.MayGet(state) || then != state {
			t.Errorf("MayGet(%d): %v, Next by data: %d, %v", state, impl.MayGet(state), then, is)
		}
	}
}

func TestAfterOfNoEvents(t *testing.T) {
	isAfter(t, nil, idle, true)
	isAfter(t, []int64{}, idle, true)
	isAfter(t, make([]int64, 0, 5), idle, true)
}

func TestAfterOfWhatIsFalse(t *testing.T) {
	for _, c := range []struct {
		events []int64
		then   int64
	}{
		// the first one
		{[]int64{gotEnd}, idle}, {[]int64{sentEnd}, idle}, {[]int64{gotReset}, idle}, {[]int64{sentReset}, idle}, {[]int64{gotData}, idle}, {[]int64{sentData}, idle},
		{[]int64{0}, idle}, {[]int64{8}, idle}, {[]int64{-1}, idle}, {[]int64{math.MinInt64}, idle}, {[]int64{math.MaxInt64}, idle},
		// the last one
		{[]int64{gotHead, gotHead}, open}, {[]int64{gotHead, gotData, gotHead}, open}, {[]int64{gotHead, gotEnd, gotHead}, mine}, {[]int64{gotHead, sentEnd, gotHead}, theirs},
		{[]int64{gotHead, gotReset, gotHead}, closed}, {[]int64{gotHead, sentReset, sentData}, closed}, {[]int64{gotHead, gotEnd, sentReset, sentEnd}, closed},
		{[]int64{gotHead, 0}, open}, {[]int64{gotHead, gotEnd, 8}, mine}, {[]int64{gotHead, sentEnd, -1}, theirs}, {[]int64{gotHead, gotReset, math.MaxInt64}, closed},
		// one with more behind it that would be right, there or in the state ahead of it
		{[]int64{gotData, gotHead}, idle}, {[]int64{0, gotHead, gotEnd}, idle}, {[]int64{sentReset, gotHead, gotReset}, idle}, {[]int64{gotHead, gotHead, gotEnd, sentEnd}, open},
		{[]int64{gotHead, gotEnd, gotData, sentEnd}, mine}, {[]int64{gotHead, sentEnd, sentData, gotEnd, gotReset}, theirs}, {[]int64{gotHead, 8, gotReset}, open},
		{[]int64{gotHead, gotReset, gotData, gotReset}, closed}, {[]int64{gotHead, gotEnd, sentEnd, gotHead, gotData, sentData}, closed},
	} {
		isAfter(t, c.events, c.then, false)
	}
}

func TestASecondHeadIsFalseInEachState(t *testing.T) {
	for _, state := range allStates()[1:] {
		isAfter(t, append(wayTo(state), gotHead), state, false)
		isAfter(t, append(wayTo(state), gotHead, gotReset), state, false)
	}
}

func TestAResetOfEachState(t *testing.T) {
	for _, reset := range []int64{gotReset, sentReset} {
		isAfter(t, append(wayTo(idle), reset), idle, false)
		for _, state := range allStates()[1:] {
			isAfter(t, append(wayTo(state), reset), closed, true)
			isAfter(t, append(wayTo(state), reset, gotReset, sentReset, reset), closed, true)
			isAfter(t, append(wayTo(state), reset, gotData), closed, false)
			isAfter(t, append(wayTo(state), reset, sentData), closed, false)
		}
	}
}

func TestAfterOfEachRow(t *testing.T) {
	for length := range 6 {
		for _, row := range rows(allEvents(), length) {
			then, is := afterAsWritten(row)
			isAfter(t, row, then, is)
		}
	}
	for _, row := range rightRows(8) {
		then, is := afterAsWritten(row)
		isAfter(t, row, then, is)
	}
}

func TestAfterIsNextOneByOne(t *testing.T) {
	src := source{seed: 9}
	for range 5000 {
		var events []int64
		state, is := int64(impl.SsIdle), true
		for range src.next(12) {
			// The first is a head, so that most rows come farther than that.
			event := int64(src.next(9))
			if len(events) == 0 && src.next(10) > 0 {
				event = gotHead
			}
			events = append(events, event)
			if is {
				state, is = impl.Next(state, event)
			}
		}
		isAfter(t, events, state, is)
		isAfter(t, events, state, is) // and once more
	}
}

func TestAfterOfAWrongEventAtEachPlace(t *testing.T) {
	whole := []int64{gotHead, gotData, sentData, gotEnd, sentData, sentEnd, gotReset, sentReset}
	isAfter(t, whole, closed, true)
	for at := range len(whole) + 1 {
		ahead, _ := afterAsWritten(whole[:at])
		isAfter(t, whole[:at], ahead, true)
		for _, wrong := range wrongEvents() {
			isAfter(t, slices.Insert(slices.Clone(whole), at, wrong), ahead, false)
		}
	}
}

func TestAfterOfManyEvents(t *testing.T) {
	const many = 100000
	long := slices.Concat([]int64{gotHead}, slices.Repeat([]int64{gotData, sentData}, many))
	isAfter(t, long, open, true)
	long = slices.Concat(long, []int64{sentEnd}, slices.Repeat([]int64{gotData}, many))
	isAfter(t, long, theirs, true)
	isAfter(t, append(slices.Clone(long), sentData), theirs, false)
	long = slices.Concat(long, []int64{gotEnd}, slices.Repeat([]int64{gotReset, sentReset}, many))
	isAfter(t, long, closed, true)
	isAfter(t, append(slices.Clone(long), gotData), closed, false)
}

// What one stream went through leaves no trace on another one.
func TestAStreamThatIsClosedClosesNoOther(t *testing.T) {
	for range 3 {
		isAfter(t, []int64{gotHead, gotReset, sentReset, gotHead}, closed, false)
		isNext(t, closed, gotReset, closed, true)
		for _, state := range allStates() {
			for _, event := range allEvents() {
				then, is := nextAsWritten(state, event)
				isNext(t, state, event, then, is)
			}
			isAfter(t, wayTo(state), state, true)
		}
		if !impl.MaySend(open) || !impl.MayGet(open) || impl.MaySend(closed) || impl.MayGet(closed) {
			t.Fatal("who may speak is no longer the same")
		}
	}
}

// The events, and the room ahead of and behind them, are as they were.
func TestAfterLeavesItsEvents(t *testing.T) {
	for _, row := range append(rightRows(4), []int64{gotHead, 0, gotEnd}, []int64{math.MinInt64}, []int64{gotHead, gotReset, gotData, math.MaxInt64}) {
		all := slices.Concat([]int64{71, 72}, row, []int64{73, 74, 75})
		was := slices.Clone(all)
		then, is := afterAsWritten(row)
		isAfter(t, all[2:2+len(row)], then, is)
		if !slices.Equal(all, was) {
			t.Fatalf("After(%v) made %v of %v", row, all, was)
		}
	}
}
