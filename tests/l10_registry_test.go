package tests

import (
	"math"
	"slices"
	"testing"
	"unsafe"

	"loop.example/g00296/impl"
)

// The document's numbers, so that a constant of the program that is another one is seen.
const (
	reOk, reBad, reFull = 0, 1, 2

	lastId = 99999 // the greatest odd number up to MaxStream
)

func entry(id, state int64) impl.Entry { return impl.Entry{Id: id, State: state} }

func registry(limit, top int64, entries ...impl.Entry) impl.Registry {
	return impl.Registry{Limit: limit, Top: top, Entries: entries}
}

// row are entries 1, 3, 5 and so on, live ones first and closed ones behind them.
func row(live, shut int) []impl.Entry {
	var made []impl.Entry
	for i := range live + shut {
		state := int64(closed)
		if i < live {
			state = []int64{open, mine, theirs}[i%3]
		}
		made = append(made, entry(int64(2*i+1), state))
	}
	return made
}

// backwards is the row with its closed ones first.
func backwards(live, shut int) []impl.Entry {
	made := row(live, shut)
	for i, j := 0, len(made)-1; i < j; i, j = i+1, j-1 {
		made[i].State, made[j].State = made[j].State, made[i].State
	}
	return made
}

func sameRegistry(a, b impl.Registry) bool {
	return a.Limit == b.Limit && a.Top == b.Top && slices.Equal(a.Entries, b.Entries)
}

// freshId is the first number above Top that may be Opened, but for one that is beyond MaxStream.
func freshId(r impl.Registry) int64 { return r.Top + 1 + r.Top%2 }

func copiedRegistry(r impl.Registry) impl.Registry {
	return registry(r.Limit, r.Top, append([]impl.Entry(nil), r.Entries...)...)
}

// registryAsWritten is what the chapter wants, want by want.
func registryAsWritten(r impl.Registry) bool {
	if r.Limit < 0 || r.Limit > 20 || len(r.Entries) > 60 {
		return false
	}
	if r.Top != 0 && (r.Top < 1 || r.Top > 100000 || r.Top%2 == 0) {
		return false
	}
	for i, e := range r.Entries {
		if e.Id < 1 || e.Id > 100000 || e.Id%2 == 0 || e.Id > r.Top {
			return false
		}
		if e.State < open || e.State > closed {
			return false
		}
		for _, ahead := range r.Entries[:i] {
			if ahead.Id >= e.Id {
				return false
			}
		}
	}
	return liveAsWritten(r) <= r.Limit
}

func liveAsWritten(r impl.Registry) int64 {
	n := int64(0)
	for _, e := range r.Entries {
		if e.State != closed {
			n++
		}
	}
	return n
}

func openedAsWritten(r impl.Registry, id int64) (impl.Registry, int64) {
	if !registryAsWritten(r) {
		return impl.Registry{}, reBad
	}
	if id < 1 || id > 100000 || id%2 == 0 || id <= r.Top {
		return r, reBad
	}
	then := copiedRegistry(r)
	then.Top = id
	if liveAsWritten(r) == r.Limit || len(r.Entries) == 60 {
		return then, reFull
	}
	then.Entries = append(then.Entries, entry(id, open))
	return then, reOk
}

func happenedAsWritten(r impl.Registry, id, event int64) (impl.Registry, bool) {
	if !registryAsWritten(r) {
		return impl.Registry{}, false
	}
	then := copiedRegistry(r)
	for i, e := range r.Entries {
		if e.Id != id {
			continue
		}
		state, is := nextAsWritten(e.State, event)
		then.Entries[i].State = state
		return then, is
	}
	return then, false
}

func stateAsWritten(r impl.Registry, id int64) int64 {
	if !registryAsWritten(r) {
		return idle
	}
	for _, e := range r.Entries {
		if e.Id == id {
			return e.State
		}
	}
	if id >= 1 && id <= r.Top && id%2 == 1 {
		return closed
	}
	return idle
}

func sweptAsWritten(r impl.Registry) impl.Registry {
	if !registryAsWritten(r) {
		return impl.Registry{}
	}
	then := registry(r.Limit, r.Top)
	for _, e := range r.Entries {
		if e.State != closed {
			then.Entries = append(then.Entries, e)
		}
	}
	return then
}

func isOpened(t *testing.T, r impl.Registry, id int64, then impl.Registry, code int64) {
	t.Helper()
	if got, k := impl.Opened(r, id); k != code || !sameRegistry(got, then) {
		t.Fatalf("Opened(%v, %d): %v, %d, not %v, %d", r, id, got, k, then, code)
	}
}

func isHappened(t *testing.T, r impl.Registry, id, event int64, then impl.Registry, right bool) {
	t.Helper()
	if got, is := impl.Happened(r, id, event); is != right || !sameRegistry(got, then) {
		t.Fatalf("Happened(%v, %d, %d): %v, %v, not %v, %v", r, id, event, got, is, then, right)
	}
}

func isStateOf(t *testing.T, r impl.Registry, id, state int64) {
	t.Helper()
	if got := impl.StateOf(r, id); got != state {
		t.Fatalf("StateOf(%v, %d): %d, not %d", r, id, got, state)
	}
}

func isSwept(t *testing.T, r, then impl.Registry) {
	t.Helper()
	if got := impl.Swept(r); !sameRegistry(got, then) {
		t.Fatalf("Swept(%v): %v, not %v", r, got, then)
	}
}

func isLive(t *testing.T, r impl.Registry, n int64) {
	t.Helper()
	if got := impl.Live(r); got != n {
		t.Fatalf("Live(%v): %d, not %d", r, got, n)
	}
}

// asWritten asks each function about the registry, with these ids and events.
func asWritten(t *testing.T, r impl.Registry, ids, events []int64) {
	t.Helper()
	right := registryAsWritten(r)
	if impl.RegistryOk(r) != right {
		t.Fatalf("RegistryOk(%v): %v", r, !right)
	}
	if right {
		isLive(t, r, liveAsWritten(r))
	} else {
		isLive(t, r, -1)
	}
	isSwept(t, r, sweptAsWritten(r))
	for _, id := range ids {
		then, code := openedAsWritten(r, id)
		isOpened(t, r, id, then, code)
		isStateOf(t, r, id, stateAsWritten(r, id))
		for _, event := range events {
			then, is := happenedAsWritten(r, id, event)
			isHappened(t, r, id, event, then, is)
		}
	}
}

func rightRegistries() []impl.Registry {
	return []impl.Registry{
		{},
		{Entries: []impl.Entry{}},
		registry(20, 0), registry(0, 1), registry(1, 3), registry(0, lastId), registry(20, lastId),
		registry(1, 1, entry(1, open)), registry(1, 1, entry(1, mine)), registry(1, 1, entry(1, theirs)), registry(0, 1, entry(1, closed)),
		registry(0, lastId, entry(lastId, closed)), registry(1, lastId, entry(lastId, open)), registry(2, lastId, entry(1, open), entry(lastId, mine)),
		registry(3, 9, entry(1, open), entry(5, closed), entry(9, mine)),
		registry(2, 9, entry(1, open), entry(5, closed), entry(9, mine)), // just Limit
		registry(3, 11, entry(1, open), entry(5, closed), entry(9, mine)),
		registry(20, 101, entry(7, closed), entry(9, theirs), entry(51, closed), entry(53, closed), entry(99, open)),
		registry(20, 119, row(20, 40)...), registry(20, 119, backwards(20, 40)...), registry(20, 119, row(19, 41)...), registry(20, 119, row(0, 60)...),
		registry(0, 119, row(0, 60)...), registry(0, 117, row(0, 59)...), registry(20, 117, row(20, 39)...), registry(20, 117, row(19, 40)...),
		registry(20, 39, row(20, 0)...), registry(20, 37, row(19, 0)...), registry(5, 9, row(5, 0)...), registry(5, 99, row(4, 6)...),
		registry(20, lastId, row(19, 40)...),
	}
}

// wrongRegistries each miss what the chapter wants by one thing.
func wrongRegistries() []impl.Registry {
	base := func() impl.Registry { return registry(3, 9, entry(1, open), entry(5, closed), entry(9, mine)) }
	changed := func(change func(*impl.Registry)) impl.Registry {
		r := base()
		change(&r)
		return r
	}
	var wrong []impl.Registry
	for _, limit := range []int64{-1, -2, 21, 22, 1 << 32, 1<<32 + 3, math.MinInt64, math.MaxInt64} {
		wrong = append(wrong, registry(limit, 0), registry(limit, 9), changed(func(r *impl.Registry) { r.Limit = limit }))
	}
	for _, top := range []int64{-1, -3, 2, 10, 100000, 100001, 100003, 1<<32 + 9, math.MinInt64, math.MinInt64 + 1, math.MaxInt64 - 1, math.MaxInt64} {
		wrong = append(wrong, registry(3, top))
		if top > 9 {
			wrong = append(wrong, changed(func(r *impl.Registry) { r.Top = top }))
		}
	}
	for _, top := range []int64{0, 1, 3, 5, 7} { // right as a Top, but an Id is above it
		wrong = append(wrong, changed(func(r *impl.Registry) { r.Top = top }))
	}
	for at := range 3 {
		for _, id := range []int64{0, 2, 4, 6, 8, 10, 11, -1, -9, 100000, 100001, 1<<32 + 1, 1<<32 + 5, math.MinInt64, math.MinInt64 + 1, math.MaxInt64} {
			wrong = append(wrong, changed(func(r *impl.Registry) { r.Entries[at].Id = id }))
		}
		for _, state := range []int64{idle, 5, 6, -1, 1 << 32, 1<<32 + 1, 1<<32 + 4, math.MinInt64, math.MinInt64 + 4, math.MaxInt64} {
			wrong = append(wrong, changed(func(r *impl.Registry) { r.Entries[at].State = state }))
		}
	}
	return append(wrong,
		// an even Id, with a Top that reaches it
		registry(1, 3, entry(2, open)), registry(0, 3, entry(2, closed)), registry(1, 3, entry(0, open)), registry(0, 3, entry(-1, closed)),
		registry(1, lastId, entry(99998, open)),
		// alike, or below the one ahead
		registry(3, 9, entry(1, open), entry(1, open)), registry(3, 9, entry(9, closed), entry(9, closed)), registry(3, 9, entry(3, open), entry(1, open)),
		registry(3, 9, entry(1, open), entry(5, closed), entry(5, closed)), registry(3, 9, entry(1, open), entry(5, closed), entry(3, mine)),
		registry(3, 9, entry(5, open), entry(1, closed), entry(9, mine)), registry(3, 9, entry(1, open), entry(9, mine), entry(5, closed)),
		// one more than Limit
		registry(0, 1, entry(1, open)), registry(0, 1, entry(1, mine)), registry(0, 1, entry(1, theirs)), registry(1, 9, base().Entries...),
		registry(20, 119, row(21, 0)...), registry(20, 119, row(21, 39)...), registry(20, 119, backwards(21, 39)...), registry(4, 99, row(5, 6)...),
		registry(20, 119, row(60, 0)...),
		// one more than 60, and far more
		registry(20, 121, row(0, 61)...), registry(20, 121, row(20, 41)...), registry(20, lastId, row(0, 61)...), registry(20, lastId, row(1, 5000)...),
	)
}

// someIds has the edges of the chapter, and those of this registry.
func someIds(r impl.Registry) []int64 {
	ids := []int64{-1, 0, 1, 2, 3, 5, 9, 99998, lastId, 100000, 100001, 100003, -3, 1<<32 + 1, 1<<32 + 5, math.MinInt64, math.MinInt64 + 1, math.MaxInt64 - 1, math.MaxInt64}
	for d := int64(-2); d <= 3; d++ {
		ids = append(ids, r.Top+d)
	}
	for i := range min(len(r.Entries), 61) {
		ids = append(ids, r.Entries[i].Id, r.Entries[i].Id+1)
	}
	return ids
}

func TestRegistryCodesAreThoseOfTheDocument(t *testing.T) {
	if impl.ReOk != reOk || impl.ReBad != reBad || impl.ReFull != reFull || impl.MaxStream != 100000 {
		t.Error(impl.ReOk, impl.ReBad, impl.ReFull, impl.MaxStream)
	}
}

func TestRegistryOk(t *testing.T) {
	for i, r := range rightRegistries() {
		if !impl.RegistryOk(r) {
			t.Errorf("right registry %d is refused: %v", i, r)
		}
		if !registryAsWritten(r) {
			t.Errorf("right registry %d is refused by the tests' own", i)
		}
	}
	for i, r := range wrongRegistries() {
		if impl.RegistryOk(r) {
			t.Errorf("wrong registry %d is let: %v", i, r)
		}
		if registryAsWritten(r) {
			t.Errorf("wrong registry %d is let by the tests' own: %v", i, r)
		}
	}
}

func TestRegistryOkAtItsLimits(t *testing.T) {
	for limit := int64(-2); limit <= 23; limit++ {
		for live := range 24 {
			for _, shut := range []int{0, 1, 38, 39, 40, 41, 59 - live, 60 - live, 61 - live} {
				want := limit >= 0 && limit <= 20 && int64(live) <= limit && live+shut <= 60
				for _, entries := range [][]impl.Entry{row(live, shut), backwards(live, shut)} {
					if impl.RegistryOk(registry(limit, 199, entries...)) != want {
						t.Fatalf("Limit %d, %d live and %d closed: %v", limit, live, shut, !want)
					}
				}
			}
		}
	}
}

func TestOpened(t *testing.T) {
	one := registry(2, 3, entry(3, open))
	for _, c := range []struct {
		r    impl.Registry
		id   int64
		then impl.Registry
		code int64
	}{
		{registry(1, 0), 1, registry(1, 1, entry(1, open)), reOk},
		{registry(1, 0), 3, registry(1, 3, entry(3, open)), reOk},
		{registry(1, 0), lastId, registry(1, lastId, entry(lastId, open)), reOk},
		{registry(1, 0), 0, registry(1, 0), reBad},
		{registry(1, 0), -1, registry(1, 0), reBad},
		{registry(1, 0), 2, registry(1, 0), reBad},
		{registry(1, 0), 100000, registry(1, 0), reBad},
		{registry(1, 0), 100001, registry(1, 0), reBad},
		{registry(1, lastId), lastId, registry(1, lastId), reBad},
		{registry(1, lastId), 100001, registry(1, lastId), reBad},
		{registry(1, lastId-2), lastId, registry(1, lastId, entry(lastId, open)), reOk},
		{one, 5, registry(2, 5, entry(3, open), entry(5, open)), reOk},
		{one, 9, registry(2, 9, entry(3, open), entry(9, open)), reOk},
		{one, 4, one, reBad}, {one, 3, one, reBad}, {one, 2, one, reBad}, {one, 1, one, reBad},
		// A Top that has no Entry is above as any other.
		{registry(2, 7, entry(3, open)), 5, registry(2, 7, entry(3, open)), reBad},
		{registry(2, 7, entry(3, open)), 7, registry(2, 7, entry(3, open)), reBad},
		{registry(2, 7, entry(3, open)), 9, registry(2, 9, entry(3, open), entry(9, open)), reOk},
		// Those that are closed leave room.
		{registry(1, 3, entry(1, closed), entry(3, closed)), 5, registry(1, 5, entry(1, closed), entry(3, closed), entry(5, open)), reOk},
	} {
		isOpened(t, c.r, c.id, c.then, c.code)
	}
}

func TestOpenedOfAFullRegistry(t *testing.T) {
	for _, r := range []impl.Registry{
		registry(0, 0), registry(0, 9), registry(0, 5, entry(5, closed)),
		registry(1, 5, entry(5, open)), registry(1, 5, entry(5, mine)), registry(1, 5, entry(5, theirs)),
		registry(2, 9, entry(1, open), entry(5, closed), entry(9, mine)),
		registry(20, 39, row(20, 0)...), registry(20, 117, row(20, 39)...), registry(20, 119, row(20, 40)...),
		registry(20, 119, row(0, 60)...), registry(20, 119, row(19, 41)...), registry(0, 119, row(0, 60)...),
	} {
		for _, id := range []int64{freshId(r), freshId(r) + 2, 1001, lastId} {
			then := copiedRegistry(r)
			then.Top = id
			isOpened(t, r, id, then, reFull)
			// It is used up though it was refused.
			isOpened(t, then, id, then, reBad)
			isStateOf(t, then, id, closed)
			isStateOf(t, impl.Swept(then), id, closed)
		}
		// What is bad is so ahead of what is full, and takes nothing along.
		for _, id := range []int64{-1, 0, 2, r.Top, r.Top - 2, freshId(r) + 1, 100000, 100001, math.MinInt64, math.MaxInt64} {
			isOpened(t, r, id, r, reBad)
		}
	}
	// One less, and there is room.
	for _, r := range []impl.Registry{
		registry(1, 0), registry(2, 5, entry(5, open)), registry(20, 37, row(19, 0)...), registry(20, 117, row(19, 40)...), registry(20, 117, row(0, 59)...), registry(1, 117, row(0, 59)...),
	} {
		id := freshId(r)
		isOpened(t, r, id, registry(r.Limit, id, append(slices.Clone(r.Entries), entry(id, open))...), reOk)
	}
}

// Each number, one after the other, up to where there is no more room.
func TestOpenedUntilItIsFull(t *testing.T) {
	for limit := int64(0); limit <= 20; limit++ {
		r := registry(limit, 0)
		for i := range int64(30) {
			then, code := impl.Opened(r, 2*i+1)
			if want := i < limit; (code == reOk) != want || code == reBad || then.Top != 2*i+1 || !impl.RegistryOk(then) {
				t.Fatalf("Limit %d: Opened(%v, %d): %v, %d", limit, r, 2*i+1, then, code)
			}
			isLive(t, then, min(i+1, limit))
			r = then
		}
	}
	// And with each of them closed at once: there are 60 at most.
	r := registry(1, 0)
	for i := range int64(70) {
		id := 2*i + 1
		then, code := impl.Opened(r, id)
		if want := i < 60; (code == reOk) != want || code == reBad || then.Top != id {
			t.Fatalf("Opened(%v, %d): %v, %d", r, id, then, code)
		}
		r = then
		if code == reOk {
			r, _ = impl.Happened(r, id, gotReset)
		}
		isLive(t, r, 0)
	}
	if len(r.Entries) != 60 {
		t.Fatal(r)
	}
	isOpened(t, impl.Swept(r), 201, registry(1, 201, entry(201, open)), reOk)
}

func TestHappened(t *testing.T) {
	for _, state := range allStates()[1:] {
		for _, event := range append(allEvents(), wrongEvents()...) {
			r := registry(6, 13, entry(1, mine), entry(3, closed), entry(5, state), entry(9, theirs), entry(11, open))
			next, is := nextAsWritten(state, event)
			then := copiedRegistry(r)
			then.Entries[2].State = next
			isHappened(t, r, 5, event, then, is)
			if byNext, right := impl.Next(state, event); byNext != next || right != is {
				t.Fatalf("Next(%d, %d): %d, %v", state, event, byNext, right)
			}
			// No such Entry: between, ahead, behind, at Top, above it, and what is no number of a stream.
			for _, id := range []int64{7, 0, -1, -5, 13, 15, 2, 4, 6, lastId, 100000, 1<<32 + 5, math.MinInt64, math.MinInt64 + 5, math.MaxInt64} {
				isHappened(t, r, id, event, r, false)
			}
		}
	}
}

func TestHappenedAtEachPlace(t *testing.T) {
	full := registry(20, 119, row(20, 40)...)
	for at, e := range full.Entries {
		for _, event := range allEvents() {
			next, is := nextAsWritten(e.State, event)
			then := copiedRegistry(full)
			then.Entries[at].State = next
			isHappened(t, full, e.Id, event, then, is)
		}
	}
	for _, r := range []impl.Registry{{}, registry(20, lastId), registry(0, 1)} {
		for _, id := range someIds(r) {
			isHappened(t, r, id, gotReset, r, false)
			isHappened(t, r, id, gotHead, r, false)
		}
	}
}

// Both ends of one stream end, while another one stays; and then there is room.
func TestAStreamFromItsOpeningToItsSweeping(t *testing.T) {
	r := registry(2, 0)
	r, _ = impl.Opened(r, 1)
	r, _ = impl.Opened(r, 3)
	isOpened(t, r, 5, registry(2, 5, entry(1, open), entry(3, open)), reFull)
	r, _ = impl.Opened(r, 5)
	isHappened(t, r, 1, gotHead, r, false)
	isHappened(t, r, 1, sentData, r, true)
	isHappened(t, r, 1, gotEnd, registry(2, 5, entry(1, mine), entry(3, open)), true)
	r, _ = impl.Happened(r, 1, gotEnd)
	isHappened(t, r, 1, gotData, r, false)
	isOpened(t, r, 7, registry(2, 7, r.Entries...), reFull)
	isHappened(t, r, 1, sentEnd, registry(2, 5, entry(1, closed), entry(3, open)), true)
	r, _ = impl.Happened(r, 1, sentEnd)
	isLive(t, r, 1)
	isHappened(t, r, 1, gotReset, r, true)
	isHappened(t, r, 1, sentData, r, false)
	isOpened(t, r, 7, registry(2, 7, entry(1, closed), entry(3, open), entry(7, open)), reOk)
	isSwept(t, r, registry(2, 5, entry(3, open)))
	r = impl.Swept(r)
	isHappened(t, r, 1, gotReset, r, false)
	for id, state := range []int64{0: idle, 1: closed, 2: idle, 3: open, 4: idle, 5: closed, 6: idle, 7: idle} {
		isStateOf(t, r, int64(id), state)
	}
	for _, id := range []int64{1, 3, 5} {
		isOpened(t, r, id, r, reBad)
	}
	isOpened(t, r, 7, registry(2, 7, entry(3, open), entry(7, open)), reOk)
}

func TestLive(t *testing.T) {
	for live := range 21 {
		for _, shut := range []int{0, 1, 2, 39, 40} {
			for limit := int64(live); limit <= 20; limit++ {
				isLive(t, registry(limit, 199, row(live, shut)...), int64(live))
				isLive(t, registry(limit, 199, backwards(live, shut)...), int64(live))
			}
		}
	}
	isLive(t, impl.Registry{}, 0)
	isLive(t, registry(0, 119, row(0, 60)...), 0)
}

func TestStateOf(t *testing.T) {
	r := registry(4, 15, entry(3, open), entry(5, mine), entry(7, theirs), entry(11, closed))
	for id, state := range []int64{idle, closed, idle, open, idle, mine, idle, theirs, idle, closed, idle, closed, idle, closed, idle, closed, idle, idle, idle, idle} {
		isStateOf(t, r, int64(id), state)
	}
	for _, id := range []int64{-1, -3, -15, 16, 17, 99998, lastId, 100000, 100001, 1<<32 + 3, 1<<32 + 1, math.MinInt64, math.MinInt64 + 1, math.MinInt64 + 3, math.MaxInt64 - 1, math.MaxInt64} {
		isStateOf(t, r, id, idle)
	}
	for id := int64(-3); id <= 100003; id++ {
		want := int64(idle)
		if id >= 1 && id <= lastId && id%2 == 1 {
			want = closed
		}
		if got := impl.StateOf(registry(0, lastId), id); got != want {
			t.Fatalf("StateOf(all up to %d, %d): %d", lastId, id, got)
		}
		if got := impl.StateOf(impl.Registry{Limit: 20}, id); got != idle {
			t.Fatalf("StateOf(none, %d): %d", id, got)
		}
	}
}

func TestSwept(t *testing.T) {
	r := registry(5, 21, entry(1, closed), entry(3, theirs), entry(5, closed), entry(7, closed), entry(9, open), entry(13, mine), entry(17, closed))
	isSwept(t, r, registry(5, 21, entry(3, theirs), entry(9, open), entry(13, mine)))
	isSwept(t, registry(5, 21, entry(3, theirs), entry(9, open), entry(13, mine)), registry(5, 21, entry(3, theirs), entry(9, open), entry(13, mine)))
	isSwept(t, registry(0, 119, row(0, 60)...), registry(0, 119))
	isSwept(t, registry(20, 119, row(20, 40)...), registry(20, 119, row(20, 0)...))
	isSwept(t, registry(7, lastId), registry(7, lastId))
	isSwept(t, impl.Registry{}, impl.Registry{})
	for _, r := range rightRegistries() {
		swept := impl.Swept(r)
		isSwept(t, swept, swept)
		isLive(t, swept, impl.Live(r))
		for _, id := range someIds(r) {
			isStateOf(t, swept, id, impl.StateOf(r, id))
		}
	}
}

func TestEachFunctionOfARightRegistry(t *testing.T) {
	for _, r := range rightRegistries() {
		asWritten(t, r, someIds(r), append(allEvents(), wrongEvents()...))
	}
}

func TestEachFunctionOfAWrongRegistry(t *testing.T) {
	for _, r := range wrongRegistries() {
		isLive(t, r, -1)
		isSwept(t, r, impl.Registry{})
		for _, id := range someIds(r) {
			isOpened(t, r, id, impl.Registry{}, reBad)
			isStateOf(t, r, id, idle)
			for _, event := range append(allEvents(), 0, 8, -1, math.MinInt64, math.MaxInt64) {
				isHappened(t, r, id, event, impl.Registry{}, false)
			}
		}
	}
}

// All registries of at most two entries out of small numbers, right and wrong ones.
func TestEachSmallRegistry(t *testing.T) {
	var entries []impl.Entry
	for id := int64(-1); id <= 5; id++ {
		for state := int64(-1); state <= 5; state++ {
			entries = append(entries, entry(id, state))
		}
	}
	lists := [][]impl.Entry{nil}
	for _, a := range entries {
		lists = append(lists, []impl.Entry{a})
		for _, b := range entries {
			lists = append(lists, []impl.Entry{a, b})
		}
	}
	right := 0
	for limit := int64(-1); limit <= 3; limit++ {
		for top := int64(-1); top <= 6; top++ {
			for _, list := range lists {
				r := registry(limit, top, list...)
				if impl.RegistryOk(r) {
					right++
					asWritten(t, r, []int64{-1, 0, 1, 2, 3, 4, 5, 6, 7}, []int64{0, 1, 2, 3, 4, 5, 6, 7, 8})
				} else {
					asWritten(t, r, []int64{1, 3, 7}, []int64{gotReset})
				}
			}
		}
	}
	if right < 200 {
		t.Fatalf("only %d of them are right", right)
	}
}

// streamId is a number near those that the registry has, or any.
func (s *source) streamId(r impl.Registry) int64 {
	switch s.next(8) {
	case 0:
		return int64(s.next(100010)) - 5
	case 1, 2:
		return r.Top + int64(s.next(9)) - 3
	case 3:
		return int64(s.next(uint32(r.Top) + 4))
	default:
		if len(r.Entries) == 0 {
			return freshId(r)
		}
		return r.Entries[s.next(uint32(len(r.Entries)))].Id
	}
}

// Whatever comes, a registry stays right, and who was Opened, or refused for want of room, never is again.
func TestARegistryStaysRightAndNoNumberIsOpenedTwice(t *testing.T) {
	codes, sweeps, closings := map[int64]int{}, 0, 0
	for seed := range uint32(60) {
		s := source{seed: seed}
		r := registry(int64(seed%21), 0)
		if seed%4 == 3 {
			r = rightRegistries()[s.next(uint32(len(rightRegistries())))]
		}
		used := map[int64]bool{}
		for _, e := range r.Entries {
			used[e.Id] = true
		}
		for range 500 {
			was, want := r, impl.Registry{}
			id := s.streamId(r)
			switch s.next(24) {
			case 0:
				r, want = impl.Swept(r), sweptAsWritten(r)
				sweeps++
			case 1, 2, 3, 4, 5, 6, 7, 8, 9, 10:
				if s.next(3) > 0 {
					id = freshId(r) + 2*int64(s.next(3))
				}
				var code, asked int64
				want, asked = openedAsWritten(r, id)
				r, code = impl.Opened(r, id)
				if code != asked || used[id] && code != reBad {
					t.Fatalf("Opened(%v, %d): %v, %d, used before: %v", was, id, r, code, used[id])
				}
				used[id] = used[id] || code != reBad
				codes[code]++
			default:
				event := int64(s.next(10)) - 1
				var is, asked bool
				want, asked = happenedAsWritten(r, id, event)
				r, is = impl.Happened(r, id, event)
				if is != asked {
					t.Fatalf("Happened(%v, %d, %d): %v, %v", was, id, event, r, is)
				}
				if impl.Live(r) < impl.Live(was) {
					closings++
				}
			}
			if !sameRegistry(r, want) || !impl.RegistryOk(r) || !registryAsWritten(r) {
				t.Fatalf("%v became %v, not %v", was, r, want)
			}
			if r.Limit != was.Limit || r.Top < was.Top {
				t.Fatalf("%v became %v", was, r)
			}
		}
		for id := range used {
			if used[id] {
				isOpened(t, r, id, r, reBad)
				isOpened(t, impl.Swept(r), id, impl.Swept(r), reBad)
			}
		}
	}
	if codes[reOk] < 500 || codes[reBad] < 500 || codes[reFull] < 500 || sweeps < 500 || closings < 500 {
		t.Fatal("too few of a kind", codes, sweeps, closings)
	}
}

// A number stays used whatever Happened to it and whatever was Swept, by each way of one stream.
func TestANumberStaysUsedByEachWay(t *testing.T) {
	for _, way := range rightRows(5)[1:] {
		r, code := impl.Opened(registry(1, 0), 7)
		if code != reOk {
			t.Fatal(r, code)
		}
		for _, event := range way[1:] { // the head is what Opened it
			var is bool
			r, is = impl.Happened(r, 7, event)
			if !is {
				t.Fatalf("%v: %d is false: %v", way, event, r)
			}
			for _, x := range []impl.Registry{r, impl.Swept(r)} {
				isOpened(t, x, 7, x, reBad)
				isOpened(t, x, 5, x, reBad)
			}
		}
		state, _ := afterAsWritten(way)
		isStateOf(t, r, 7, state)
		isStateOf(t, impl.Swept(r), 7, state)
	}
}

func shareEntries(a, b []impl.Entry) bool {
	if cap(a) == 0 || cap(b) == 0 {
		return false
	}
	size := unsafe.Sizeof(impl.Entry{})
	from, other := uintptr(unsafe.Pointer(unsafe.SliceData(a))), uintptr(unsafe.Pointer(unsafe.SliceData(b)))
	return meet([2]uintptr{from, from + uintptr(cap(a))*size}, [2]uintptr{other, other + uintptr(cap(b))*size})
}

// The Entries lie amidst others, which show a write ahead of them and into the room behind them.
func TestRegistryArgumentsStayAndAnswersAreNewMemory(t *testing.T) {
	for _, r := range append(rightRegistries(), wrongRegistries()...) {
		all := slices.Concat([]impl.Entry{entry(71, 72)}, r.Entries, []impl.Entry{entry(73, 74), entry(75, 76)})
		held := slices.Clone(all)
		given := registry(r.Limit, r.Top, all[1:1+len(r.Entries)]...)
		if cap(given.Entries) < len(r.Entries)+2 {
			t.Fatal("there is no room behind the entries")
		}
		unchanged := func(what string, answer impl.Registry) {
			t.Helper()
			if !slices.Equal(all, held) || given.Limit != r.Limit || given.Top != r.Top {
				t.Fatalf("%s of %v changed it: %v", what, r, all)
			}
			if shareEntries(answer.Entries, all) {
				t.Fatalf("%s of %v: the answer's entries are those of the argument", what, r)
			}
			for i := range answer.Entries {
				answer.Entries[i] = entry(-7, -8)
			}
			if !slices.Equal(all, held) {
				t.Fatalf("%s of %v: what is written into the answer is seen in the argument", what, r)
			}
		}
		for _, id := range someIds(r) {
			answer, _ := impl.Opened(given, id)
			unchanged("Opened", answer)
			for _, event := range []int64{0, gotHead, gotEnd, gotReset, sentData, 8} {
				answer, _ := impl.Happened(given, id, event)
				unchanged("Happened", answer)
			}
			impl.StateOf(given, id)
			unchanged("StateOf", impl.Registry{})
		}
		unchanged("Swept", impl.Swept(given))
		impl.Live(given)
		impl.RegistryOk(given)
		unchanged("Live and RegistryOk", impl.Registry{})
	}
}

// Two answers of one registry share none either, though there is room behind its Entries.
func TestTwoAnswersOfOneRegistryAreApart(t *testing.T) {
	r := registry(20, 9, row(3, 2)...)
	r, _ = impl.Opened(r, 11)
	a, _ := impl.Opened(r, 13)
	b, _ := impl.Opened(r, 15)
	c, _ := impl.Happened(r, 11, gotReset)
	d := impl.Swept(r)
	for _, x := range [][2]impl.Registry{{r, a}, {r, b}, {r, c}, {r, d}, {a, b}, {a, c}, {a, d}, {b, c}, {b, d}, {c, d}} {
		if shareEntries(x[0].Entries, x[1].Entries) {
			t.Errorf("%v and %v share memory", x[0], x[1])
		}
	}
	if !sameRegistry(a, registry(20, 13, append(row(3, 2), entry(11, open), entry(13, open))...)) ||
		!sameRegistry(b, registry(20, 15, append(row(3, 2), entry(11, open), entry(15, open))...)) {
		t.Error(a, b)
	}
}
