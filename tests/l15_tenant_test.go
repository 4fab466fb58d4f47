package tests

import (
	"fmt"
	"math"
	"slices"
	"strings"
	"testing"
	"unsafe"

	"loop.example/g00296/impl"
)

func tenant(name, key string, quota int64, places ...string) impl.Tenant {
	return impl.Tenant{Name: name, Key: key, List: places, Quota: quota}
}

func tenants(list ...impl.Tenant) []impl.Tenant { return list }

// twoTenants are those of the bench.
func twoTenants() []impl.Tenant {
	return tenants(tenant("anna", "k1", 1, "a.x", "*.y"), tenant("bert", "k2", 2, "*"))
}

func sameTenant(a, b impl.Tenant) bool {
	return a.Name == b.Name && a.Key == b.Key && a.Quota == b.Quota && slices.Equal(a.List, b.List)
}

func copiedTenants(list []impl.Tenant) []impl.Tenant {
	list = slices.Clone(list)
	for i := range list {
		list[i].List = slices.Clone(list[i].List)
	}
	return list
}

func tenantAsWritten(x impl.Tenant) bool {
	if !nameAsWritten.MatchString(x.Name) || len(x.Key) < 1 || len(x.Key) > 40 || len(x.List) > 20 || x.Quota < 0 || x.Quota > 20 {
		return false
	}
	for _, text := range x.List {
		if len(text) > 60 {
			return false
		}
	}
	return true
}

// tenantsAsWritten holds each two against each other, not only those that are neighbours.
func tenantsAsWritten(list []impl.Tenant) bool {
	if len(list) > 8 {
		return false
	}
	for i, x := range list {
		if !tenantAsWritten(x) {
			return false
		}
		for _, y := range list[:i] {
			if strings.Compare(y.Name, x.Name) >= 0 {
				return false
			}
		}
	}
	return true
}

func tenantOfAsWritten(list []impl.Tenant, name string) (impl.Tenant, bool) {
	if tenantsAsWritten(list) {
		for _, x := range list {
			if x.Name == name {
				return x, true
			}
		}
	}
	return impl.Tenant{}, false
}

func admittedAsWritten(list []impl.Tenant, token, target string, now, open int64) int64 {
	if !tenantsAsWritten(list) || now < 0 || now > lastTime || open < 0 {
		return 500
	}
	name, _, is := readAsWritten(token)
	if !is {
		return 401
	}
	x, is := tenantOfAsWritten(list, name)
	if !is || !signedAsWritten(token, x.Key, now) {
		return 401
	}
	if !listedAsWritten(x.List, target) {
		return 403
	}
	if open >= x.Quota {
		return 429
	}
	return 200
}

func reachesAsWritten(list []impl.Tenant, target string) []string {
	var names []string
	for _, x := range list {
		if tenantsAsWritten(list) && listedAsWritten(x.List, target) {
			names = append(names, x.Name)
		}
	}
	return names
}

// staysSame asks that the list is as it was.
func staysSame(t *testing.T, list, was []impl.Tenant) {
	t.Helper()
	if !slices.EqualFunc(list, was, sameTenant) {
		t.Fatalf("%#v became %#v", was, list)
	}
}

func areTenants(t *testing.T, list []impl.Tenant, right bool) {
	t.Helper()
	was := copiedTenants(list)
	if got := impl.TenantsOk(list); got != right {
		t.Fatalf("TenantsOk(%#v): %v, not %v", list, got, right)
	}
	staysSame(t, list, was)
}

func isTenantOf(t *testing.T, list []impl.Tenant, name string, x impl.Tenant, found bool) {
	t.Helper()
	was := copiedTenants(list)
	if got, is := impl.TenantOf(list, name); !sameTenant(got, x) || is != found {
		t.Fatalf("TenantOf(%#v, %q): %#v, %v, not %#v, %v", list, name, got, is, x, found)
	}
	staysSame(t, list, was)
}

func isNoTenantOf(t *testing.T, list []impl.Tenant, name string) {
	t.Helper()
	isTenantOf(t, list, name, impl.Tenant{}, false)
}

func isAdmitted(t *testing.T, list []impl.Tenant, token, target string, now, open, code int64) {
	t.Helper()
	was := copiedTenants(list)
	if got := impl.Admitted(list, token, target, now, open); got != code {
		t.Fatalf("Admitted(%#v, %q, %q, %d, %d): %d, not %d", list, token, target, now, open, got, code)
	}
	staysSame(t, list, was)
}

func doReach(t *testing.T, list []impl.Tenant, target string, names ...string) {
	t.Helper()
	was := copiedTenants(list)
	if got := impl.Reaches(list, target); !slices.Equal(got, names) {
		t.Fatalf("Reaches(%#v, %q): %q, not %q", list, target, got, names)
	}
	staysSame(t, list, was)
}

// tenantsAllAsWritten asks every function of a list, around each of its tenants.
func tenantsAllAsWritten(t *testing.T, list []impl.Tenant) {
	t.Helper()
	areTenants(t, list, tenantsAsWritten(list))
	names, targets := []string{"", "nobody"}, []string{"", "q", "a.x", "b.y", "*", strings.Repeat("q", 60), strings.Repeat("q", 61)}
	tokens := []string{"", "anna.50", "nobody.50.7", impl.Token("nobody", 50, "k1")}
	opens := numbers(math.MinInt64, -1, 0, 20, math.MaxInt64)
	for _, x := range list {
		names = append(names, x.Name, x.Name+"a", x.Name[:len(x.Name)/2])
		tokens = append(tokens, tokenAsWritten(x.Name, 50, x.Key), tokenAsWritten(x.Name, 50, x.Key+"!"))
		opens = append(opens, x.Quota-1, x.Quota, x.Quota+1)
		if len(x.List) > 0 {
			targets = append(targets, x.List[0], x.List[len(x.List)-1])
		}
	}
	for _, name := range names {
		x, found := tenantOfAsWritten(list, name)
		isTenantOf(t, list, name, x, found)
	}
	slices.Sort(opens)
	opens = slices.Compact(opens)
	for _, target := range targets {
		doReach(t, list, target, reachesAsWritten(list, target)...)
		for _, token := range tokens {
			for _, now := range numbers(-1, 0, 49, 50) {
				for _, open := range opens {
					isAdmitted(t, list, token, target, now, open, admittedAsWritten(list, token, target, now, open))
				}
			}
		}
	}
}

// someTenants are n right ones, each with a key and a list of its own.
func someTenants(n int) []impl.Tenant {
	var list []impl.Tenant
	for i := range n {
		c := string([]byte{byte('b' + i)})
		list = append(list, tenant(c, "key"+c, int64(i), c+".x", "*."+c))
	}
	return list
}

func rightTenants() [][]impl.Tenant {
	twenty, forty, sixty := strings.Repeat("m", 20), strings.Repeat("k", 40), strings.Repeat("x", 60)
	list := [][]impl.Tenant{
		nil, {}, twoTenants(),
		// The least and the greatest of each.
		{tenant("a", "k", 0)}, {tenant("z", "\x00", 20, "")}, {tenant(twenty, forty, 20, slices.Repeat([]string{sixty}, 20)...)}, {tenant("m", strings.Repeat("\xff", 40), 1, slices.Repeat([]string{""}, 20)...)},
		{tenant("abcdefghijklmnopqrst", "\n", 7, "*")}, {tenant("ghijklmnopqrstuvwxyz", ".", 7, "*", "*", "**")},
		// A Name that is the beginning of the next one; letters that are neighbours; a short one behind a long one.
		{tenant("a", "k", 1, "*"), tenant("aa", "k", 1, "*"), tenant("aaa", "k", 1, "*")}, {tenant("ann", "k", 1, "*"), tenant("anna", "k", 1, "*")}, {tenant("a", "k", 1), tenant("b", "k", 1)}, {tenant("az", "k", 1), tenant("b", "k", 1)}, {tenant("ay", "k", 1), tenant("az", "k", 1)},
		{tenant(twenty[:19], "k", 1, "q"), tenant(twenty, "k", 1, "q"), tenant("n", "k", 1, "q")}, {tenant(strings.Repeat("a", 20), "k", 1), tenant(strings.Repeat("a", 19)+"b", "k", 1)},
		// Key, List and Quota may be alike, and need not rise.
		{tenant("a", "k2", 9, "b", "a"), tenant("b", "k1", 3, "a", "b"), tenant("c", "k1", 9, "b", "a")},
	}
	for n := range 9 {
		list = append(list, someTenants(n))
	}
	return list
}

// wrongOnes are tenants of which one thing alone is wrong. (Those without a Name, or with one that would not
// stand between two others, are left to the tests of Names.)
func wrongOnes(name string) []impl.Tenant {
	list := tenants(
		tenant(name+"1", "k", 1, "q"), tenant(name+".", "k", 1, "q"), tenant(name+"\x00", "k", 1, "q"), tenant(name+"\xff", "k", 1, "q"), tenant(name+"A", "k", 1, "q"), tenant(name+"`", "k", 1, "q"), tenant(name+"{", "k", 1, "q"), tenant(name+" ", "k", 1, "q"), tenant((name + strings.Repeat("a", 20))[:20]+"a", "k", 1, "q"),
		tenant(name, "", 1, "q"), tenant(name, strings.Repeat("k", 41), 1, "q"), tenant(name, strings.Repeat("k", 296), 1, "q"),
		tenant(name, "k", 1, slices.Repeat([]string{"q"}, 21)...), tenant(name, "k", 1, slices.Repeat([]string{""}, 21)...), tenant(name, "k", 1, slices.Repeat([]string{"q"}, 276)...),
		tenant(name, "k", 1, strings.Repeat("q", 61)), tenant(name, "k", 1, strings.Repeat("q", 61), "q"), tenant(name, "k", 1, "q", strings.Repeat("q", 61)), tenant(name, "k", 1, "q", "*"+strings.Repeat("q", 60), "q"), tenant(name, "k", 1, append(slices.Repeat([]string{"q"}, 19), strings.Repeat("q", 316))...),
		tenant(name, "k", -1, "q"), tenant(name, "k", 21, "q"), tenant(name, "k", 1<<32+1, "q"),
	)
	for _, n := range farNumbers() {
		list = append(list, tenant(name, "k", n, "q"))
	}
	return list
}

func wrongTenants() [][]impl.Tenant {
	list := [][]impl.Tenant{
		{{}}, {tenant("", "k", 1, "q")}, {tenant("", "k", 1, "q"), tenant("a", "k", 1, "q")}, append(twoTenants(), impl.Tenant{}),
		// Two of one Name; two that fall.
		{tenant("a", "k", 1, "q"), tenant("a", "k", 1, "q")}, {tenant("anna", "k1", 1, "a.x"), tenant("anna", "k2", 2, "*")}, {tenant("b", "k", 1, "q"), tenant("a", "k", 1, "q")}, {tenant("aa", "k", 1, "q"), tenant("a", "k", 1, "q")}, {tenant("anna", "k", 1, "q"), tenant("ann", "k", 1, "q")}, {tenant("b", "k", 1, "q"), tenant("az", "k", 1, "q")}, {tenant("b", "k", 1, "q"), tenant("aaaaaaaaaaaaaaaaaaaa", "k", 1, "q")},
		{tenant("a", "k", 1, "q"), tenant("c", "k", 1, "q"), tenant("b", "k", 1, "q")}, {tenant("b", "k", 1, "q"), tenant("a", "k", 1, "q"), tenant("c", "k", 1, "q")}, {tenant("a", "k", 1, "q"), tenant("b", "k", 1, "q"), tenant("a", "k", 1, "q")}, {tenant("c", "k", 1, "q"), tenant("b", "k", 1, "q"), tenant("a", "k", 1, "q")},
		someTenants(9), someTenants(10), someTenants(25), slices.Repeat(someTenants(1), 9), slices.Repeat(someTenants(8), 33),
	}
	for _, x := range wrongOnes("anna") {
		list = append(list, tenants(x), tenants(x, tenant("bert", "k2", 2, "*")), tenants(tenant("aaron", "k2", 2, "*"), x), tenants(tenant("aaron", "k2", 2, "*"), x, tenant("bert", "k2", 2, "*")))
	}
	return list
}

func TestTenantsOk(t *testing.T) {
	for _, list := range rightTenants() {
		areTenants(t, list, true)
		if !tenantsAsWritten(list) {
			t.Errorf("by the tests' own %#v is wrong", list)
		}
	}
	for _, list := range wrongTenants() {
		areTenants(t, list, false)
		if tenantsAsWritten(list) {
			t.Errorf("by the tests' own %#v is right", list)
		}
	}
}

func TestTenantsOkOfEachCount(t *testing.T) {
	for n := range 21 {
		areTenants(t, someTenants(n), n <= 8)
	}
	areTenants(t, slices.Repeat(someTenants(8), 8193), false)
}

func TestTenantsOkOfNames(t *testing.T) {
	for _, name := range rightNames() {
		areTenants(t, tenants(tenant(name, "k", 1, "q")), true)
	}
	for _, name := range wrongNames() {
		areTenants(t, tenants(tenant(name, "k", 1, "q")), false)
	}
	for n := range 30 {
		areTenants(t, tenants(tenant(strings.Repeat("z", n), "k", 1)), n >= 1 && n <= 20)
	}
	// Each two Names, in both orders: only where they rise.
	for _, a := range rightNames() {
		for _, b := range rightNames() {
			areTenants(t, tenants(tenant(a, "k1", 1, "q"), tenant(b, "k2", 2, "*")), a < b)
		}
	}
}

func TestTenantsOkOfKeysListsAndQuotas(t *testing.T) {
	for _, key := range slices.Concat(rightKeys(), wrongKeys()) {
		areTenants(t, tenants(tenant("a", key, 1)), len(key) >= 1 && len(key) <= 40)
	}
	for n := range 90 {
		areTenants(t, tenants(tenant("a", strings.Repeat("k", n), 1)), n >= 1 && n <= 40)
		areTenants(t, tenants(tenant("a", "k", 1, slices.Repeat([]string{"q"}, n)...)), n <= 20)
		areTenants(t, tenants(tenant("a", "k", 1, strings.Repeat("q", n))), n <= 60)
		areTenants(t, tenants(tenant("a", "k", 1, strings.Repeat("*", n), "q")), n <= 60)
	}
	for quota := int64(-30); quota < 60; quota++ {
		areTenants(t, tenants(tenant("a", "k", quota, "q")), quota >= 0 && quota <= 20)
	}
	for _, quota := range farNumbers() {
		areTenants(t, tenants(tenant("a", "k", quota, "q")), false)
	}
	// A text that is too long is wrong at each place of the List.
	for at := range 20 {
		places := slices.Repeat([]string{"q"}, 20)
		places[at] = strings.Repeat("q", 60)
		areTenants(t, tenants(tenant("a", "k", 1, places...)), true)
		places[at] += "q"
		areTenants(t, tenants(tenant("a", "k", 1, places...)), false)
	}
}

// One tenant that is wrong makes all of them wrong, wherever it stands and however many there are.
func TestOneWrongTenantAtEachPlace(t *testing.T) {
	for n := 1; n <= 8; n++ {
		for at := range n {
			for _, x := range wrongOnes(someTenants(n)[at].Name) {
				list := someTenants(n)
				list[at] = x
				areTenants(t, list, false)
				for _, y := range list {
					isNoTenantOf(t, list, y.Name)
					isAdmitted(t, list, tokenAsWritten(y.Name, 50, y.Key), "b.x", 9, 0, 500)
				}
				for _, target := range []string{"b.x", "q.b", "q", ""} {
					doReach(t, list, target)
				}
			}
			// Two neighbours the wrong way about, and two of one Name.
			if at > 0 {
				list := someTenants(n)
				list[at-1], list[at] = list[at], list[at-1]
				areTenants(t, list, false)
				list = someTenants(n)
				list[at].Name = list[at-1].Name
				areTenants(t, list, false)
			}
		}
	}
}

func TestTenantOf(t *testing.T) {
	two := twoTenants()
	isTenantOf(t, two, "anna", tenant("anna", "k1", 1, "a.x", "*.y"), true)
	isTenantOf(t, two, "bert", tenant("bert", "k2", 2, "*"), true)
	for _, name := range []string{"", "a", "ann", "annaa", "Anna", "anna ", " anna", "anna\x00", "anna.", "nna", "b", "carl", "k1", "*", "anna.50", "\xff"} {
		isNoTenantOf(t, two, name)
	}
	near := tenants(tenant("a", "k1", 1, "1"), tenant("aa", "k2", 2, "2"), tenant("aaa", "k3", 3), tenant("ab", "k4", 4, "", "4"))
	for _, x := range near {
		isTenantOf(t, near, x.Name, x, true)
	}
	isNoTenantOf(t, near, "aaaa")
	isNoTenantOf(t, near, "b")
	isNoTenantOf(t, near, "")
	isNoTenantOf(t, nil, "anna")
	isNoTenantOf(t, tenants(), "")
}

func TestTenantOfEachOfThem(t *testing.T) {
	for _, list := range rightTenants() {
		for _, x := range list {
			isTenantOf(t, list, x.Name, x, true)
		}
		for _, name := range slices.Concat(rightNames(), wrongNames()) {
			x, found := tenantOfAsWritten(list, name)
			isTenantOf(t, list, name, x, found)
		}
	}
	for _, list := range wrongTenants() {
		isNoTenantOf(t, list, "")
		isNoTenantOf(t, list, "bert")
		for _, x := range list {
			isNoTenantOf(t, list, x.Name)
		}
	}
}

func TestAdmitted(t *testing.T) {
	const anna, bert = "anna.50.2047271917", "bert.50.968703650"
	sixty := strings.Repeat("q", 60)
	two := twoTenants()
	for _, c := range []struct {
		token, target string
		now, open     int64
		code          int64
	}{
		{anna, "a.x", 9, 0, 200}, {anna, "b.y", 9, 0, 200}, {anna, ".y", 9, 0, 200}, {anna, "*.y", 9, 0, 200}, {bert, "a.x", 9, 0, 200}, {bert, "q", 9, 1, 200}, {bert, "*", 9, 0, 200},
		// Now: no time, the first one, the last one.
		{anna, "a.x", -1, 0, 500}, {anna, "a.x", 0, 0, 200}, {anna, "a.x", 1, 0, 200}, {anna, "a.x", 1000000, 0, 401}, {anna, "a.x", 1000001, 0, 500}, {anna, "a.x", math.MinInt64, 0, 500}, {anna, "a.x", math.MaxInt64, 0, 500}, {anna, "a.x", 1<<32 + 9, 0, 500},
		// Until: one below it, just it, one above it.
		{anna, "a.x", 49, 0, 200}, {anna, "a.x", 50, 0, 401}, {anna, "a.x", 51, 0, 401},
		// Open: below 0, one below Quota, just Quota, one above it.
		{anna, "a.x", 9, -1, 500}, {anna, "a.x", 9, 1, 429}, {anna, "a.x", 9, 2, 429}, {bert, "a.x", 9, 1, 200}, {bert, "a.x", 9, 2, 429}, {bert, "a.x", 9, 3, 429}, {anna, "a.x", 9, math.MinInt64, 500}, {anna, "a.x", 9, math.MaxInt64, 429}, {anna, "a.x", 9, 1 << 32, 429}, {bert, "a.x", 9, 1<<32 + 1, 429}, {anna, "a.x", 9, -1 << 32, 500},
		// The target: not on the list of whose token it is, though on another one's; too short, too long.
		{anna, "z", 9, 0, 403}, {anna, "a.xx", 9, 0, 403}, {anna, "a", 9, 0, 403}, {anna, "A.X", 9, 0, 403}, {anna, "*", 9, 0, 403}, {anna, "", 9, 0, 403}, {bert, "", 9, 0, 403}, {bert, "q", 9, 0, 200}, {bert, sixty, 9, 0, 200}, {bert, sixty + "q", 9, 0, 403}, {anna, sixty[:58] + ".y", 9, 0, 200}, {anna, sixty[:59] + ".y", 9, 0, 403},
		// A token by another tenant's key, by nobody's, for a name that no tenant has.
		{impl.Token("anna", 50, "k2"), "a.x", 9, 0, 401}, {impl.Token("bert", 50, "k1"), "a.x", 9, 0, 401}, {impl.Token("anna", 50, ""), "a.x", 9, 0, 401}, {impl.Token("anna", 50, "k"), "a.x", 9, 0, 401}, {impl.Token("carl", 50, "k1"), "a.x", 9, 0, 401}, {impl.Token("carl", 50, "k2"), "a.x", 9, 0, 401}, {impl.Token("carl", 50, ""), "a.x", 9, 0, 401}, {impl.Token("ann", 50, "k1"), "a.x", 9, 0, 401}, {impl.Token("annaa", 50, "k1"), "a.x", 9, 0, 401},
		{"anna.51.2047271917", "a.x", 9, 0, 401}, {"bert.50.2047271917", "a.x", 9, 0, 401}, {"anna.50.2047271918", "a.x", 9, 0, 401}, {"anna.50.0", "a.x", 9, 0, 401},
		// One that can't be read.
		{"", "a.x", 9, 0, 401}, {".", "a.x", 9, 0, 401}, {"..", "a.x", 9, 0, 401}, {"anna", "a.x", 9, 0, 401}, {"anna.50", "a.x", 9, 0, 401}, {"anna.50.", "a.x", 9, 0, 401}, {anna + ".", "a.x", 9, 0, 401}, {anna + " ", "a.x", 9, 0, 401}, {" " + anna, "a.x", 9, 0, 401}, {"anna.050.2047271917", "a.x", 9, 0, 401}, {"anna.50.02047271917", "a.x", 9, 0, 401}, {"Anna.50.2047271917", "a.x", 9, 0, 401}, {"\xff", "a.x", 9, 0, 401}, {"\x00", "a.x", 9, 0, 401}, {"k1", "a.x", 9, 0, 401},
		// Several are lacking: the one named first.
		{"", "", 9, 5, 401}, {"", "", -1, 5, 500}, {"", "", 9, -1, 500}, {anna, "", 9, 5, 403}, {anna, "z", 9, 1, 403}, {anna, "z", 50, 1, 401}, {anna, "a.x", 50, 1, 401}, {anna, "z", 50, 0, 401}, {anna, "z", -1, 1, 500}, {anna, "z", 9, -1, 500}, {impl.Token("carl", 50, "k1"), "", 60, 9, 401},
	} {
		isAdmitted(t, two, c.token, c.target, c.now, c.open, c.code)
		if got := admittedAsWritten(two, c.token, c.target, c.now, c.open); got != c.code {
			t.Errorf("by the tests' own %q, %q, %d, %d: %d, not %d", c.token, c.target, c.now, c.open, got, c.code)
		}
	}
}

// Of each way in which one thing is lacking, with each of the others, the code is the one named first.
func TestAdmittedByWhatIsNamedFirst(t *testing.T) {
	type way struct {
		lacks bool
		set   func(list *[]impl.Tenant, token, target *string, now, open *int64)
	}
	ways := [][]way{
		{
			{false, func(*[]impl.Tenant, *string, *string, *int64, *int64) {}},
			{true, func(list *[]impl.Tenant, _, _ *string, _, _ *int64) { (*list)[1].Name = "anna" }},
			{true, func(list *[]impl.Tenant, _, _ *string, _, _ *int64) { (*list)[1].Key = "" }},
			{true, func(list *[]impl.Tenant, _, _ *string, _, _ *int64) { *list = append(*list, someTenants(9)...) }},
			{true, func(_ *[]impl.Tenant, _, _ *string, now, _ *int64) { *now = -1 }},
			{true, func(_ *[]impl.Tenant, _, _ *string, now, _ *int64) { *now = lastTime + 1 }},
			{true, func(_ *[]impl.Tenant, _, _ *string, _, open *int64) { *open = -1 }},
		},
		{
			{false, func(*[]impl.Tenant, *string, *string, *int64, *int64) {}},
			{true, func(_ *[]impl.Tenant, token, _ *string, _, _ *int64) { *token = "" }},
			{true, func(_ *[]impl.Tenant, token, _ *string, _, _ *int64) { *token = "anna.50" }},
			{true, func(_ *[]impl.Tenant, token, _ *string, _, _ *int64) { *token = impl.Token("carl", 50, "k1") }},
			{true, func(_ *[]impl.Tenant, token, _ *string, _, _ *int64) { *token = impl.Token("anna", 50, "k2") }},
			{true, func(_ *[]impl.Tenant, token, _ *string, _, _ *int64) { *token = impl.Token("anna", 9, "k1") }},
			{true, func(_ *[]impl.Tenant, token, _ *string, _, _ *int64) { *token = impl.Token("anna", 0, "k1") }},
		},
		{
			{false, func(*[]impl.Tenant, *string, *string, *int64, *int64) {}},
			{true, func(_ *[]impl.Tenant, _, target *string, _, _ *int64) { *target = "" }},
			{true, func(_ *[]impl.Tenant, _, target *string, _, _ *int64) { *target = "z" }},
			{true, func(_ *[]impl.Tenant, _, target *string, _, _ *int64) { *target = strings.Repeat("q", 59) + ".y" }},
			{true, func(list *[]impl.Tenant, _, _ *string, _, _ *int64) { (*list)[0].List = nil }},
		},
		{
			{false, func(*[]impl.Tenant, *string, *string, *int64, *int64) {}},
			{true, func(_ *[]impl.Tenant, _, _ *string, _, open *int64) { *open = 1 }},
			{true, func(list *[]impl.Tenant, _, _ *string, _, _ *int64) { (*list)[0].Quota = 0 }},
		},
	}
	codes := numbers(500, 401, 403, 429)
	for _, first := range ways[0] {
		for _, second := range ways[1] {
			for _, third := range ways[2] {
				for _, fourth := range ways[3] {
					list, token, target, now, open := twoTenants(), impl.Token("anna", 50, "k1"), "b.y", int64(9), int64(0)
					code := int64(200)
					// From the last to the first, so that an open below 0 stays, and the code of the first does.
					for i, w := range slices.Backward([]way{first, second, third, fourth}) {
						w.set(&list, &token, &target, &now, &open)
						if w.lacks {
							code = codes[i]
						}
					}
					if code == 500 && admittedAsWritten(list, token, target, now, open) != 500 {
						t.Fatalf("the tests' own way lacks nothing: %#v, %d, %d", list, now, open)
					}
					isAdmitted(t, list, token, target, now, open, code)
				}
			}
		}
	}
}

// What is right at its least and at its greatest is Admitted; one more or one less is not.
func TestAdmittedAtEachEdge(t *testing.T) {
	for _, name := range rightNames() {
		for _, key := range rightKeys()[1:] {
			for _, until := range numbers(0, 1, 50, 999999, 1000000) {
				list := tenants(tenant(name, key, 3, "*"))
				token := impl.Token(name, until, key)
				for _, now := range numbers(-1, 0, 1, until-1, until, until+1, lastTime-1, lastTime, lastTime+1) {
					code := int64(401)
					switch {
					case now < 0 || now > lastTime:
						code = 500
					case now < until:
						code = 200
					}
					isAdmitted(t, list, token, "q", now, 0, code)
				}
			}
		}
	}
	token := impl.Token("anna", 50, "k1")
	for quota := int64(0); quota <= 20; quota++ {
		list := tenants(tenant("anna", "k1", quota, "*"))
		for open := int64(-2); open <= 23; open++ {
			code := int64(200)
			switch {
			case open < 0:
				code = 500
			case open >= quota:
				code = 429
			}
			isAdmitted(t, list, token, "q", 49, open, code)
		}
	}
	for n := range 70 {
		code := int64(403)
		if n >= 1 && n <= 60 {
			code = 200
		}
		isAdmitted(t, tenants(tenant("anna", "k1", 1, "*")), token, strings.Repeat("q", n), 49, 0, code)
	}
	for n := range 25 {
		list := tenants(tenant("anna", "k1", 1, slices.Repeat([]string{"p"}, n)...))
		for at := range n {
			list[0].List[at] = "*q"
			code := int64(200)
			if n > 20 {
				code = 500
			}
			isAdmitted(t, list, token, "q", 49, 0, code)
			list[0].List[at] = "p"
		}
	}
	isAdmitted(t, tenants(tenant("anna", "k1", 1)), token, "q", 49, 0, 403)
	isAdmitted(t, tenants(tenant("anna", "k1", 1, "")), token, "", 49, 0, 403)
}

// A token opens the list and the room of its own tenant alone, whoever else is there.
func TestAdmittedByOnesOwn(t *testing.T) {
	for n := 1; n <= 8; n++ {
		list := someTenants(n)
		for i, x := range list {
			for j, y := range list {
				token := impl.Token(x.Name, 50, y.Key)
				for _, z := range list {
					for open := range int64(n + 1) {
						code := int64(200)
						switch {
						case i != j:
							code = 401
						case z.Name != x.Name:
							code = 403
						case open >= x.Quota:
							code = 429
						}
						isAdmitted(t, list, token, z.Name+".x", 9, open, code)
						isAdmitted(t, list, token, "q."+z.Name, 9, open, code)
					}
				}
			}
		}
	}
	// Two keys that make one Mac of it sign for each other: whose token it is, its name tells.
	list := tenants(tenant("anna", "k2302", 1, "a"), tenant("bert", "k42035", 1, "b"))
	isAdmitted(t, list, impl.Token("anna", 50, "k42035"), "a", 9, 0, 200)
	isAdmitted(t, list, impl.Token("anna", 50, "k42035"), "b", 9, 0, 403)
	isAdmitted(t, list, impl.Token("anna", 51, "k42035"), "a", 9, 0, 401)
}

func TestNobodyIsAdmittedWhereThereIsNone(t *testing.T) {
	for _, list := range [][]impl.Tenant{nil, {}} {
		for _, token := range []string{"", "anna.50.2047271917", impl.Token("a", 50, ""), "."} {
			for _, target := range []string{"", "q", "*"} {
				isAdmitted(t, list, token, target, 9, 0, 401)
				isAdmitted(t, list, token, target, 0, math.MaxInt64, 401)
				isAdmitted(t, list, token, target, -1, 0, 500)
				isAdmitted(t, list, token, target, lastTime+1, 0, 500)
				isAdmitted(t, list, token, target, 9, -1, 500)
			}
		}
	}
	for _, list := range wrongTenants() {
		for _, x := range append(tenants(tenant("", "", 0)), list...) {
			for _, target := range []string{"", "q", "b.x"} {
				isAdmitted(t, list, tokenAsWritten(x.Name, 50, x.Key), target, 9, 0, 500)
				isAdmitted(t, list, "", target, 9, 0, 500)
				isAdmitted(t, list, "", target, -1, -1, 500)
			}
		}
	}
}

func TestReaches(t *testing.T) {
	sixty := strings.Repeat("q", 60)
	two := twoTenants()
	doReach(t, two, "z", "bert")
	doReach(t, two, "a.x", "anna", "bert")
	doReach(t, two, "b.y", "anna", "bert")
	doReach(t, two, "a.xx", "bert")
	doReach(t, two, "*", "bert")
	doReach(t, two, sixty, "bert")
	doReach(t, two, sixty+"q")
	doReach(t, two, "")
	// Whoever's Quota is 0 has the place on its list all the same; and a place that is there twice is told once.
	many := tenants(tenant("a", "k", 0, "q"), tenant("b", "k", 1), tenant("c", "k", 1, "p", "q", "*q", "q"), tenant("d", "k", 1, "qq", "*qq", "q*", ""), tenant("e", "k", 1, "*"), tenant("f", "k", 1, "**"), tenant("g", "k", 20, append(slices.Repeat([]string{"p"}, 19), "q")...), tenant("h", "k", 1, "Q"))
	doReach(t, many, "q", "a", "c", "e", "g")
	doReach(t, many, "p", "c", "e", "g")
	doReach(t, many, "qq", "c", "d", "e")
	doReach(t, many, "q*", "d", "e", "f")
	doReach(t, many, "Q", "e", "h")
	doReach(t, many, "z", "e")
	doReach(t, many, "")
	doReach(t, many[5:], "z")
	doReach(t, nil, "q")
	doReach(t, tenants(), "")
	doReach(t, tenants(tenant("a", "k", 1, "")), "")
	for n := range 9 {
		list := someTenants(n)
		doReach(t, list, "q")
		for i := range list {
			list[i].List = append(list[i].List, "q")
		}
		var all []string
		for _, x := range list {
			all = append(all, x.Name)
		}
		doReach(t, list, "q", all...)
		for _, x := range list {
			doReach(t, list, x.Name+".x", x.Name)
			doReach(t, list, "q."+x.Name, x.Name)
		}
	}
	for _, list := range wrongTenants() {
		for _, target := range []string{"", "q", "a.x", "b.x", "*", sixty, sixty + "q"} {
			doReach(t, list, target)
		}
	}
}

func TestTenantsAsWritten(t *testing.T) {
	for _, list := range rightTenants() {
		tenantsAllAsWritten(t, list)
	}
	for _, list := range wrongTenants() {
		if len(list) < 10 {
			tenantsAllAsWritten(t, list)
		}
	}
}

// tenants are right, with short names, many of which begin another one.
func (s *source) tenants() []impl.Tenant {
	byName := map[string]impl.Tenant{}
	for range s.next(9) {
		x := tenant("aab"[s.next(3):]+"abab"[:s.next(5)], s.text(1+s.next(40)), s.upTo(20))
		for range s.next(21) {
			x.List = append(x.List, s.place())
		}
		byName[x.Name] = x
	}
	var list []impl.Tenant
	for _, x := range byName {
		list = append(list, x)
	}
	slices.SortFunc(list, func(a, b impl.Tenant) int { return strings.Compare(a.Name, b.Name) })
	return list
}

// Who is Admitted has a token, a place on its list, and room; who is not lacks the thing that is told.
func TestWhoIsAdmittedHasATokenAPlaceAndRoom(t *testing.T) {
	s := source{seed: 15}
	met := map[int64]int{}
	for range 4000 {
		list := s.tenants()
		areTenants(t, list, true)
		if len(list) == 0 {
			continue
		}
		x, y := list[s.next(uint32(len(list)))], list[s.next(uint32(len(list)))]
		until := s.upTo(lastTime)
		token := impl.Token(x.Name, until, x.Key)
		switch s.next(8) {
		case 0:
			token = impl.Token(x.Name, until, y.Key)
		case 1:
			token = impl.Token(s.name(), until, x.Key)
		case 2:
			token = token[:s.next(uint32(len(token)))]
		}
		for _, now := range numbers(0, until-1, until, s.upTo(lastTime)) {
			for _, open := range numbers(0, x.Quota-1, x.Quota, s.upTo(25)) {
				target := s.place()
				code := impl.Admitted(list, token, target, now, open)
				met[code]++
				isAdmitted(t, list, token, target, now, open, admittedAsWritten(list, token, target, now, open))
				name, _, _ := impl.ReadToken(token)
				who, found := impl.TenantOf(list, name)
				right := now >= 0 && open >= 0
				signed, listed := found && impl.Signed(token, who.Key, now), impl.Listed(who.List, target)
				reached := slices.Contains(impl.Reaches(list, target), name)
				if found && listed != reached || (code == 200) != (right && signed && listed && open < who.Quota) || (code == 500) == right || (code == 401) != (right && !signed) || (code == 403) != (right && signed && !listed) {
					t.Fatalf("Admitted(%#v, %q, %q, %d, %d): %d", list, token, target, now, open, code)
				}
			}
		}
	}
	for _, code := range numbers(200, 401, 403, 429, 500) {
		if met[code] < 500 {
			t.Fatalf("too few of %d: %v", code, met)
		}
	}
}

// watchedTenants are what is handed in, with all texts over buffers, amidst others that show a write beside them.
type watchedTenants struct {
	watched
	given []impl.Tenant
	all   []impl.Tenant
	lists [][]string
}

// text lies over a buffer of its own, too.
func (w *watched) text(text string) string {
	s, buffer := overBuffer(text)
	w.buffers = append(w.buffers, buffer)
	w.texts = append(w.texts, strings.Clone(text))
	return s
}

func watch(list []impl.Tenant) *watchedTenants {
	w := &watchedTenants{}
	for _, x := range slices.Concat(tenants(tenant("ahead", "a", 71, "a")), list, tenants(tenant("behind", "b", 72, "b"), tenant("behind", "c", 73, "c"))) {
		places := []string{w.text("ahead")}
		for _, place := range x.List {
			places = append(places, w.text(place))
		}
		places = append(places, w.text("behind"), w.text("*"))
		w.lists = append(w.lists, places)
		w.all = append(w.all, impl.Tenant{Name: w.text(x.Name), Key: w.text(x.Key), List: places[1 : 1+len(x.List)], Quota: x.Quota})
	}
	w.given = w.all[1 : 1+len(list)]
	return w
}

// stays asks that nothing was written, neither into what was handed in nor beside it.
func (w *watchedTenants) stays(t *testing.T, list []impl.Tenant) {
	t.Helper()
	w.stay(t)
	held := watch(list)
	if !slices.EqualFunc(w.all, held.all, sameTenant) || !slices.EqualFunc(w.lists, held.lists, slices.Equal) {
		t.Fatalf("%#v became %#v, %q", held.all, w.all, w.lists)
	}
}

// apartFrom asks that no text lies in the memory of what is watched.
func (w *watched) apartFrom(t *testing.T, texts ...string) {
	t.Helper()
	for _, text := range texts {
		for _, buffer := range w.buffers {
			if share(text, unsafe.String(&buffer[0], len(buffer))) {
				t.Fatalf("%q shares its memory with an argument", text)
			}
		}
	}
}

func textSpan(list []string) [2]uintptr {
	from := uintptr(unsafe.Pointer(unsafe.SliceData(list)))
	return [2]uintptr{from, from + uintptr(cap(list))*unsafe.Sizeof("")}
}

// listsApart asks that an answer's list shares no memory with a list of what is watched.
func (w *watchedTenants) listsApart(t *testing.T, answer []string) {
	t.Helper()
	if cap(answer) == 0 {
		return
	}
	for _, places := range w.lists {
		if meet(textSpan(answer), textSpan(places)) {
			t.Fatalf("%q shares its memory with an argument's list", answer)
		}
	}
}

func TestTenantArgumentsStayAndAnswersAreNewMemory(t *testing.T) {
	for _, list := range append(rightTenants(), wrongTenants()...) {
		if len(list) > 30 {
			continue
		}
		w := watch(list)
		names := []string{w.text("nobody"), w.text("")}
		for _, x := range w.given {
			names = append(names, x.Name, w.text(x.Name))
		}
		impl.TenantsOk(w.given)
		for _, name := range names {
			x, found := impl.TenantOf(w.given, name)
			y, _ := impl.TenantOf(w.given, name)
			w.apartFrom(t, append([]string{x.Name, x.Key}, x.List...)...)
			w.listsApart(t, x.List)
			if len(x.List) > 0 && meet(textSpan(x.List), textSpan(y.List)) {
				t.Fatalf("two answers of TenantOf(%#v, %q) share a list", list, name)
			}
			// What is answered is changed, its spare room and all: neither an argument nor the next answer is.
			for i := range x.List[:cap(x.List)] {
				x.List[:cap(x.List)][i] = "changed"
			}
			want, _ := tenantOfAsWritten(list, strings.Clone(name))
			isTenantOf(t, w.given, name, want, found)
			w.stays(t, list)
		}
		for _, target := range []string{w.text("q"), w.text("b.x"), w.text("a.x"), w.text("z.y"), w.text(""), w.text(strings.Repeat("q", 61))} {
			reached := impl.Reaches(w.given, target)
			again := impl.Reaches(w.given, target)
			w.apartFrom(t, reached...)
			w.listsApart(t, reached)
			if len(reached) > 0 && meet(textSpan(reached), textSpan(again)) {
				t.Fatalf("two answers of Reaches(%#v, %q) share memory", list, target)
			}
			for i := range reached[:cap(reached)] {
				reached[:cap(reached)][i] = "changed"
			}
			doReach(t, w.given, target, reachesAsWritten(list, target)...)
			for _, x := range w.given {
				token := w.text(tokenAsWritten(x.Name, 50, x.Key))
				impl.Admitted(w.given, token, target, 9, 0)
				impl.Admitted(w.given, token, target, -1, math.MinInt64)
				impl.Admitted(w.given, target, token, 49, 1)
			}
			impl.Admitted(w.given, target, target, 9, 0)
			w.stays(t, list)
		}
	}
}

// What was answered stays when what was handed in is changed later, down to the bytes of its texts.
func TestTenantAnswersStayWhenTheArgumentsAreChanged(t *testing.T) {
	for _, list := range rightTenants() {
		for _, x := range list {
			w := watch(list)
			name, target := w.text(x.Name), w.text("q")
			got, found := impl.TenantOf(w.given, name)
			reached := impl.Reaches(w.given, target)
			for _, buffer := range w.buffers {
				for i := range buffer {
					buffer[i] = '!'
				}
			}
			for i := range w.all {
				w.all[i] = tenant("changed", "changed", -1)
				for at := range w.lists[i] {
					w.lists[i][at] = "changed"
				}
			}
			if !found || !sameTenant(got, x) || !slices.Equal(reached, reachesAsWritten(list, "q")) {
				t.Fatalf("the answers of %#v and %q became %#v and %q", list, x.Name, got, reached)
			}
		}
	}
}

// A call hangs on what it is given alone: what was asked ahead of it, or is asked beside it, does not change it.
func TestTenantsAreTheSameWhateverWasAskedAhead(t *testing.T) {
	s := source{seed: 150}
	type call struct {
		list          []impl.Tenant
		token, target string
		code          int64
		names         string
	}
	var calls []call
	for range 300 {
		c := call{list: s.tenants(), target: s.place()}
		if len(c.list) > 0 {
			x := c.list[s.next(uint32(len(c.list)))]
			c.token = impl.Token(x.Name, 50, x.Key)
		}
		c.code = admittedAsWritten(c.list, c.token, c.target, 9, 3)
		c.names = fmt.Sprintf("%q", reachesAsWritten(c.list, c.target))
		calls = append(calls, c)
	}
	same := func(c call) bool {
		return impl.Admitted(c.list, c.token, c.target, 9, 3) == c.code && fmt.Sprintf("%q", impl.Reaches(c.list, c.target)) == c.names
	}
	for i, c := range slices.Backward(calls) {
		if !same(c) {
			t.Fatalf("call %d of %#v is another one backwards", i, c.list)
		}
	}
	wrong := make(chan int, 8)
	for range cap(wrong) {
		go func() {
			for i, c := range calls {
				if !same(c) {
					wrong <- i
					return
				}
			}
			wrong <- -1
		}()
	}
	for range cap(wrong) {
		if i := <-wrong; i >= 0 {
			t.Errorf("call %d of %#v is another one beside others", i, calls[i].list)
		}
	}
}

// The empty text at each place, and numbers that are far out of range, are answered as the chapter says.
func TestTenantsOfWhatIsFarFromRight(t *testing.T) {
	two := twoTenants()
	token := impl.Token("anna", 50, "k1")
	for _, n := range append(farNumbers(), -1) {
		isAdmitted(t, two, token, "a.x", n, 0, 500)
		isAdmitted(t, two, "", "", n, n, 500)
		isAdmitted(t, nil, "", "", n, n, 500)
		code := int64(429)
		if n < 0 {
			code = 500
		}
		isAdmitted(t, two, token, "a.x", 9, n, code)
	}
	isAdmitted(t, two, "", "a.x", 9, 0, 401)
	isAdmitted(t, two, token, "", 9, 0, 403)
	long := strings.Repeat("anna.50.2047271917", 10000)
	isAdmitted(t, two, long, "a.x", 9, 0, 401)
	isAdmitted(t, two, token, long, 9, 0, 403)
	isNoTenantOf(t, two, long)
	doReach(t, two, long)
	areTenants(t, tenants(tenant(long, long, 1, long)), false)
	areTenants(t, make([]impl.Tenant, 1), false)
	areTenants(t, make([]impl.Tenant, 100000), false)
}
