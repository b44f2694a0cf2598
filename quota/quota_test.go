package quota_test

import (
	"reflect"
	"slices"
	"testing"

	"tithebarn/api"
	"tithebarn/config"
	"tithebarn/quota"
	"tithebarn/samples"
)

const (
	amount = samples.Amount
	most   = samples.Most
	least  = samples.Least
	top    = samples.Top
)

var same, only, tree, tenant, ahead, cut = samples.Same, samples.Only, samples.Tree, samples.Tenant, samples.Ahead, samples.Cut

// setQuota is c, but that node n has so much.
func setQuota(c api.Config, n int, nominal, borrow, lend api.Vec) api.Config {
	c.Nodes = slices.Clone(c.Nodes)
	c.Nodes[n].Nominal, c.Nodes[n].Borrow, c.Nodes[n].Lend = nominal, borrow, lend
	return c
}

// two is a root with two tenants of nominal 4 that may borrow 4, and lend so much.
func two(first, second int) api.Config {
	c := setQuota(tree(-1, 0, 0), 1, same(4), same(4), same(first))
	return setQuota(c, 2, same(4), same(4), same(second))
}

// quotas is c, each tenant with the next quota of l, of numbers up to high.
func quotas(l *samples.Numbers, c api.Config, high int) api.Config {
	for n := range c.Nodes {
		if tenant(c, n) {
			nominal, lend := l.Vec(0, high), api.Vec{}
			for r := range lend {
				lend[r] = l.UpTo(nominal[r])
			}
			c = setQuota(c, n, nominal, l.Vec(0, high), lend)
		}
	}
	return c
}

// checked is c, held to be one that chapter 9's Check takes.
func checked(t *testing.T, c api.Config) api.Config {
	t.Helper()
	if config.Check(c) != api.OK {
		t.Fatalf("a configuration that may not be: %+v", c)
	}
	return c
}

// below are the tenants that n is ahead of, or is, rising.
func below(c api.Config, n int) []int {
	var l []int
	for m := range c.Nodes {
		if tenant(c, m) && slices.Contains(ahead(c, m), n) {
			l = append(l, m)
		}
	}
	return l
}

// total is all of l together, cut at each step.
func total(l ...int) int {
	sum := 0
	for _, n := range l {
		sum = cut(sum + cut(n))
	}
	return sum
}

// usedBy is what used has of node n, resource r.
func usedBy(used []api.Vec, n, r int) int {
	if n >= len(used) {
		return 0
	}
	return used[n][r]
}

// wantNominal is what the chapter says of Nominal.
func wantNominal(c api.Config, n int) api.Vec {
	var want api.Vec
	for r := range want {
		for _, m := range below(c, n) {
			want[r] = total(want[r], c.Nodes[m].Nominal[r])
		}
	}
	return want
}

// wantKept is what the chapter says of Kept.
func wantKept(c api.Config, used []api.Vec, n, t int) api.Vec {
	var want api.Vec
	for r := range want {
		for _, m := range below(c, n) {
			if m != t {
				want[r] = total(want[r], max(0, total(c.Nodes[m].Nominal[r], -c.Nodes[m].Lend[r], -cut(usedBy(used, m, r)))))
			}
		}
	}
	return want
}

// wantMay is what the chapter says of May.
func wantMay(c api.Config, used []api.Vec, t int, need api.Vec) bool {
	if !tenant(c, t) {
		return false
	}
	for r := range need {
		if total(usedBy(used, t, r), need[r]) > total(c.Nodes[t].Nominal[r], c.Nodes[t].Borrow[r]) {
			return false
		}
		for _, n := range ahead(c, t)[1:] {
			var parts []int
			for _, m := range below(c, n) {
				parts = append(parts, usedBy(used, m, r))
			}
			if total(append(parts, need[r], wantKept(c, used, n, t)[r])...) > wantNominal(c, n)[r] {
				return false
			}
		}
	}
	return true
}

// wantWithin is what the chapter says of Within.
func wantWithin(c api.Config, used []api.Vec, t int, need api.Vec) bool {
	if !tenant(c, t) {
		return false
	}
	for r := range need {
		if total(usedBy(used, t, r), need[r]) > c.Nodes[t].Nominal[r] {
			return false
		}
	}
	return true
}

// wantBorrows is what the chapter says of Borrows.
func wantBorrows(c api.Config, used []api.Vec, t int) bool {
	over := false
	for r := range api.NumRes {
		over = over || tenant(c, t) && usedBy(used, t, r) > c.Nodes[t].Nominal[r]
	}
	return over
}

// checkMay holds that May answers want.
func checkMay(t *testing.T, c api.Config, used []api.Vec, n int, need api.Vec, want bool) {
	t.Helper()
	if got := quota.May(c, used, n, need); got != want {
		t.Errorf("May of %d, %d, while %d are used: %t: %+v", n, need, used, got, c.Nodes)
	}
}

// checkWithin holds that Within answers want.
func checkWithin(t *testing.T, c api.Config, used []api.Vec, n int, need api.Vec, want bool) {
	t.Helper()
	if got := quota.Within(c, used, n, need); got != want {
		t.Errorf("Within of %d, %d, while %d are used: %t: %+v", n, need, used, got, c.Nodes)
	}
}

// checkBorrows holds that Borrows answers want.
func checkBorrows(t *testing.T, c api.Config, used []api.Vec, n int, want bool) {
	t.Helper()
	if got := quota.Borrows(c, used, n); got != want {
		t.Errorf("Borrows of %d, while %d are used: %t: %+v", n, used, got, c.Nodes)
	}
}

// checkKept holds that Kept answers want.
func checkKept(t *testing.T, c api.Config, used []api.Vec, n, but int, want api.Vec) {
	t.Helper()
	if got := quota.Kept(c, used, n, but); got != want {
		t.Errorf("Kept of %d but %d, while %d are used: %d, want %d: %+v", n, but, used, got, want, c.Nodes)
	}
}

// checkNominal holds that Nominal answers want.
func checkNominal(t *testing.T, c api.Config, n int, want api.Vec) {
	t.Helper()
	if got := quota.Nominal(c, n); got != want {
		t.Errorf("Nominal of %d: %d, want %d: %+v", n, got, want, c.Nodes)
	}
}

// checkAll holds all calls of node n against what the chapter says, and tells what May answers.
func checkAll(t *testing.T, c api.Config, used []api.Vec, n int, need api.Vec) bool {
	t.Helper()
	may := wantMay(c, used, n, need)
	checkMay(t, c, used, n, need, may)
	checkWithin(t, c, used, n, need, wantWithin(c, used, n, need))
	checkBorrows(t, c, used, n, wantBorrows(c, used, n))
	return may
}

// 11.1: the chapter's own example, in each resource.
func TestExamples(t *testing.T) {
	c := checked(t, two(4, 1))
	for r := range api.NumRes {
		checkMay(t, c, nil, 2, only(r, 8), true)
		checkMay(t, c, nil, 2, only(r, 9), false)
		checkMay(t, c, nil, 1, only(r, 5), true)
		checkMay(t, c, nil, 1, only(r, 6), false)
	}
	checkNominal(t, c, 0, same(8))
	checkNominal(t, c, 1, same(4))
	checkKept(t, c, nil, 0, 1, same(3))
	checkKept(t, c, nil, 0, 2, same(0))
	checkKept(t, c, nil, 0, 0, same(3))
}

// 11.1: the first three examples of the whole document.
func TestExamplesOfTheWhole(t *testing.T) {
	c := checked(t, two(4, 4))
	checkMay(t, c, nil, 1, same(8), true)
	checkMay(t, c, []api.Vec{2: same(1)}, 1, same(8), false)
	checkMay(t, c, []api.Vec{2: same(1)}, 1, same(7), true)
	borrowed := []api.Vec{1: same(8)}
	checkMay(t, c, borrowed, 2, same(4), false)
	checkWithin(t, c, borrowed, 2, same(4), true)
	checkBorrows(t, c, borrowed, 1, true)
	checkBorrows(t, c, borrowed, 2, false)
	c = checked(t, two(4, 0))
	checkMay(t, c, nil, 1, same(4), true)
	checkMay(t, c, nil, 1, same(5), false)
	checkMay(t, c, []api.Vec{2: same(3)}, 1, same(5), false) // what is used is not lent a second time
	checkMay(t, c, nil, 2, same(8), true)
}

// 11.1: a tenant's own bound is what it has and may borrow, all of it; one alone has no cohort.
func TestOwnBound(t *testing.T) {
	for r := range api.NumRes {
		alone := checked(t, setQuota(tree(-1), 0, same(9), only(r, 3), same(0)))
		lender := setQuota(tree(-1, 0, 0), 1, same(50), same(0), same(50))
		for _, x := range []struct {
			c api.Config
			n int
		}{{alone, 0}, {checked(t, setQuota(lender, 2, same(9), only(r, 3), same(9))), 2}} {
			used := make([]api.Vec, 3)
			used[x.n] = only(r, 2)
			checkMay(t, x.c, nil, x.n, only(r, 12), true)
			checkMay(t, x.c, nil, x.n, only(r, 13), false)
			checkMay(t, x.c, used, x.n, only(r, 10), true)
			checkMay(t, x.c, used, x.n, only(r, 11), false)
			checkMay(t, x.c, nil, x.n, only((r+1)%api.NumRes, 9), true)
			checkMay(t, x.c, nil, x.n, only((r+1)%api.NumRes, 10), false)
			checkMay(t, x.c, used, x.n, only((r+1)%api.NumRes, 10), false)
		}
	}
}

// 11.1: each cohort on a tenant's path holds it, the nearest, one between, and the root; others don't.
func TestEachCohort(t *testing.T) {
	c := tree(-1, 0, 1, 2, 2, 1, 0, 0, 7, 7) // 3 and 4 in 2; 5 and 2 in 1; 6, 7 and 1 in 0; 8 and 9 in 7
	for _, n := range []int{3, 4, 5, 6, 8, 9} {
		c = setQuota(c, n, same(10), same(50), same(10))
	}
	checked(t, c)
	for n, want := range []int{60, 30, 20, 10, 10, 10, 10, 20, 10, 10, 0} {
		checkNominal(t, c, n, same(want))
	}
	for _, x := range []struct{ of, by, used, may int }{
		{3, 4, 0, 20}, {3, 4, 3, 17}, {3, 4, 25, -5}, {3, 5, 10, 20}, {3, 5, 25, 5}, {3, 6, 40, 20}, {3, 6, 41, 19}, {3, 6, 60, 0}, {3, 8, 20, 20}, {3, 8, 55, 5},
		{5, 3, 0, 30}, {5, 3, 20, 10}, {5, 8, 30, 30}, {5, 8, 31, 29}, {6, 3, 0, 60}, {6, 3, 30, 30}, {6, 9, 45, 15}, {8, 9, 5, 15}, {8, 3, 40, 20}, {8, 3, 41, 19},
	} {
		used := make([]api.Vec, len(c.Nodes))
		used[x.by] = same(x.used)
		checkMay(t, c, used, x.of, same(x.may), true)
		for r := range api.NumRes {
			need := same(x.may)
			need[r]++
			checkMay(t, c, used, x.of, need, false)
		}
	}
}

// 11.1: what is kept counts in the cohorts that have who keeps it, and in no others.
func TestKeptInCohorts(t *testing.T) {
	c := tree(-1, 0, 0, 1, 1)
	c = setQuota(c, 2, same(10), same(50), same(4))
	c = setQuota(c, 3, same(10), same(50), same(10))
	c = checked(t, setQuota(c, 4, same(10), same(50), same(7)))
	for _, x := range []struct{ n, but, want int }{
		{0, 2, 3}, {0, 3, 9}, {0, 4, 6}, {0, 0, 9}, {0, 1, 9}, {0, 9, 9}, {0, -1, 9}, {1, 2, 3}, {1, 3, 3}, {1, 4, 0},
		{2, 2, 0}, {2, 3, 6}, {3, 4, 0}, {4, 3, 3}, {4, 4, 0}, {5, 3, 0}, {-1, 3, 0},
	} {
		checkKept(t, c, nil, x.n, x.but, same(x.want))
	}
	for _, x := range []struct{ of, may int }{{2, 27}, {3, 17}, {4, 20}} {
		checkMay(t, c, nil, x.of, same(x.may), true)
		checkMay(t, c, nil, x.of, same(x.may+1), false)
	}
	used := []api.Vec{2: same(1)} // of what 2 keeps, 1 is used, 5 are kept still
	checkKept(t, c, used, 0, 3, same(8))
	checkKept(t, c, used, 0, 4, same(5))
	checkKept(t, c, used, 0, 2, same(3))
}

// 11.1: what one tenant uses past what it keeps takes nothing off what another one keeps, nor one resource off another.
func TestKeptEachAlone(t *testing.T) {
	c := tree(-1, 0, 0, 0)
	for n := 1; n <= 3; n++ {
		c = setQuota(c, n, same(10), same(50), same(3))
	}
	checked(t, c)
	for r := range api.NumRes {
		for used, want := range map[int]int{0: 14, 1: 13, 6: 8, 7: 7, 8: 7, 10: 7, 30: 7, top: 7, -1: 15, -5: 19} {
			kept := same(14)
			kept[r] = want
			checkKept(t, c, []api.Vec{2: only(r, used)}, 0, 1, kept)
			checkKept(t, c, []api.Vec{3: only(r, used)}, 0, 1, kept)
			checkKept(t, c, []api.Vec{1: only(r, used)}, 0, 1, same(14))
		}
	}
}

// 11.1: what is no tenant may nothing, borrows nothing, and is within nothing.
func TestNoTenant(t *testing.T) {
	for _, row := range samples.MayBe() {
		l := samples.Numbers{}
		c := checked(t, quotas(&l, tree(row...), 9))
		used := l.Vecs(len(row)+3, 100, 200)
		for _, n := range samples.Around(c) {
			if !tenant(c, n) {
				for _, need := range []api.Vec{{}, same(1), same(-1), same(-999), same(least)} {
					checkMay(t, c, nil, n, need, false)
					checkMay(t, c, used, n, need, false)
					checkWithin(t, c, nil, n, need, false)
					checkWithin(t, c, used, n, need, false)
				}
				checkBorrows(t, c, nil, n, false)
				checkBorrows(t, c, used, n, false)
			}
		}
	}
}

// 11.1: Borrows and Within look at the tenant's own Nominal alone, in each resource.
func TestBorrowsAndWithin(t *testing.T) {
	c := checked(t, setQuota(two(4, 4), 1, api.Vec{4, 5, 6}, same(1), same(0)))
	for r := range api.NumRes {
		for used := -1; used <= 8; used++ {
			l := []api.Vec{same(50), only(r, used), same(50)}
			checkBorrows(t, c, l, 1, used > 4+r)
			for need := -2; need <= 9; need++ {
				checkWithin(t, c, l, 1, only(r, need), used+need <= 4+r)
			}
		}
	}
	checkBorrows(t, c, nil, 1, false)
	checkBorrows(t, c, []api.Vec{{}, {4, 5, 6}}, 1, false)
	checkBorrows(t, c, []api.Vec{{}, {4, 5, 7}}, 1, true)
	checkBorrows(t, c, []api.Vec{{}, {9, -9, -9}}, 1, true)
	checkWithin(t, c, nil, 1, api.Vec{4, 5, 6}, true)
	checkWithin(t, c, []api.Vec{{}, {1, 0, 6}}, 1, api.Vec{3, 5, 0}, true)
	checkWithin(t, c, []api.Vec{{}, {1, 0, 7}}, 1, api.Vec{3, 5, 0}, false)
}

// 11.1: all quotas of two tenants, all uses and needs, of small numbers, each resource's its own.
func TestSmallNumbers(t *testing.T) {
	var quotas [][3]int
	for i := range 3 * 2 * 3 {
		if q := [3]int{i / 6, i / 3 % 2, i % 3}; q[2] <= q[0] {
			quotas = append(quotas, q)
		}
	}
	turned := func(n, limit int) api.Vec { return api.Vec{n, (n + 1) % limit, 0} }
	yes := 0
	for _, p := range quotas {
		for _, q := range quotas {
			c := setQuota(tree(-1, 0, 0), 1, same(p[0]), same(p[1]), same(p[2]))
			c = checked(t, setQuota(c, 2, same(q[0]), same(q[1]), same(q[2])))
			for i := range 4 * 4 * 3 {
				used := []api.Vec{same(-3), turned(i/12, 4), turned(i/3%4, 4)}
				for n := 1; n <= 2; n++ {
					if checkAll(t, c, used, n, turned(i%3, 3)) {
						yes++
					}
					checkKept(t, c, used, 0, n, wantKept(c, used, 0, n))
				}
			}
		}
	}
	if yes < 500 {
		t.Errorf("May is true of %d", yes)
	}
}

// 11.1: trees of each form, quotas, uses and needs that look mixed; used as long as it may be.
func TestTrees(t *testing.T) {
	l, yes, no := samples.Numbers{}, 0, 0
	for i := range 600 {
		row := samples.MayBe()[i%len(samples.MayBe())]
		c := checked(t, quotas(&l, tree(row...), 1+l.UpTo(12)))
		used := l.Vecs(l.UpTo(len(row)+3), 0, l.UpTo(6))
		for n := -1; n <= len(row); n++ {
			checkNominal(t, c, n, wantNominal(c, n))
			for but := -1; but <= len(row); but++ {
				checkKept(t, c, used, n, but, wantKept(c, used, n, but))
			}
			for range 6 {
				if checkAll(t, c, used, n, l.Vec(-1, l.UpTo(14))) {
					yes++
				} else if tenant(c, n) {
					no++
				}
			}
		}
	}
	if yes < 2000 || no < 2000 {
		t.Errorf("May is true of %d, false of %d", yes, no)
	}
}

// 11.1: of what is used, the cohorts' numbers are not looked at, nor those behind the last node; what is missing is zero.
func TestUsed(t *testing.T) {
	c := checked(t, setQuota(two(3, 3), 2, same(4), same(4), same(2)))
	for _, junk := range []api.Vec{{}, same(1), same(99), same(-99), same(top), same(least)} {
		for _, used := range [][]api.Vec{{junk, same(2), same(1)}, {junk, same(2), same(1), junk, junk}} {
			checkMay(t, c, used, 1, same(4), true)
			checkMay(t, c, used, 1, same(5), false)
			checkKept(t, c, used, 0, 1, same(1))
			checkKept(t, c, used, 0, 2, same(0))
			checkBorrows(t, c, used, 1, false)
			checkWithin(t, c, used, 1, same(2), true)
		}
		for _, used := range [][]api.Vec{nil, {}, {junk}} {
			checkMay(t, c, used, 2, same(7), true)
			checkMay(t, c, used, 2, same(8), false)
			checkBorrows(t, c, used, 2, false)
			checkWithin(t, c, used, 2, same(4), true)
			checkWithin(t, c, used, 2, same(5), false)
			checkKept(t, c, used, 0, 0, same(3))
		}
	}
	checkMay(t, c, []api.Vec{{}, same(4)}, 2, same(4), true)
	checkMay(t, c, []api.Vec{{}, same(4)}, 2, same(5), false)
}

// 11.1: numbers of any size, in each place; sums are cut in order, and nothing wraps.
func TestAnyNumbers(t *testing.T) {
	c := tree(-1, 0, 0, 1, 1)
	c = setQuota(c, 2, same(amount), same(amount), same(amount))
	c = setQuota(c, 3, same(amount), same(0), same(0))
	c = checked(t, setQuota(c, 4, same(5), same(amount), same(2)))
	edges := []int{least, least + 1, -most - 1, -most, 1 - most, -amount, -1, 0, 1, 5, amount, amount + 1, 2 * amount, most - 1, most, most + 1, 1 << 62, top}
	size := len(edges)
	for i := range size * size * size {
		first, second, third := edges[i%size], edges[i/size%size], edges[i/size/size]
		used := []api.Vec{same(7), same(7), same(first), {second, first, third}, {third, second, first}}
		for n := 2; n <= 4; n++ {
			checkKept(t, c, used, 0, n, wantKept(c, used, 0, n))
			checkAll(t, c, used, n, api.Vec{third, first, second})
			checkAll(t, c, used[:3], n, same(third))
		}
	}
}

// 11.1: sums are cut in the chapter's order, by hand: what is used below, the leaves rising, then the need, then what is kept.
func TestOrderOfSums(t *testing.T) {
	c := tree(-1, 0, 0, 0)
	c = setQuota(c, 1, same(6), same(20), same(6))
	c = setQuota(c, 2, same(6), same(0), same(0))
	c = checked(t, setQuota(c, 3, same(6), same(0), same(6)))
	for _, x := range []struct {
		first, second, third, need int
		want                       bool
	}{
		{most, 13, -13, 18 - most, true}, {most, 13, -13, 19 - most, false}, // in another order of leaves 13 more would be used
		{most, 30, 0, 18 - most, true}, {most, 30, 0, 19 - most, false}, // the need ahead of the leaves: 30 more
		{most, 0, 0, 12 - most, true}, {most, 0, 0, 13 - most, false}, // what is kept ahead of the need: 6 less
		{7 - most, -12, 0, most, true}, {7 - most, -13, 0, most, false}, // without a cut: 6 less
		{top, 0, 0, 12 - most, true}, {top, 0, 0, 13 - most, false}, {top, top, top, least, true}, {least, 6, 6, top, true}, {0, top, 0, 0, false},
	} {
		used := []api.Vec{1: same(x.first), 2: same(x.second), 3: same(x.third)}
		checkMay(t, c, used, 1, same(x.need), x.want)
		checkAll(t, c, used, 1, same(x.need))
	}
	all := checked(t, setQuota(c, 2, same(amount), same(0), same(0)))
	checkKept(t, all, []api.Vec{2: same(least)}, 0, 1, same(most))
	checkKept(t, all, []api.Vec{2: same(amount - most)}, 0, 1, same(most))
	checkKept(t, all, []api.Vec{2: same(amount + 1 - most)}, 0, 1, same(most-1))
	checkKept(t, all, []api.Vec{1: same(least), 2: same(least), 3: same(least)}, 0, 0, same(most))
}

// 11.2: what tenants may use one behind the other, all cohorts on their paths have.
func TestCohortsHave(t *testing.T) {
	l, taken := samples.Numbers{}, 0
	for i := range 400 {
		row := samples.MayBe()[i%len(samples.MayBe())]
		c := checked(t, quotas(&l, tree(row...), 1+l.UpTo(9)))
		used := make([]api.Vec, len(row))
		if i%2 == 0 {
			used = l.Vecs(len(row), 0, 8) // more than there is, perhaps, as T1 does not let it be
		}
		for range 60 {
			n, need := l.UpTo(len(row)-1), l.Vec(0, 3)
			if !quota.May(c, used, n, need) {
				continue
			}
			taken++
			for r := range need {
				used[n][r] += need[r]
			}
			for _, m := range ahead(c, n)[1:] {
				for r := range need {
					sum := 0
					for _, leaf := range below(c, m) {
						sum += used[leaf][r]
					}
					if sum > wantNominal(c, m)[r] {
						t.Fatalf("node %d uses %d of %d behind %d of %d: %+v", m, sum, wantNominal(c, m)[r], need, n, c.Nodes)
					}
				}
			}
		}
	}
	if taken < 1000 {
		t.Errorf("%d were taken", taken)
	}
}

// 11.1: the greatest numbers that may be, of as many tenants as may be.
func TestGreatest(t *testing.T) {
	c := tree(samples.MayBe()[7]...)
	for n := 1; n < api.MaxNodes; n++ {
		c = setQuota(c, n, same(amount), same(amount), same(amount))
	}
	checked(t, c)
	checkNominal(t, c, 0, same(11*amount))
	checkMay(t, c, nil, 11, same(2*amount), true)
	checkMay(t, c, nil, 11, same(2*amount+1), false)
	used := slices.Repeat([]api.Vec{same(amount)}, api.MaxNodes)
	used[1] = same(0)
	checkMay(t, c, used, 11, same(amount), true)
	checkMay(t, c, used, 11, same(amount+1), false)
	checkMay(t, setQuota(c, 1, same(amount), same(0), same(0)), used, 11, same(1), false)
	checkMay(t, setQuota(c, 1, same(amount), same(0), same(1)), used, 11, same(1), true)
}

// R7: of the empty configuration there is nothing.
func TestEmpty(t *testing.T) {
	var c api.Config
	for _, n := range samples.Around(c) {
		for _, used := range [][]api.Vec{nil, {same(1), same(2)}} {
			checkNominal(t, c, n, api.Vec{})
			checkKept(t, c, used, n, n, api.Vec{})
			checkMay(t, c, used, n, api.Vec{}, false)
			checkBorrows(t, c, used, n, false)
			checkWithin(t, c, used, n, api.Vec{}, false)
		}
	}
}

// 11.1: no other field than Parents and quotas is looked at.
func TestOtherFields(t *testing.T) {
	c := two(4, 1)
	for n := range c.Nodes {
		c.Nodes[n].Weight = api.MaxWeight - n
	}
	c.Hosts, c.Half, c.Age = []api.Host{{Flavor: 3}, {Block: 2}}, 7, 9
	checked(t, c)
	checkMay(t, c, nil, 2, same(8), true)
	checkMay(t, c, nil, 2, same(9), false)
	checkMay(t, c, nil, 1, same(5), true)
	checkMay(t, c, nil, 1, same(6), false)
	checkBorrows(t, c, []api.Vec{1: same(5)}, 1, true)
	checkWithin(t, c, nil, 1, same(4), true)
}

// R1: calls end, and none panics, of configurations that may not be, too.
func TestMayNotBe(t *testing.T) {
	for _, row := range samples.MayNotBe() {
		for _, v := range []api.Vec{{}, same(top), same(least), {top, least, -1}, {-1, 0, most + 1}} {
			c := tree(row...)
			for n := range c.Nodes {
				c = setQuota(c, n, v, api.Vec{v[1], v[2], v[0]}, api.Vec{v[2], v[0], v[1]})
			}
			for _, n := range samples.Around(c) {
				for _, used := range [][]api.Vec{nil, {v}, slices.Repeat([]api.Vec{v}, 2*len(row))} {
					quota.Nominal(c, n)
					quota.May(c, used, n, v)
					quota.Borrows(c, used, n)
					quota.Within(c, used, n, v)
					for _, but := range samples.Around(c) {
						quota.Kept(c, used, n, but)
					}
				}
			}
		}
	}
}

// R1: calls on long lists end soon.
func TestLong(t *testing.T) {
	const size = 1 << 18
	c := api.Config{Nodes: make([]api.Node, size)}
	c.Nodes[0].Parent = -1
	for n := 1; n < size; n++ {
		c.Nodes[n].Nominal, c.Nodes[n].Borrow, c.Nodes[n].Lend = same(4), same(size), same(3)
	}
	used := slices.Repeat([]api.Vec{same(2)}, 2*size)
	checkNominal(t, c, 0, same(4*(size-1)))
	checkKept(t, c, used[:1], 0, 1, same(size-2))
	checkMay(t, c, used, 1, same(2*(size-1)), false)
	checkMay(t, c, used, 1, same(size), true)
	checkBorrows(t, c, used, size-1, false)
	checkWithin(t, c, used, size-1, same(2), true)
}

// R4: what is handed in stays, what lies behind its lists' ends too, and is not looked at.
func TestMemory(t *testing.T) {
	whole, wholeUsed := two(3, 3), []api.Vec{same(1), same(2), same(3), same(50)}
	c, used := two(3, 3), slices.Clone(wholeUsed)
	part, list := c, used[:2]
	part.Nodes = part.Nodes[:2]
	checkNominal(t, part, 0, same(4))
	checkKept(t, part, list, 0, 0, same(0))
	checkMay(t, part, list, 1, same(2), true)
	checkMay(t, part, list, 1, same(3), false)
	checkMay(t, part, list, 2, same(0), false)
	checkMay(t, c, list, 2, same(6), true) // what stands behind list's end is none of it
	checkMay(t, c, list, 2, same(7), false)
	checkBorrows(t, c, used[:1], 1, false)
	checkWithin(t, c, used[:1], 1, same(4), true)
	if !reflect.DeepEqual(c, whole) || !slices.Equal(used, wholeUsed) {
		t.Error("what was handed in was changed")
	}
}
