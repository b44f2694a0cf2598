package fixpt_test

import (
	"math"
	"math/big"
	"slices"
	"testing"

	"tithebarn/api"
	"tithebarn/fixpt"
)

const (
	one = api.One
	top = api.MaxFix
)

// fixes are the edges and some numbers between them, rising, each once.
func fixes() []api.Fix {
	l := []api.Fix{0, top}
	for shift := 0; shift < 64; shift++ {
		p := api.Fix(1) << shift
		l = append(l, p-1, p, p+1)
	}
	l = append(l, one/3, 3*one, 3*one+one/2, 5*one+7, top-one, top-one+1, top/2, top/3)
	x := api.Fix(88172645463325252) // a fixed row of numbers of all lengths
	for i := range 40 {
		x ^= x << 13
		x ^= x >> 7
		x ^= x << 17
		l = append(l, x>>(i%8*8))
	}
	slices.Sort(l)
	return slices.Compact(l)
}

// ints are numbers below 0, at 0, at 2^32, at the ends of int, rising, each once.
func ints() []int {
	l := []int{math.MinInt, math.MinInt + 1, -1 << 32, -3, -2, -1, 0, 1, 2, 3, 5, 7, 10, 1000, 65537, math.MaxInt - 1, math.MaxInt}
	for shift := 20; shift < 63; shift++ {
		p := 1 << shift
		l = append(l, p-1, p, p+1, -p)
	}
	slices.Sort(l)
	return slices.Compact(l)
}

func bigOf(a api.Fix) *big.Int { return new(big.Int).SetUint64(uint64(a)) }

// bigInt is n, or 0 if it is below.
func bigInt(n int) *big.Int { return big.NewInt(int64(max(n, 0))) }

// bound is x, at least 0, at most MaxFix.
func bound(x *big.Int) api.Fix {
	if x.Sign() < 0 {
		return 0
	}
	if !x.IsUint64() {
		return top
	}
	return api.Fix(x.Uint64())
}

// exactDiv is a by b in parts of 2^32: by 0 it is MaxFix, but 0 of 0.
func exactDiv(a, b *big.Int) api.Fix {
	if b.Sign() == 0 {
		if a.Sign() == 0 {
			return 0
		}
		return top
	}
	x := new(big.Int).Lsh(a, 32)
	return bound(x.Quo(x, b))
}

// 1.1: the document's own examples.
func TestExamples(t *testing.T) {
	for _, x := range []struct {
		name      string
		got, want api.Fix
	}{
		{"Div(Of(1), Of(3))", fixpt.Div(fixpt.Of(1), fixpt.Of(3)), 1431655765},
		{"Mul(MaxFix, MaxFix)", fixpt.Mul(top, top), top},
		{"Ratio(3, 2)", fixpt.Ratio(3, 2), 6442450944},
		{"Sub(One, Of(2))", fixpt.Sub(one, fixpt.Of(2)), 0},
	} {
		if x.got != x.want {
			t.Errorf("%s: %d, want %d", x.name, x.got, x.want)
		}
	}
}

// 1.1: Of counts what is below 0 as 0, and saturates from 2^32 on.
func TestOf(t *testing.T) {
	for _, x := range []struct {
		n    int
		want api.Fix
	}{
		{math.MinInt, 0}, {-1 << 32, 0}, {-2, 0}, {-1, 0}, {0, 0}, {1, one}, {2, 2 * one}, {1000, 1000 * one},
		{1<<31 - 1, (1<<31 - 1) << 32}, {1 << 31, 1 << 63}, {1<<32 - 1, (1<<32 - 1) << 32},
		{1 << 32, top}, {1<<32 + 1, top}, {1 << 33, top}, {math.MaxInt, top},
	} {
		if got := fixpt.Of(x.n); got != x.want {
			t.Errorf("Of(%d): %d, want %d", x.n, got, x.want)
		}
	}
}

// 1.1: sums, differences, products, quotients at the edges, by hand.
func TestEdges(t *testing.T) {
	for _, x := range []struct{ a, b, add, sub, mul, div api.Fix }{
		{0, 0, 0, 0, 0, 0},
		{0, 1, 1, 0, 0, 0},
		{0, top, top, 0, 0, 0},
		{1, 0, 1, 1, 0, top},
		{one, 0, one, one, 0, top},
		{top, 0, top, top, 0, top},
		{1, 1, 2, 0, 0, one},
		{1, one, one + 1, 0, 1, 1},
		{one, one, 2 * one, 0, one, one},
		{one, 2 * one, 3 * one, 0, 2 * one, one / 2},
		{2 * one, 3 * one, 5 * one, 0, 6 * one, 2863311530},
		{one / 2, one / 2, one, 0, one / 4, one},
		{1 << 16, 1 << 16, 1 << 17, 0, 1, one},
		{1<<16 - 1, 1 << 16, 1<<17 - 1, 0, 0, 4294901760},
		{1 << 48, 1 << 48, 1 << 49, 0, top, one},
		{1<<48 - 1, 1 << 48, 1<<49 - 1, 0, 1<<64 - 1<<16, one - 1},
		{1 << 63, 1 << 63, top, 0, top, one},
		{1<<63 - 1, 1 << 63, top, 0, top, one - 1},
		{1 << 32, 1, 1<<32 + 1, 1<<32 - 1, 1, top},
		{1<<32 - 1, 1, 1 << 32, 1<<32 - 2, 0, (1<<32 - 1) << 32},
		{top, 1, top, top - 1, 1<<32 - 1, top},
		{top, one, top, top - one, top, top},
		{top, one - 1, top, top - one + 1, top - one, top},
		{top, one + 1, top, top - one - 1, top, top - one + 1},
		{top, top, top, 0, top, one},
		{top - 1, 1, top, top - 2, 1<<32 - 1, top},
	} {
		check(t, "Add", x.a, x.b, fixpt.Add(x.a, x.b), x.add)
		check(t, "Sub", x.a, x.b, fixpt.Sub(x.a, x.b), x.sub)
		check(t, "Mul", x.a, x.b, fixpt.Mul(x.a, x.b), x.mul)
		check(t, "Div", x.a, x.b, fixpt.Div(x.a, x.b), x.div)
	}
}

func check(t *testing.T, name string, a, b, got, want api.Fix) {
	t.Helper()
	if got != want {
		t.Errorf("%s(%d, %d): %d, want %d", name, a, b, got, want)
	}
}

// 1.1: the result is the exact one, rounded down, within 0 and MaxFix.
func TestExact(t *testing.T) {
	l := fixes()
	for _, a := range l {
		for _, b := range l {
			x, y := bigOf(a), bigOf(b)
			product := new(big.Int).Mul(x, y)
			check(t, "Add", a, b, fixpt.Add(a, b), bound(new(big.Int).Add(x, y)))
			check(t, "Sub", a, b, fixpt.Sub(a, b), bound(new(big.Int).Sub(x, y)))
			check(t, "Mul", a, b, fixpt.Mul(a, b), bound(product.Rsh(product, 32)))
			check(t, "Div", a, b, fixpt.Div(a, b), exactDiv(x, y))
			if got, want := fixpt.Cmp(a, b), x.Cmp(y); got != want {
				t.Errorf("Cmp(%d, %d): %d, want %d", a, b, got, want)
			}
		}
	}
}

// 1.1: Ratio of all whole numbers, those past 2^32 and those below 0, too.
func TestRatio(t *testing.T) {
	for _, x := range []struct {
		a, b int
		want api.Fix
	}{
		{0, 0, 0}, {0, 5, 0}, {5, 0, top}, {1, 1, one}, {1, 3, 1431655765}, {2, 3, 2863311530}, {3, 2, one + one/2},
		{-1, 2, 0}, {1, -1, top}, {-1, -1, 0}, {-4, 0, 0}, {0, -4, 0}, {math.MinInt, 1, 0}, {1, math.MinInt, top},
		{1 << 32, 1, top}, {1<<32 - 1, 1, (1<<32 - 1) << 32}, {1 << 33, 2, top}, {1 << 33, 3, 12297829382473034410},
		{1 << 40, 1 << 41, one / 2}, {1 << 40, 1 << 8, top}, {1 << 40, 1 << 9, 1 << 63},
		{math.MaxInt, math.MaxInt, one}, {math.MaxInt - 1, math.MaxInt, one - 1}, {1, math.MaxInt, 0}, {1 << 31, math.MaxInt, 1}, {math.MaxInt, 1, top},
	} {
		if got := fixpt.Ratio(x.a, x.b); got != x.want {
			t.Errorf("Ratio(%d, %d): %d, want %d", x.a, x.b, got, x.want)
		}
	}
	l := ints()
	for _, a := range l {
		for _, b := range l {
			if got, want := fixpt.Ratio(a, b), exactDiv(bigInt(a), bigInt(b)); got != want {
				t.Errorf("Ratio(%d, %d): %d, want %d", a, b, got, want)
			}
		}
	}
}

// 1.1: Floor cuts what stands behind the point.
func TestFloor(t *testing.T) {
	for _, x := range []struct {
		a    api.Fix
		want int
	}{
		{0, 0}, {1, 0}, {one - 1, 0}, {one, 1}, {one + 1, 1}, {2*one - 1, 1}, {2 * one, 2}, {5*one + 7, 5},
		{1<<63 - 1, 1<<31 - 1}, {1 << 63, 1 << 31}, {top - one + 1, 1<<32 - 1}, {top - one, 1<<32 - 2}, {top, 1<<32 - 1},
	} {
		if got := fixpt.Floor(x.a); got != x.want {
			t.Errorf("Floor(%d): %d, want %d", x.a, got, x.want)
		}
	}
	for _, n := range ints() {
		if got, want := fixpt.Floor(fixpt.Of(n)), min(max(n, 0), 1<<32-1); got != want {
			t.Errorf("Floor(Of(%d)): %d, want %d", n, got, want)
		}
	}
}

// 1.1: Cmp tells all three.
func TestCmp(t *testing.T) {
	for _, x := range []struct {
		a, b api.Fix
		want int
	}{
		{0, 0, 0}, {0, 1, -1}, {1, 0, 1}, {1, 2, -1}, {2, 2, 0}, {one, one - 1, 1}, {one, one + 1, -1},
		{0, top, -1}, {top, 0, 1}, {top, top, 0}, {1<<63 - 1, 1 << 63, -1}, {1 << 63, 1<<63 - 1, 1},
	} {
		if got := fixpt.Cmp(x.a, x.b); got != x.want {
			t.Errorf("Cmp(%d, %d): %d, want %d", x.a, x.b, got, x.want)
		}
	}
}

// 1.2: what is greater stays so: in the first argument, and in the second, by which Sub and Div fall.
func TestOrderOfFixes(t *testing.T) {
	l := fixes()
	for i := 1; i < len(l); i++ {
		below, above := l[i-1], l[i]
		if fixpt.Floor(below) > fixpt.Floor(above) {
			t.Errorf("Floor(%d) is above Floor(%d)", below, above)
		}
		for _, x := range l {
			ordered(t, "Add", fixpt.Add(below, x), fixpt.Add(above, x), below, above, x)
			ordered(t, "Add of the second", fixpt.Add(x, below), fixpt.Add(x, above), below, above, x)
			ordered(t, "Sub", fixpt.Sub(below, x), fixpt.Sub(above, x), below, above, x)
			ordered(t, "Sub of the second", fixpt.Sub(x, above), fixpt.Sub(x, below), below, above, x)
			ordered(t, "Mul", fixpt.Mul(below, x), fixpt.Mul(above, x), below, above, x)
			ordered(t, "Mul of the second", fixpt.Mul(x, below), fixpt.Mul(x, above), below, above, x)
			ordered(t, "Div", fixpt.Div(below, x), fixpt.Div(above, x), below, above, x)
			ordered(t, "Div of the second", fixpt.Div(x, above), fixpt.Div(x, below), below, above, x)
			if fixpt.Cmp(below, x) > fixpt.Cmp(above, x) || fixpt.Cmp(x, above) > fixpt.Cmp(x, below) {
				t.Errorf("Cmp of %d, %d to %d does not keep their order", below, above, x)
			}
		}
	}
}

func ordered(t *testing.T, name string, low, high, below, above, x api.Fix) {
	t.Helper()
	if low > high {
		t.Errorf("%s does not keep the order of %d, %d with %d: %d, %d", name, below, above, x, low, high)
	}
}

// 1.2: Of and Ratio keep the order of whole numbers.
func TestOrderOfInts(t *testing.T) {
	l := ints()
	for i := 1; i < len(l); i++ {
		below, above := l[i-1], l[i]
		if fixpt.Of(below) > fixpt.Of(above) {
			t.Errorf("Of(%d) is above Of(%d)", below, above)
		}
		for _, x := range l {
			if fixpt.Ratio(below, x) > fixpt.Ratio(above, x) {
				t.Errorf("Ratio(%d, %d) is above Ratio(%d, %d)", below, x, above, x)
			}
			if fixpt.Ratio(x, above) > fixpt.Ratio(x, below) {
				t.Errorf("Ratio(%d, %d) is above Ratio(%d, %d)", x, above, x, below)
			}
		}
	}
}

// 1.2: Mul by One, from either side, and Div by One change nothing.
func TestOneChangesNothing(t *testing.T) {
	for _, a := range fixes() {
		check(t, "Mul", a, one, fixpt.Mul(a, one), a)
		check(t, "Mul", one, a, fixpt.Mul(one, a), a)
		check(t, "Div", a, one, fixpt.Div(a, one), a)
	}
}
