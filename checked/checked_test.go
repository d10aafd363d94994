package checked_test

import (
	"math"
	"math/big"
	"slices"
	"testing"

	"analemma/checked"
)

const (
	least = math.MinInt64
	most  = math.MaxInt64
)

// op is a function of two numbers, which returns whether its result fits.
type op func(a, b int64) (int64, bool)

// fit returns a number and true, or 0 and false if it does not fit.
func fit(n *big.Int) (int64, bool) {
	if !n.IsInt64() {
		return 0, false
	}
	return n.Int64(), true
}

// numbers are those around 0, the powers of 2, the factors of numbers near the limits, and the limits.
func numbers() []int64 {
	l := []int64{0, 49, 337, 92737, 649657, 188232082384791343, 1317624576693539401, 3037000498, 3037000499, 3037000500, 3037000501}
	for n := int64(1); n <= 20; n++ {
		l = append(l, n, most-n, most-n+1, most/n, most/n+n%2, most/n-1)
	}
	for i := range 63 {
		n := int64(1) << i
		l = append(l, n, n-1, n+1, n+n/2)
	}
	for _, n := range slices.Clone(l) {
		l = append(l, -n)
	}
	l = append(l, least, least+1, least/2, least/3, least/3-1)
	slices.Sort(l)
	return slices.Compact(l)
}

// checkAll compares an op with its meaning without overflow, for all pairs of numbers; nil is no number.
func checkAll(t *testing.T, name string, f op, meant func(x, y *big.Int) *big.Int) {
	t.Helper()
	l := numbers()
	for _, a := range l {
		for _, b := range l {
			checkOne(t, name, f, meant, a, b)
		}
	}
	for a := int64(-40); a <= 40; a++ {
		for b := int64(-40); b <= 40; b++ {
			checkOne(t, name, f, meant, a, b)
		}
	}
}

func checkOne(t *testing.T, name string, f op, meant func(x, y *big.Int) *big.Int, a, b int64) {
	t.Helper()
	want, fits := int64(0), false
	if n := meant(big.NewInt(a), big.NewInt(b)); n != nil {
		want, fits = fit(n)
	}
	if got, ok := f(a, b); got != want || ok != fits {
		t.Errorf("%s(%d, %d) = %d, %v; want %d, %v", name, a, b, got, ok, want, fits)
	}
}

// quotient restates the definition of the chapter; Euclid's division only rounds down for divisors above 0.
func quotient(x, y *big.Int) *big.Int {
	if y.Sign() == 0 {
		return nil
	}
	if y.Sign() < 0 {
		x, y = new(big.Int).Neg(x), new(big.Int).Neg(y)
	}
	return new(big.Int).Div(x, y)
}

// remainder is a less b times the quotient.
func remainder(x, y *big.Int) *big.Int {
	q := quotient(x, y)
	if q == nil {
		return nil
	}
	return new(big.Int).Sub(x, q.Mul(q, y))
}

// P3.1, P3.2: the examples, and what is right beside the limits.
func TestExamples(t *testing.T) {
	type row struct {
		a, b, want int64
		fits       bool
	}
	for _, x := range []struct {
		name string
		f    op
		rows []row
	}{
		{"Add", checked.Add, []row{
			{most, 1, 0, false}, {most, -1, most - 1, true}, {most, 0, most, true}, {0, most, most, true}, {1, most, 0, false}, {most, most, 0, false},
			{least, -1, 0, false}, {least, 1, least + 1, true}, {least, 0, least, true}, {0, least, least, true}, {-1, least, 0, false}, {least, least, 0, false},
			{least, most, -1, true}, {most, least, -1, true}, {1 << 62, 1 << 62, 0, false}, {1 << 62, 1<<62 - 1, most, true}, {-1 << 62, -1 << 62, least, true},
			{2, 3, 5, true}, {-2, 3, 1, true}, {2, -3, -1, true}, {0, 0, 0, true},
		}},
		{"Sub", checked.Sub, []row{
			{least, 1, 0, false}, {0, least, 0, false}, {-1, least, most, true}, {least, 0, least, true}, {least, -1, least + 1, true},
			{most, -1, 0, false}, {most, 0, most, true}, {most, 1, most - 1, true}, {0, most, least + 1, true}, {-1, most, least, true}, {-2, most, 0, false},
			{least, least, 0, true}, {most, most, 0, true}, {least, most, 0, false}, {most, least, 0, false}, {1, least, 0, false},
			{2, 3, -1, true}, {-2, 3, -5, true}, {2, -3, 5, true}, {0, 0, 0, true},
		}},
		{"Mul", checked.Mul, []row{
			{least, -1, 0, false}, {-1, least, 0, false}, {least, 1, least, true}, {1, least, least, true}, {least, 0, 0, true}, {0, least, 0, true},
			{1 << 32, 1 << 31, 0, false}, {1 << 31, 1 << 31, 1 << 62, true}, {-1 << 32, 1 << 31, least, true}, {1 << 32, -1 << 31, least, true}, {-1 << 32, -1 << 31, 0, false},
			{most, 1, most, true}, {most, -1, least + 1, true}, {-1, most, least + 1, true}, {most, 2, 0, false}, {most, most, 0, false}, {least, least, 0, false},
			{1 << 32, 1 << 32, 0, false}, {most / 7, 7, most, true}, {7, most / 7, most, true}, {most/7 + 1, 7, 0, false}, {least / 2, 2, least, true}, {2, least/2 - 1, 0, false},
			{3037000499, 3037000499, 9223372030926249001, true}, {3037000500, 3037000500, 0, false}, {2, 3, 6, true}, {-2, 3, -6, true}, {-2, -3, 6, true}, {0, 0, 0, true}, {0, -1, 0, true}, {-1, 0, 0, true},
		}},
		{"Div", checked.Div, []row{
			{7, 2, 3, true}, {-7, 2, -4, true}, {7, -2, -4, true}, {-7, -2, 3, true}, {6, 2, 3, true}, {-6, 2, -3, true}, {6, -2, -3, true}, {-6, -2, 3, true},
			{least, -1, 0, false}, {least, 1, least, true}, {least + 1, -1, most, true}, {most, -1, least + 1, true}, {least, 2, least / 2, true}, {least, -2, 1 << 62, true},
			{5, 0, 0, false}, {0, 0, 0, false}, {least, 0, 0, false}, {0, 5, 0, true}, {0, -5, 0, true}, {1, 5, 0, true}, {-1, 5, -1, true}, {1, -5, -1, true}, {-1, -5, 0, true},
			{1, most, 0, true}, {-1, most, -1, true}, {1, least, -1, true}, {-1, least, 0, true}, {least, most, -2, true}, {most, least, -1, true}, {least, least, 1, true},
		}},
		{"Mod", checked.Mod, []row{
			{7, 2, 1, true}, {-7, 2, 1, true}, {7, -2, -1, true}, {-7, -2, -1, true}, {6, 2, 0, true}, {-6, 2, 0, true}, {6, -2, 0, true}, {-6, -2, 0, true},
			{least, -1, 0, true}, {least, 1, 0, true}, {5, 0, 0, false}, {0, 0, 0, false}, {least, 0, 0, false}, {0, 5, 0, true}, {-1, 5, 4, true}, {1, -5, -4, true},
			{-1, most, most - 1, true}, {1, least, least + 1, true}, {-1, least, -1, true}, {least, most, most - 1, true}, {most, least, -1, true}, {least, least, 0, true},
		}},
	} {
		for _, r := range x.rows {
			if got, ok := x.f(r.a, r.b); got != r.want || ok != r.fits {
				t.Errorf("%s(%d, %d) = %d, %v; want %d, %v", x.name, r.a, r.b, got, ok, r.want, r.fits)
			}
		}
	}
}

// P3.1
func TestAddSubMul(t *testing.T) {
	checkAll(t, "Add", checked.Add, func(x, y *big.Int) *big.Int { return new(big.Int).Add(x, y) })
	checkAll(t, "Sub", checked.Sub, func(x, y *big.Int) *big.Int { return new(big.Int).Sub(x, y) })
	checkAll(t, "Mul", checked.Mul, func(x, y *big.Int) *big.Int { return new(big.Int).Mul(x, y) })
}

// P3.2
func TestDivMod(t *testing.T) {
	checkAll(t, "Div", checked.Div, quotient)
	checkAll(t, "Mod", checked.Mod, remainder)
}

// P3.2: the remainder is 0, or between 0 and the divisor.
func TestModRange(t *testing.T) {
	l := numbers()
	for _, a := range l {
		for _, b := range l {
			r, ok := checked.Mod(a, b)
			if ok != (b != 0) || b >= 0 && (r < 0 || r > max(b-1, 0)) || b < 0 && (r > 0 || r < b+1) {
				t.Errorf("Mod(%d, %d) = %d, %v", a, b, r, ok)
			}
		}
	}
}

// P3.3: the examples, and lists in which only the order decides.
func TestSum(t *testing.T) {
	for _, x := range []struct {
		l    []int64
		want int64
		fits bool
	}{
		{[]int64{most, 1, -1}, 0, false},
		{[]int64{most, -1, 1}, most, true},
		{nil, 0, true},
		{[]int64{}, 0, true},
		{[]int64{0}, 0, true},
		{[]int64{5}, 5, true},
		{[]int64{most}, most, true},
		{[]int64{least}, least, true},
		{[]int64{1, 2, 3, 4}, 10, true},
		{[]int64{1, -2, 3, -4}, -2, true},
		{[]int64{least, -1, 1}, 0, false},
		{[]int64{least, 1, -1}, least, true},
		{[]int64{-1, least, 1}, 0, false},
		{[]int64{-1, 1, least}, least, true},
		{[]int64{most, least, most}, most - 1, true},
		{[]int64{most, most, least}, 0, false},
		{[]int64{least, most, least}, 0, false}, // -1 of the first two
		{[]int64{least, most, 1, least, most, 1}, 0, true},
		{[]int64{most, 1, 5}, 0, false}, // what follows does not count
		{[]int64{most, 1, least, 7, 9}, 0, false},
		{[]int64{1, most}, 0, false}, // the last one of them
		{[]int64{1, 2, 3, most - 5}, 0, false},
		{[]int64{1, 2, 3, most - 6}, most, true},
	} {
		if got, ok := checked.Sum(x.l); got != x.want || ok != x.fits {
			t.Errorf("Sum(%v) = %d, %v; want %d, %v", x.l, got, ok, x.want, x.fits)
		}
	}
}

// P3.3: all lists of up to five of some numbers.
func TestSumAll(t *testing.T) {
	some := []int64{0, 1, -1, 2, most, most - 1, 1 << 62, least, least + 1, -1 << 62}
	var grow func(l []int64)
	grow = func(l []int64) {
		want, fits := sumOf(l)
		if got, ok := checked.Sum(l); got != want || ok != fits {
			t.Errorf("Sum(%v) = %d, %v; want %d, %v", l, got, ok, want, fits)
		}
		if len(l) == 5 {
			return
		}
		for _, n := range some {
			grow(append(slices.Clone(l), n))
		}
	}
	grow(nil)
}

// sumOf adds without overflow, and returns 0 and false if one sum does not fit.
func sumOf(l []int64) (int64, bool) {
	sum := new(big.Int)
	for _, n := range l {
		if sum.Add(sum, big.NewInt(n)); !sum.IsInt64() {
			return 0, false
		}
	}
	return sum.Int64(), true
}

// P3.3: long lists, up to both limits and one beyond them.
func TestSumLong(t *testing.T) {
	const n = 1 << 20
	for _, x := range []struct{ each, end int64 }{{1 << 43, most}, {-1 << 43, least}} {
		l := slices.Repeat([]int64{x.each}, n)
		step := x.each >> 43 // 1 or -1
		if step > 0 {
			l[n-1]-- // 2^63 less 1
		}
		if got, ok := checked.Sum(l); got != x.end || !ok {
			t.Errorf("Sum of %d times %d = %d, %v; want %d", n, x.each, got, ok, x.end)
		}
		if got, ok := checked.Sum(append(l, -step, step)); got != x.end || !ok {
			t.Errorf("Sum there and back = %d, %v", got, ok)
		}
		if got, ok := checked.Sum(append(l, step, -step)); got != 0 || ok {
			t.Errorf("Sum beyond %d = %d, %v", x.end, got, ok)
		}
	}
}

// P3.3 with R4: the list stays as it is, and nothing behind it counts.
func TestSumList(t *testing.T) {
	l := []int64{most, -3, 2, 5, least}
	if got, ok := checked.Sum(l[:3]); got != most-1 || !ok {
		t.Error(got, ok)
	}
	if got, ok := checked.Sum(l); got != 0 || ok {
		t.Error(got, ok)
	}
	if !slices.Equal(l, []int64{most, -3, 2, 5, least}) {
		t.Error(l)
	}
	l[0] = 0
	if got, ok := checked.Sum(l[:4]); got != 4 || !ok { // nothing is kept
		t.Error(got, ok)
	}
}

// P3.4
func TestBack(t *testing.T) {
	l := numbers()
	for _, a := range l {
		for _, b := range l {
			if sum, ok := checked.Add(a, b); ok {
				checkBack(t, sum, b, a)
				checkBack(t, sum, a, b)
			}
			checkParts(t, a, b)
		}
	}
}

// checkBack tests that the difference of a sum and an operand is the other one.
func checkBack(t *testing.T, sum, one, other int64) {
	t.Helper()
	if got, ok := checked.Sub(sum, one); got != other || !ok {
		t.Errorf("Sub(%d, %d) = %d, %v; want %d", sum, one, got, ok, other)
	}
}

// checkParts tests that the quotient, times b, and the remainder are a. The product alone may not fit, so they are added without overflow.
func checkParts(t *testing.T, a, b int64) {
	t.Helper()
	q, ok := checked.Div(a, b)
	if !ok {
		return
	}
	r, ok := checked.Mod(a, b)
	n := new(big.Int).Mul(big.NewInt(q), big.NewInt(b))
	if n.Add(n, big.NewInt(r)); !ok || n.Cmp(big.NewInt(a)) != 0 {
		t.Errorf("%d and %d: quotient %d, remainder %d, %v", a, b, q, r, ok)
	}
}

// P3.5: what does not fit is beyond an end to which both parts lead; what leads to both ends fits.
func TestJustSums(t *testing.T) {
	l := numbers()
	for _, a := range l {
		for _, b := range l {
			over := a > 0 && b > most-max(a, 0)
			under := a < 0 && b < least-min(a, 0)
			if _, ok := checked.Add(a, b); ok != (!over && !under) {
				t.Errorf("Add(%d, %d): %v", a, b, ok)
			}
			// 0 leads nowhere, but less -2^63 it is beyond the end.
			over = a >= 0 && b < a-most
			under = a < 0 && b > a-least
			if _, ok := checked.Sub(a, b); ok != (!over && !under) {
				t.Errorf("Sub(%d, %d): %v", a, b, ok)
			}
		}
	}
}

// P3.5: of all quotients by a number other than 0 just one does not fit.
func TestJustOneQuotient(t *testing.T) {
	l := numbers()
	for _, a := range l {
		for _, b := range l {
			want := b != 0 && !(a == least && b == -1)
			if _, ok := checked.Div(a, b); ok != want {
				t.Errorf("Div(%d, %d): %v", a, b, ok)
			}
		}
	}
}
