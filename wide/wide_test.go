package wide

import (
	"math"
	"math/big"
	"testing"

	"horologe/api"
)

var (
	low   = power(-1, 127)
	high  = plus(power(1, 127), -1)
	low64 = power(-1, 63)
	top64 = plus(power(1, 63), -1)
)

// power returns sign * 2^n.
func power(sign int64, n uint) *big.Int {
	return new(big.Int).Lsh(big.NewInt(sign), n)
}

func plus(x *big.Int, n int64) *big.Int {
	return new(big.Int).Add(x, big.NewInt(n))
}

// exact returns the number that a stands for.
func exact(a api.Wide) *big.Int {
	x := new(big.Int).Lsh(big.NewInt(a.Hi), 64)
	return x.Add(x, new(big.Int).SetUint64(a.Lo))
}

// made returns the wide number nearest to x, made without this package.
func made(x *big.Int) api.Wide {
	x = clipped(x, low, high)
	lo := new(big.Int).And(x, new(big.Int).SetUint64(math.MaxUint64))
	return api.Wide{Hi: new(big.Int).Rsh(x, 64).Int64(), Lo: lo.Uint64()}
}

func clipped(x, least, most *big.Int) *big.Int {
	if x.Cmp(least) < 0 {
		return least
	}
	if x.Cmp(most) > 0 {
		return most
	}
	return x
}

// steps is a fixed sequence of numbers that look like chance.
type steps uint64

func (s *steps) next() uint64 {
	*s += 0x9e3779b97f4a7c15
	x := uint64(*s)
	x = (x ^ x>>30) * 0xbf58476d1ce4e5b9
	x = (x ^ x>>27) * 0x94d049bb133111eb
	return x ^ x>>31
}

// wides returns the numbers around every power of 2, of either sign, and others of all lengths.
func wides() []api.Wide {
	var l []api.Wide
	for _, sign := range []int64{1, -1} {
		for _, n := range []uint{0, 1, 2, 3, 8, 31, 32, 33, 62, 63, 64, 65, 95, 96, 97, 125, 126, 127} {
			for d := int64(-2); d <= 2; d++ {
				l = append(l, made(plus(power(sign, n), d)))
			}
		}
	}
	s := steps(1)
	for n := range uint(128) {
		x := new(big.Int).Rsh(exact(api.Wide{Hi: int64(s.next()), Lo: s.next()}), n)
		l = append(l, made(x))
	}
	return l
}

func int64s() []int64 {
	l := []int64{math.MinInt64, math.MinInt64 + 1, math.MaxInt64, math.MaxInt64 - 1, 0, 1, -1, 2, -2, 3, -3, 7, -7, 10, -10}
	for n := uint(4); n < 63; n += 7 {
		l = append(l, 1<<n, -1<<n, 1<<n-1, -1<<n-1)
	}
	s := steps(2)
	for n := range 64 {
		l = append(l, int64(s.next())>>n)
	}
	return l
}

func uint64s() []uint64 {
	l := []uint64{1, 2, 3, 7, 10, math.MaxUint64, math.MaxUint64 - 1, 1 << 63, 1<<63 - 1, 1<<63 + 1, 1 << 32, 1<<32 - 1, 1<<32 + 1}
	s := steps(3)
	for n := range 64 {
		l = append(l, s.next()>>n|1)
	}
	return l
}

func same(t *testing.T, what string, got api.Wide, want *big.Int) {
	t.Helper()
	if got != made(want) {
		t.Errorf("%s: got %v, want %v", what, exact(got), clipped(want, low, high))
	}
}

// P1.1.
func TestOf(t *testing.T) {
	for _, n := range int64s() {
		same(t, "Of "+big.NewInt(n).String(), Of(n), big.NewInt(n))
	}
}

// P1.1, by the rows and the bounds that the chapter names.
func TestSumsAtTheBounds(t *testing.T) {
	max, min := api.Wide{Hi: math.MaxInt64, Lo: math.MaxUint64}, api.Wide{Hi: math.MinInt64}
	one := api.Wide{Lo: 1}
	for _, c := range []struct {
		what      string
		got, want api.Wide
	}{
		{"Add(max, 1)", Add(max, one), max},
		{"Add(1, max)", Add(one, max), max},
		{"Add(max, max)", Add(max, max), max},
		{"Add(min, -1)", Add(min, Of(-1)), min},
		{"Add(min, min)", Add(min, min), min},
		{"Add(max, min)", Add(max, min), Of(-1)},
		{"Add(2^126, 2^126)", Add(api.Wide{Hi: 1 << 62}, api.Wide{Hi: 1 << 62}), max},
		{"Add(-2^126, -2^126)", Add(api.Wide{Hi: -1 << 62}, api.Wide{Hi: -1 << 62}), min},
		{"Add(2^64-1, 1)", Add(api.Wide{Lo: math.MaxUint64}, one), api.Wide{Hi: 1}},
		{"Sub(2^64, 1)", Sub(api.Wide{Hi: 1}, one), api.Wide{Lo: math.MaxUint64}},
		{"Sub(-1, min)", Sub(Of(-1), min), max},
		{"Sub(-2, min)", Sub(Of(-2), min), Sub(max, one)},
		{"Sub(0, min)", Sub(Of(0), min), max},
		{"Sub(max, -1)", Sub(max, Of(-1)), max},
		{"Sub(min, 1)", Sub(min, one), min},
		{"Sub(min, min)", Sub(min, min), Of(0)},
		{"Neg(min)", Neg(min), max},
		{"Neg(max)", Neg(max), api.Wide{Hi: math.MinInt64, Lo: 1}},
		{"Neg(0)", Neg(Of(0)), Of(0)},
		{"Neg(2^63)", Neg(api.Wide{Lo: 1 << 63}), Of(math.MinInt64)},
		{"Abs(min)", Abs(min), max},
		{"Abs(-2^63)", Abs(Of(math.MinInt64)), api.Wide{Lo: 1 << 63}},
		{"Abs(max)", Abs(max), max},
	} {
		if c.got != c.want {
			t.Errorf("%s: got %v, want %v", c.what, exact(c.got), exact(c.want))
		}
	}
}

// P1.1.
func TestSums(t *testing.T) {
	for _, a := range wides() {
		x := exact(a)
		same(t, "-"+x.String(), Neg(a), new(big.Int).Neg(x))
		same(t, "|"+x.String()+"|", Abs(a), new(big.Int).Abs(x))
		for _, b := range wides() {
			y := exact(b)
			same(t, x.String()+" + "+y.String(), Add(a, b), new(big.Int).Add(x, y))
			same(t, x.String()+" - "+y.String(), Sub(a, b), new(big.Int).Sub(x, y))
			if got := Cmp(a, b); got != x.Cmp(y) {
				t.Errorf("%v to %v: got %d", x, y, got)
			}
		}
	}
}

// P1.2.
func TestMul(t *testing.T) {
	if got := Mul(math.MinInt64, math.MinInt64); got != (api.Wide{Hi: 1 << 62}) {
		t.Error("-2^63 squared:", exact(got))
	}
	for _, a := range int64s() {
		for _, b := range int64s() {
			x, y := big.NewInt(a), big.NewInt(b)
			same(t, x.String()+" * "+y.String(), Mul(a, b), new(big.Int).Mul(x, y))
		}
	}
}

// P1.2.
func TestScale(t *testing.T) {
	factors := []uint32{0, 1, 2, 3, 4, 10, 1 << 31, 1<<31 - 1, math.MaxUint32, math.MaxUint32 - 1}
	s := steps(4)
	for n := range 32 {
		factors = append(factors, uint32(s.next())>>n)
	}
	for _, a := range wides() {
		for _, n := range factors {
			x, y := exact(a), new(big.Int).SetUint64(uint64(n))
			same(t, x.String()+" times "+y.String(), Scale(a, n), new(big.Int).Mul(x, y))
		}
	}
}

// P1.2, by the bounds that the chapter names.
func TestScaleAtTheBounds(t *testing.T) {
	for _, c := range []struct {
		hi   int64
		lo   uint64
		n    uint32
		want *big.Int
	}{
		{1 << 62, 0, 2, high},
		{-1 << 62, 0, 2, low},
		{-1 << 62, 0, 3, low},
		{1<<62 - 1, math.MaxUint64, 2, plus(high, -1)},
		{math.MinInt64, 0, 1, low},
		{math.MinInt64, 0, 0, new(big.Int)},
		{math.MinInt64, 0, math.MaxUint32, low},
		{math.MaxInt64, math.MaxUint64, 1, high},
		{math.MaxInt64, math.MaxUint64, math.MaxUint32, high},
		// products whose lower 128 bits alone are small: 2^128, and 2^128 carried into by the lower half
		{1 << 62, 0, 4, high},
		{-1 << 62, 0, 4, low},
		{0x5555555555555555, 0x5555555555555556, 3, high},
	} {
		same(t, "scaled", Scale(api.Wide{Hi: c.hi, Lo: c.lo}, c.n), c.want)
	}
}

// P1.2.
func TestHalf(t *testing.T) {
	for n, want := range map[int64]int64{-3: -2, -2: -1, -1: -1, 0: 0, 1: 0, 2: 1, 3: 1} {
		if got := Half(Of(n)); got != Of(want) {
			t.Errorf("half of %d: got %v", n, exact(got))
		}
	}
	for _, a := range wides() {
		// big.Int's Rsh rounds down, too.
		same(t, "half of "+exact(a).String(), Half(a), new(big.Int).Rsh(exact(a), 1))
	}
}

// P1.3.
func TestDiv(t *testing.T) {
	for _, a := range wides() {
		for _, n := range uint64s() {
			q, r, ok := Div(a, n)
			// The divisor is positive, so Euclid's division rounds down.
			y, rest := new(big.Int).SetUint64(n), new(big.Int)
			want, _ := new(big.Int).DivMod(exact(a), y, rest)
			if !ok || q != made(want) || r != rest.Uint64() {
				t.Errorf("%v by %d: got %v, %d, %v", exact(a), n, exact(q), r, ok)
			}
		}
	}
}

// P1.3, by the rows and the bounds that the chapter names.
func TestDivAtTheBounds(t *testing.T) {
	for _, c := range []struct {
		a    *big.Int
		n    uint64
		q    *big.Int
		r    uint64
		fine bool
	}{
		{big.NewInt(-7), 2, big.NewInt(-4), 1, true},
		{big.NewInt(7), 2, big.NewInt(3), 1, true},
		{big.NewInt(-8), 2, big.NewInt(-4), 0, true},
		{big.NewInt(-1), math.MaxUint64, big.NewInt(-1), math.MaxUint64 - 1, true},
		{low, 1, low, 0, true},
		{high, 1, high, 0, true},
		{low, math.MaxUint64, plus(low64, -1), 1<<63 - 1, true},
		{high, math.MaxUint64, power(1, 63), 1<<63 - 1, true},
	} {
		q, r, ok := Div(made(c.a), c.n)
		if q != made(c.q) || r != c.r || ok != c.fine {
			t.Errorf("%v by %d: got %v, %d, %v", c.a, c.n, exact(q), r, ok)
		}
	}
}

// P1.3: a divisor 0.
func TestDivByNothing(t *testing.T) {
	for _, a := range wides() {
		if q, r, ok := Div(a, 0); q != (api.Wide{}) || r != 0 || ok {
			t.Errorf("%v by 0: got %v, %d, %v", exact(a), exact(q), r, ok)
		}
	}
}

// P1.3.
func TestClip(t *testing.T) {
	for _, a := range wides() {
		if got, want := Clip(a), clipped(exact(a), low64, top64).Int64(); got != want {
			t.Errorf("%v clipped: got %d, want %d", exact(a), got, want)
		}
	}
	for _, n := range int64s() {
		if got := Clip(Of(n)); got != n {
			t.Errorf("%d clipped: got %d", n, got)
		}
	}
}

// P1.3.
func TestRoot(t *testing.T) {
	for n, want := range map[int64]uint64{24: 4, 25: 5, 26: 5, -4: 0, -1: 0, 0: 0, 1: 1, 2: 1, 3: 1, 4: 2} {
		if got := Root(Of(n)); got != want {
			t.Errorf("root of %d: got %d", n, got)
		}
	}
	// The root of 2^127 - 1 needs all 64 bits.
	if got, want := Root(made(high)), uint64(13043817825332782212); got != want {
		t.Errorf("root of 2^127 - 1: got %d", got)
	}
	if got := Root(made(low)); got != 0 {
		t.Errorf("root of -2^127: got %d", got)
	}
	for _, a := range wides() {
		x := clipped(exact(a), new(big.Int), high)
		if got, want := Root(a), new(big.Int).Sqrt(x); got != want.Uint64() {
			t.Errorf("root of %v: got %d, want %v", x, got, want)
		}
	}
}

// P1.3: squares and their neighbours.
func TestRootOfSquares(t *testing.T) {
	for _, n := range uint64s() {
		root := new(big.Int).SetUint64(n)
		square := new(big.Int).Mul(root, root)
		for d := int64(-1); d <= 1; d++ {
			x := plus(square, d)
			if x.Cmp(high) > 0 {
				continue
			}
			if got := Root(made(x)); got != new(big.Int).Sqrt(x).Uint64() {
				t.Errorf("root of %v: got %d", x, got)
			}
		}
	}
}

// sums returns a + b, and whether that is the exact sum.
func sums(a, b api.Wide) (api.Wide, bool) {
	sum := Add(a, b)
	return sum, exact(sum).Cmp(new(big.Int).Add(exact(a), exact(b))) == 0
}

// P1.4: subtracting undoes adding, and the order of the summands does not matter.
func TestSumsAreUndone(t *testing.T) {
	for _, a := range wides() {
		for _, b := range wides() {
			sum, ok := sums(a, b)
			if ok && (Sub(sum, a) != b || Sub(sum, b) != a) {
				t.Errorf("%v, %v: not undone", exact(a), exact(b))
			}
			if sum != Add(b, a) {
				t.Errorf("%v, %v: not the same in the other order", exact(a), exact(b))
			}
		}
	}
}

// P1.4: sums do not depend on grouping, and compare as the summands that they do not share.
func TestSumsAreGroupedAndCompared(t *testing.T) {
	var l []api.Wide
	for i, a := range wides() {
		if i%3 == 0 {
			l = append(l, a)
		}
	}
	for i, a := range l {
		for j, b := range l {
			c := l[(7*i+11*j)%len(l)]
			ab, ok1 := sums(a, b)
			bc, ok2 := sums(b, c)
			left, ok3 := sums(ab, c)
			right, ok4 := sums(a, bc)
			if ok1 && ok2 && ok3 && ok4 && left != right {
				t.Errorf("%v, %v, %v: grouped", exact(a), exact(b), exact(c))
			}
			if ok1 && ok2 && Cmp(ab, bc) != Cmp(a, c) {
				t.Errorf("%v, %v, %v: compared", exact(a), exact(b), exact(c))
			}
		}
	}
}

// P1.4: a number is its quotient times the divisor, plus the remainder. (For divisors that Scale takes.)
func TestQuotientsMakeTheNumberAgain(t *testing.T) {
	for _, a := range wides() {
		for _, n := range []uint32{1, 2, 3, 10, 1000, 1 << 31, math.MaxUint32} {
			q, r, ok := Div(a, uint64(n))
			scaled := Scale(q, n)
			if exact(scaled).Cmp(new(big.Int).Mul(exact(q), big.NewInt(int64(n)))) != 0 {
				continue // rounding down left the range: a is within n of -2^127
			}
			if !ok || Add(scaled, api.Wide{Lo: r}) != a || r >= uint64(n) {
				t.Errorf("%v by %d: not made again of %v, %d", exact(a), n, exact(q), r)
			}
		}
	}
}
