package era

import (
	"math"
	"math/big"
	"testing"

	"horologe/api"
)

var (
	low, high = power(-1, 127), plus(power(1, 127), -1)
	second    = power(1, 32)
	start     = new(big.Int).Mul(big.NewInt(2208988800), second) // of 1970
)

// power returns sign * 2^n.
func power(sign int64, n uint) *big.Int {
	return new(big.Int).Lsh(big.NewInt(sign), n)
}

func plus(x *big.Int, n int64) *big.Int {
	return sum(x, big.NewInt(n))
}

func sum(x, y *big.Int) *big.Int {
	return new(big.Int).Add(x, y)
}

func number(n uint64) *big.Int {
	return new(big.Int).SetUint64(n)
}

func within(x *big.Int) bool {
	return x.Cmp(low) >= 0 && x.Cmp(high) <= 0
}

// exact returns the number that w stands for.
func exact(w api.Wide) *big.Int {
	return sum(new(big.Int).Lsh(big.NewInt(w.Hi), 64), number(w.Lo))
}

// made returns the wide number nearest to x.
func made(x *big.Int) api.Wide {
	if x.Cmp(low) < 0 {
		x = low
	}
	if x.Cmp(high) > 0 {
		x = high
	}
	// big.Int's Rsh rounds down.
	return api.Wide{Hi: new(big.Int).Rsh(x, 64).Int64(), Lo: folded(x)}
}

// folded returns the lowest 64 bits of x.
func folded(x *big.Int) uint64 {
	return new(big.Int).And(x, number(math.MaxUint64)).Uint64()
}

// of returns the moment n units after 1900.
func of(n int64) api.Wide {
	return made(big.NewInt(n))
}

// steps is a fixed sequence of numbers that look like chance.
type steps uint64

func (s *steps) next() uint64 {
	*s += 0x9e3779b97f4a7c15
	x := uint64(*s)
	x = (x ^ x>>30) * 0xbf58476d1ce4e5b9
	x = (x ^ x>>27) * 0x94d049bb133111eb
	return x ^ x>>31
}

// moments returns the moments around powers of 2, of either sign, around the bounds of what Unix returns, and others of all lengths.
func moments() []api.Wide {
	var l []api.Wide
	around := func(x *big.Int) {
		for d := int64(-2); d <= 2; d++ {
			l = append(l, made(plus(x, d)))
		}
	}
	for _, sign := range []int64{1, -1} {
		for _, n := range []uint{1, 31, 32, 33, 62, 63, 64, 65, 94, 95, 96, 97, 126, 127} {
			around(power(sign, n))
		}
		around(sum(power(sign, 96), start))
	}
	around(start)
	around(sum(start, second))
	s := steps(1)
	for n := range uint(128) {
		l = append(l, made(new(big.Int).Rsh(exact(api.Wide{Hi: int64(s.next()), Lo: s.next()}), n)))
	}
	return l
}

// stamps returns the edges of a stamp, what stands near to it and half an era away from it, and others of all lengths.
func stamps(near uint64) []uint64 {
	var l []uint64
	for _, edge := range []uint64{0, near, 1 << 63, near + 1<<63} {
		l = append(l, edge-2, edge-1, edge, edge+1, edge+2)
	}
	s := steps(near)
	for n := range 64 {
		x := s.next() >> n
		l = append(l, x, near+x, near-x)
	}
	return l
}

func seconds() []uint64 {
	l := []uint64{0, 1, 2, 2085978495, 2085978496, 1<<31 - 1, 1 << 31, 1<<32 - 1, 1 << 32, 1<<63 - 1, 1 << 63, math.MaxUint64 - 1, math.MaxUint64}
	s := steps(2)
	for n := range 64 {
		l = append(l, s.next()>>n)
	}
	return l
}

func fractions() []uint32 {
	l := []uint32{0, 1, 2, 1<<31 - 1, 1 << 31, 1<<31 + 1, math.MaxUint32 - 1, math.MaxUint32}
	s := steps(3)
	for n := range 32 {
		l = append(l, uint32(s.next())>>n)
	}
	return l
}

// P3.1, P3.2: the rows of the chapter's table.
func TestExamples(t *testing.T) {
	w := made(plus(power(1, 64), 5))
	if got := Fold(w); got != 5 {
		t.Error("Fold of 2^64 + 5:", got)
	}
	if got := Number(w); got != 1 {
		t.Error("Number of 2^64 + 5:", got)
	}
	if got := Number(of(-1)); got != -1 {
		t.Error("Number of -1:", got)
	}
	if got := Unfold(5, made(power(1, 64))); got != w {
		t.Error("Unfold(5, 2^64):", exact(got))
	}
	if got := Unfold(0, made(power(1, 63))); got != of(0) {
		t.Error("Unfold(0, 2^63):", exact(got))
	}
	if got := Unfold(0, made(plus(power(1, 63), 1))); got != made(power(1, 64)) {
		t.Error("Unfold(0, 2^63 + 1):", exact(got))
	}
	if got := Unix(0, 0); got != (api.Wide{Hi: 0, Lo: 2208988800 << 32}) {
		t.Error("Unix(0, 0):", got)
	}
}

// P3.1.
func TestFoldAndNumber(t *testing.T) {
	for _, w := range moments() {
		x := exact(w)
		if got, want := Fold(w), folded(x); got != want {
			t.Errorf("stamp of %v: got %d, want %d", x, got, want)
		}
		// big.Int's Rsh rounds down.
		if got, want := Number(w), new(big.Int).Rsh(x, 64).Int64(); got != want {
			t.Errorf("era of %v: got %d, want %d", x, got, want)
		}
	}
}

// P3.1: the borders between eras, and the first and the last era.
func TestFoldAndNumberAtTheEdges(t *testing.T) {
	for _, c := range []struct {
		w     *big.Int
		stamp uint64
		era   int64
	}{
		{big.NewInt(0), 0, 0},
		{big.NewInt(1), 1, 0},
		{big.NewInt(-1), math.MaxUint64, -1},
		{start, 2208988800 << 32, 0},
		{plus(power(1, 64), -1), math.MaxUint64, 0},
		{power(1, 64), 0, 1},
		{plus(power(1, 65), -1), math.MaxUint64, 1},
		{power(1, 65), 0, 2},
		{power(-1, 64), 0, -1},
		{plus(power(-1, 64), -1), math.MaxUint64, -2},
		{plus(power(-1, 64), 7), 7, -1},
		{low, 0, math.MinInt64},
		{plus(low, 3), 3, math.MinInt64},
		{high, math.MaxUint64, math.MaxInt64},
		{plus(high, -3), math.MaxUint64 - 3, math.MaxInt64},
	} {
		w := made(c.w)
		if stamp, era := Fold(w), Number(w); stamp != c.stamp || era != c.era {
			t.Errorf("%v: got %d in era %d, want %d in era %d", c.w, stamp, era, c.stamp, c.era)
		}
	}
}

// nearest is the chapter's sentence, on the moments of the stamp in the eras around near, from the earliest one on.
func nearest(stamp uint64, near api.Wide) *big.Int {
	var best, least *big.Int
	x := exact(near)
	era := new(big.Int).Rsh(x, 64)
	for n := int64(-3); n <= 3; n++ {
		moment := sum(new(big.Int).Lsh(plus(era, n), 64), number(stamp))
		away := new(big.Int).Sub(moment, x)
		away.Abs(away)
		if within(moment) && (least == nil || away.Cmp(least) < 0) {
			best, least = moment, away
		}
	}
	return best
}

// P3.1.
func TestUnfold(t *testing.T) {
	for _, near := range moments() {
		for _, stamp := range stamps(near.Lo) {
			if got, want := Unfold(stamp, near), nearest(stamp, near); exact(got).Cmp(want) != 0 {
				t.Errorf("%d near %v: got %v, want %v", stamp, exact(near), exact(got), want)
			}
		}
	}
}

// P3.1: of two moments that are equally near, the earlier one; one unit nearer to the later one, that one.
func TestUnfoldEquallyNear(t *testing.T) {
	const half = 1 << 63
	for _, era := range []int64{0, 1, 2, -1, -2, -3, 1 << 40, -1 << 40, math.MaxInt64 - 1, math.MinInt64 + 1} {
		for _, stamp := range []uint64{0, 1, 12345, half - 1} {
			earlier, later := api.Wide{Hi: era, Lo: stamp}, api.Wide{Hi: era + 1, Lo: stamp}
			middle := api.Wide{Hi: era, Lo: stamp + half}
			if got := Unfold(stamp, middle); got != earlier {
				t.Errorf("%d near %v: got %v", stamp, middle, got)
			}
			middle.Lo--
			if got := Unfold(stamp, middle); got != earlier {
				t.Errorf("%d near %v: got %v", stamp, middle, got)
			}
			if middle.Lo += 2; middle.Lo == 0 {
				middle.Hi++
			}
			if got := Unfold(stamp, middle); got != later {
				t.Errorf("%d near %v: got %v", stamp, middle, got)
			}
		}
		// What is halfway to the next moment of these stamps is in the next era already.
		for _, stamp := range []uint64{half, half + 1, half + 12345, math.MaxUint64} {
			earlier, later := api.Wide{Hi: era - 1, Lo: stamp}, api.Wide{Hi: era, Lo: stamp}
			middle := api.Wide{Hi: era, Lo: stamp - half}
			if got := Unfold(stamp, middle); got != earlier {
				t.Errorf("%d near %v: got %v", stamp, middle, got)
			}
			middle.Lo++
			if got := Unfold(stamp, middle); got != later {
				t.Errorf("%d near %v: got %v", stamp, middle, got)
			}
		}
	}
}

// P3.1: close to a bound of a wide number, only moments that are wide numbers count, though others would be nearer.
func TestUnfoldAtTheBounds(t *testing.T) {
	const half = 1 << 63
	first := func(lo uint64) api.Wide { return api.Wide{Hi: math.MinInt64, Lo: lo} }
	last := func(lo uint64) api.Wide { return api.Wide{Hi: math.MaxInt64, Lo: lo} }
	for _, c := range []struct {
		stamp      uint64
		near, want api.Wide
	}{
		{0, last(math.MaxUint64), last(0)},
		{5, last(math.MaxUint64), last(5)},
		{half - 2, last(math.MaxUint64), last(half - 2)},
		{half - 1, last(math.MaxUint64), last(half - 1)},
		{half, last(math.MaxUint64), last(half)},
		{math.MaxUint64, last(math.MaxUint64), last(math.MaxUint64)},
		{0, last(half + 1), last(0)},
		{0, last(half), last(0)},
		{math.MaxUint64, last(0), api.Wide{Hi: math.MaxInt64 - 1, Lo: math.MaxUint64}},
		{half, last(0), api.Wide{Hi: math.MaxInt64 - 1, Lo: half}},
		{half - 1, last(0), last(half - 1)},
		{math.MaxUint64, first(0), first(math.MaxUint64)},
		{half + 1, first(0), first(half + 1)},
		// Equally near would be an earlier moment that is no wide number.
		{half, first(0), first(half)},
		{half + 7, first(7), first(half + 7)},
		{half - 1, first(0), first(half - 1)},
		{0, first(0), first(0)},
		{math.MaxUint64, first(half - 2), first(math.MaxUint64)},
		{math.MaxUint64, first(half - 1), first(math.MaxUint64)},
		{0, first(math.MaxUint64), api.Wide{Hi: math.MinInt64 + 1}},
		{half - 1, first(math.MaxUint64), first(half - 1)},
		{half - 2, first(math.MaxUint64), api.Wide{Hi: math.MinInt64 + 1, Lo: half - 2}},
	} {
		if got := Unfold(c.stamp, c.near); got != c.want {
			t.Errorf("%d near %v: got %v, want %v", c.stamp, c.near, got, c.want)
		}
	}
}

// P3.1: ordinary stamps, on both sides of the border between eras in February 2036.
func TestUnfoldBetweenEras(t *testing.T) {
	at := func(era int64, sec, frac uint64) api.Wide { return api.Wide{Hi: era, Lo: sec<<32 | frac} }
	const late, early = 1<<32 - 10, 10
	for _, c := range []struct {
		stamp      uint64
		near, want api.Wide
	}{
		{3_900_000_000<<32 | 1, at(0, 3_900_000_001, 0), at(0, 3_900_000_000, 1)},
		{3_900_000_000<<32 | 1, at(0, 3_800_000_000, 0), at(0, 3_900_000_000, 1)},
		{early<<32 | 3, at(0, late, 0), at(1, early, 3)},
		{late<<32 | 3, at(1, early, 0), at(0, late, 3)},
		{early<<32 | 3, at(-1, late, 0), at(0, early, 3)},
		{late<<32 | 3, at(0, early, 0), at(-1, late, 3)},
		{early<<32 | 3, at(-2, late, 0), at(-1, early, 3)},
		{0, at(0, 1<<32-1, 1<<32-1), at(1, 0, 0)},
		{math.MaxUint64, at(1, 0, 0), at(0, 1<<32-1, 1<<32-1)},
		{math.MaxUint64, at(0, 0, 0), of(-1)},
	} {
		if got := Unfold(c.stamp, c.near); got != c.want {
			t.Errorf("%d near %v: got %v, want %v", c.stamp, c.near, got, c.want)
		}
	}
}

// P3.2.
func TestUnix(t *testing.T) {
	for _, sec := range seconds() {
		for _, frac := range fractions() {
			want := sum(new(big.Int).Mul(number(sec), second), plus(start, int64(frac)))
			if got := exact(Unix(sec, frac)); got.Cmp(want) != 0 {
				t.Errorf("%d s, %d: got %v, want %v", sec, frac, got, want)
			}
		}
	}
}

// P3.2, at the edges: whole numbers written out.
func TestUnixAtTheEdges(t *testing.T) {
	for _, c := range []struct {
		sec  uint64
		frac uint32
		want api.Wide
	}{
		{0, 1, api.Wide{Lo: 2208988800<<32 + 1}},
		{0, math.MaxUint32, api.Wide{Lo: 2208988801<<32 - 1}},
		{1, 0, api.Wide{Lo: 2208988801 << 32}},
		// the last unit of era 0, and the first one of era 1
		{1<<32 - 2208988801, math.MaxUint32, api.Wide{Lo: math.MaxUint64}},
		{1<<32 - 2208988800, 0, api.Wide{Hi: 1}},
		{1 << 32, 0, api.Wide{Hi: 1, Lo: 2208988800 << 32}},
		{1 << 63, 0, api.Wide{Hi: 1 << 31, Lo: 2208988800 << 32}},
		{math.MaxUint64, math.MaxUint32, api.Wide{Hi: 1 << 32, Lo: 2208988800<<32 - 1}},
	} {
		if got := Unix(c.sec, c.frac); got != c.want {
			t.Errorf("%d s, %d: got %v, want %v", c.sec, c.frac, got, c.want)
		}
	}
}

// P3.2: of any moment, whether it has a Unix time or not.
func TestBack(t *testing.T) {
	for _, w := range moments() {
		since := new(big.Int).Sub(exact(w), start)
		var want struct {
			sec  uint64
			frac uint32
			ok   bool
		}
		if since.Sign() >= 0 && since.Cmp(power(1, 96)) < 0 {
			want.sec, want.frac, want.ok = new(big.Int).Rsh(since, 32).Uint64(), uint32(folded(since)), true
		}
		if sec, frac, ok := Back(w); sec != want.sec || frac != want.frac || ok != want.ok {
			t.Errorf("%v: got %d, %d, %v, want %v", exact(w), sec, frac, ok, want)
		}
	}
}

// P3.2, at the edges: 1970, 2^64 seconds after it, and what is beyond them.
func TestBackAtTheEdges(t *testing.T) {
	end := sum(start, power(1, 96))
	for _, c := range []struct {
		w    *big.Int
		sec  uint64
		frac uint32
		ok   bool
	}{
		{start, 0, 0, true},
		{plus(start, 1), 0, 1, true},
		{plus(start, 1<<32-1), 0, math.MaxUint32, true},
		{plus(start, 1<<32), 1, 0, true},
		{plus(power(1, 64), -1), 2085978495, math.MaxUint32, true},
		{power(1, 64), 2085978496, 0, true},
		{sum(start, plus(power(1, 95), -1)), 1<<63 - 1, math.MaxUint32, true},
		{sum(start, power(1, 95)), 1 << 63, 0, true},
		{plus(end, -1<<32-1), math.MaxUint64 - 1, math.MaxUint32, true},
		{plus(end, -1<<32), math.MaxUint64, 0, true},
		{plus(end, -1), math.MaxUint64, math.MaxUint32, true},
		{end, 0, 0, false},
		{plus(end, 1), 0, 0, false},
		{plus(end, 1<<32+9), 0, 0, false},
		{power(1, 97), 0, 0, false},
		{high, 0, 0, false},
		{plus(start, -1), 0, 0, false},
		{plus(start, -1<<32), 0, 0, false},
		{plus(start, -1<<32-1), 0, 0, false},
		{big.NewInt(0), 0, 0, false},
		{big.NewInt(-1), 0, 0, false},
		{power(-1, 64), 0, 0, false},
		{sum(start, power(-1, 96)), 0, 0, false},
		{low, 0, 0, false},
		{plus(low, 5), 0, 0, false},
	} {
		if sec, frac, ok := Back(made(c.w)); sec != c.sec || frac != c.frac || ok != c.ok {
			t.Errorf("%v: got %d, %d, %v, want %d, %d, %v", c.w, sec, frac, ok, c.sec, c.frac, c.ok)
		}
	}
}

// P3.3.
func TestFoldUndoesUnfold(t *testing.T) {
	for _, near := range moments() {
		for _, stamp := range stamps(near.Lo) {
			if got := Fold(Unfold(stamp, near)); got != stamp {
				t.Errorf("%d near %v: got %d back", stamp, exact(near), got)
			}
		}
	}
}

// P3.3: any moment is found again from less than half an era away.
func TestUnfoldUndoesFold(t *testing.T) {
	const most = 1<<63 - 1
	s := steps(4)
	for _, w := range moments() {
		distances := []int64{0, 1, -1, 2, -2, most, -most, most - 1, 1 - most}
		for n := range 63 {
			if d := int64(s.next()) >> n; d != math.MinInt64 {
				distances = append(distances, d)
			}
		}
		for _, d := range distances {
			near := plus(exact(w), d)
			if !within(near) {
				continue
			}
			if got := Unfold(Fold(w), made(near)); got != w {
				t.Errorf("%v from %d away: got %v", exact(w), d, exact(got))
			}
		}
	}
}

// P3.3.
func TestBackUndoesUnix(t *testing.T) {
	for _, sec := range seconds() {
		for _, frac := range fractions() {
			if s, f, ok := Back(Unix(sec, frac)); s != sec || f != frac || !ok {
				t.Errorf("%d, %d: got %d, %d, %v", sec, frac, s, f, ok)
			}
		}
	}
}
