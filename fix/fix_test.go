package fix

import (
	"math"
	"math/big"
	"testing"

	"horologe/api"
)

var (
	low, high     = power(-1, 127), plus(power(1, 127), -1)
	low64, high64 = power(-1, 63), plus(power(1, 63), -1)
	second        = power(1, 32)
)

// power returns sign * 2^n.
func power(sign int64, n uint) *big.Int {
	return new(big.Int).Lsh(big.NewInt(sign), n)
}

func plus(x *big.Int, n int64) *big.Int {
	return new(big.Int).Add(x, big.NewInt(n))
}

func number(n uint64) *big.Int {
	return new(big.Int).SetUint64(n)
}

func clipped(x, least, most *big.Int) *big.Int {
	if x.Cmp(least) < 0 {
		return least
	}
	if x.Cmp(most) > 0 {
		return most
	}
	return x
}

// exact returns the number that w stands for.
func exact(w api.Wide) *big.Int {
	x := new(big.Int).Lsh(big.NewInt(w.Hi), 64)
	return x.Add(x, number(w.Lo))
}

// made returns the wide number nearest to x.
func made(x *big.Int) api.Wide {
	x = clipped(x, low, high)
	lo := new(big.Int).And(x, number(math.MaxUint64))
	return api.Wide{Hi: new(big.Int).Rsh(x, 64).Int64(), Lo: lo.Uint64()}
}

// of returns the moment n units after 1900.
func of(n int64) api.Wide {
	return made(big.NewInt(n))
}

// away returns the sum, or if that is out of range the nearest wide number.
func away(w api.Wide, n int64) api.Wide {
	return made(plus(exact(w), n))
}

// minus returns a - b, saturated.
func minus(a, b *big.Int) *big.Int {
	return clipped(new(big.Int).Sub(a, b), low, high)
}

// offset and delay are the chapter's sentences, on exact numbers that saturate where it says so.
func offset(t [4]api.Wide) int64 {
	sum := new(big.Int).Add(minus(exact(t[1]), exact(t[0])), minus(exact(t[2]), exact(t[3])))
	// big.Int's Rsh rounds down.
	half := new(big.Int).Rsh(clipped(sum, low, high), 1)
	return clipped(half, low64, high64).Int64()
}

func delay(t [4]api.Wide) int64 {
	rest := minus(minus(exact(t[3]), exact(t[0])), minus(exact(t[2]), exact(t[1])))
	return clipped(rest, low64, high64).Int64()
}

// steps is a fixed sequence of numbers that look like chance.
type steps uint64

func (s *steps) next() uint64 {
	*s += 0x9e3779b97f4a7c15
	x := uint64(*s)
	x = (x ^ x>>30) * 0xbf58476d1ce4e5b9
	x = (x ^ x>>27) * 0x94d049bb133111eb
	return x ^ x>>31
}

// moments returns the moments around powers of 2, of either sign, and others of all lengths.
func moments() []api.Wide {
	var l []api.Wide
	for _, sign := range []int64{1, -1} {
		for _, n := range []uint{1, 31, 32, 33, 62, 63, 64, 94, 95, 96, 126, 127} {
			for d := int64(-2); d <= 2; d++ {
				l = append(l, made(plus(power(sign, n), d)))
			}
		}
	}
	s := steps(1)
	for n := range uint(128) {
		l = append(l, made(new(big.Int).Rsh(exact(api.Wide{Hi: int64(s.next()), Lo: s.next()}), n)))
	}
	return l
}

func seconds() []int64 {
	l := []int64{0, 1, -1, 2, -2, api.Unix, -api.Unix, math.MaxInt64, math.MaxInt64 - 1, math.MinInt64, math.MinInt64 + 1}
	s := steps(2)
	for n := range 64 {
		l = append(l, int64(s.next())>>n)
	}
	return l
}

func fractions() []uint32 {
	l := []uint32{0, 1, 2, 3, 5, 1<<16 - 1, 1 << 16, 1<<31 - 1, 1 << 31, 1<<31 + 1, math.MaxUint32 - 1, math.MaxUint32}
	s := steps(3)
	for n := range 96 {
		l = append(l, uint32(s.next())>>(n%32))
	}
	return l
}

// dens returns numbers of parts that are in their bounds.
func dens() []uint64 {
	l := []uint64{1, 2, 3, 7, 1 << 16, 1<<32 - 1, 1 << 32, 1<<32 + 1, 1<<33 - 1, 1 << 33, 1<<40 - 1, 1 << 40}
	for n := uint64(10); n < MaxDen; n *= 10 {
		l = append(l, n)
	}
	s := steps(4)
	for n := range 80 {
		l = append(l, s.next()>>(24+n%40)|1)
	}
	return l
}

// outside returns numbers of parts that are out of their bounds.
func outside() []uint64 {
	return []uint64{0, MaxDen + 1, MaxDen + 2, 1 << 41, 10_000_000_000_000, 1<<63 - 1, 1 << 63, 1<<63 + 1, math.MaxUint64 - 1, math.MaxUint64}
}

// numerators returns numbers that are less than den: the edges, and others of all lengths.
func numerators(den uint64) []uint64 {
	l := []uint64{0, 1 % den, den / 3, den / 2, (den - 1) / 2, den - 1}
	if den > 2 {
		l = append(l, den-2)
	}
	s := steps(den)
	for n := range 40 {
		l = append(l, s.next()>>n%den)
	}
	return l
}

// P2.1, P2.2, P2.3: the rows of the chapter's table.
func TestExamples(t *testing.T) {
	if sec, frac := Split(Moment(-1, 5)); sec != -1 || frac != 5 {
		t.Error("Split(Moment(-1, 5)):", sec, frac)
	}
	if f, ok := Frac(1, 2); f != 2147483648 || !ok {
		t.Error("Frac(1, 2):", f, ok)
	}
	if f, ok := Frac(1, 3); f != 1431655766 || !ok {
		t.Error("Frac(1, 3):", f, ok)
	}
	if f, ok := Frac(3, 3); f != 0 || ok {
		t.Error("Frac(3, 3):", f, ok)
	}
	if n, ok := Parts(2147483648, 1000); n != 500 || !ok {
		t.Error("Parts(2147483648, 1000):", n, ok)
	}
	t1, t2, t3, t4 := of(0), of(10), of(14), of(20)
	if o, d := Offset(t1, t2, t3, t4), Delay(t1, t2, t3, t4); o != 2 || d != 16 {
		t.Error("Offset, Delay of 0, 10, 14, 20:", o, d)
	}
}

// P2.1.
func TestMoment(t *testing.T) {
	for _, sec := range seconds() {
		for _, frac := range fractions() {
			want := new(big.Int).Mul(big.NewInt(sec), second)
			want.Add(want, big.NewInt(int64(frac)))
			if got := exact(Moment(sec, frac)); got.Cmp(want) != 0 {
				t.Errorf("%d s, %d: got %v, want %v", sec, frac, got, want)
			}
		}
	}
}

// P2.1, at the edges: whole numbers written out.
func TestMomentAtTheEdges(t *testing.T) {
	for _, c := range []struct {
		sec  int64
		frac uint32
		want api.Wide
	}{
		{0, 0, api.Wide{}},
		{0, math.MaxUint32, api.Wide{Lo: 1<<32 - 1}},
		{api.Unix, 0, api.Wide{Lo: 2208988800 << 32}},
		{1 << 32, 7, api.Wide{Hi: 1, Lo: 7}},
		{-1, 0, api.Wide{Hi: -1, Lo: 0xffffffff << 32}},
		{-1, math.MaxUint32, api.Wide{Hi: -1, Lo: math.MaxUint64}},
		{math.MaxInt64, math.MaxUint32, api.Wide{Hi: 1<<31 - 1, Lo: math.MaxUint64}},
		{math.MinInt64, 0, api.Wide{Hi: -1 << 31}},
		{math.MinInt64, math.MaxUint32, api.Wide{Hi: -1 << 31, Lo: math.MaxUint32}},
	} {
		if got := Moment(c.sec, c.frac); got != c.want {
			t.Errorf("%d s, %d: got %v, want %v", c.sec, c.frac, got, c.want)
		}
	}
}

// P2.1.
func TestSplit(t *testing.T) {
	for _, w := range moments() {
		sec, frac := Split(w)
		// big.Int's Rsh rounds down.
		want := clipped(new(big.Int).Rsh(exact(w), 32), low64, high64).Int64()
		if sec != want || frac != uint32(w.Lo) {
			t.Errorf("%v: got %d, %d, want %d, %d", exact(w), sec, frac, want, uint32(w.Lo))
		}
	}
}

// P2.1, at the edges: negative moments, and seconds that are clipped at either bound, where the units stay.
func TestSplitAtTheEdges(t *testing.T) {
	for _, c := range []struct {
		w    *big.Int
		sec  int64
		frac uint32
	}{
		{big.NewInt(-1), -1, math.MaxUint32},
		{big.NewInt(-1 << 32), -1, 0},
		{big.NewInt(-1<<32 - 1), -2, math.MaxUint32},
		{big.NewInt(-1<<32 + 5), -1, 5},
		{plus(power(1, 95), -1), math.MaxInt64, math.MaxUint32},
		{power(1, 95), math.MaxInt64, 0},
		{plus(power(1, 95), 3), math.MaxInt64, 3},
		{high, math.MaxInt64, math.MaxUint32},
		{power(-1, 95), math.MinInt64, 0},
		{plus(power(-1, 95), 4), math.MinInt64, 4},
		{plus(power(-1, 95), -1), math.MinInt64, math.MaxUint32},
		{plus(power(-1, 96), 9), math.MinInt64, 9},
		{low, math.MinInt64, 0},
	} {
		if sec, frac := Split(made(c.w)); sec != c.sec || frac != c.frac {
			t.Errorf("%v: got %d, %d, want %d, %d", c.w, sec, frac, c.sec, c.frac)
		}
	}
}

// P2.1.
func TestShort(t *testing.T) {
	for s, want := range map[uint32]int64{
		0:              0,
		1:              1 << 16,
		1 << 15:        1 << 31,
		1 << 16:        api.Second,
		3<<16 | 1<<14:  3*api.Second + api.Second/4,
		1 << 31:        1 << 47,
		math.MaxUint32: 1<<48 - 1<<16,
	} {
		if got := Short(s); got != want {
			t.Errorf("%d: got %d, want %d", s, got, want)
		}
	}
	for _, s := range fractions() {
		if got := Short(s); got != int64(s)*65536 {
			t.Errorf("%d: got %d", s, got)
		}
	}
}

// P2.2: units are enough, and one fewer are not.
func TestFrac(t *testing.T) {
	for _, den := range dens() {
		for _, n := range numerators(den) {
			got, ok := Frac(n, den)
			least := new(big.Int).Mul(number(n), second)
			least.Add(least, number(den-1)).Quo(least, number(den))
			want := clipped(least, new(big.Int), plus(second, -1))
			if !ok || uint64(got) != want.Uint64() {
				t.Errorf("%d/%d: got %d, %v, want %v", n, den, got, ok, want)
			}
		}
	}
}

// P2.2, at the edges: what is exact, what is rounded up, and what would be a whole second.
func TestFracAtTheEdges(t *testing.T) {
	for _, c := range []struct {
		n, den uint64
		want   uint32
	}{
		{0, 1, 0},
		{0, 1 << 40, 0},
		{1, 2, 1 << 31},
		{2, 3, 2863311531},
		{1, 1000, 4294968},
		{999_999_999, 1_000_000_000, 4294967292},
		{1<<32 - 2, 1<<32 - 1, 1<<32 - 1},
		{1, 1 << 32, 1},
		{1<<32 - 1, 1 << 32, 1<<32 - 1},
		{1<<32 - 1, 1<<32 + 1, 1<<32 - 1},
		{1 << 32, 1<<32 + 1, 1<<32 - 1},
		{1, 1 << 40, 1},
		{255, 1 << 40, 1},
		{256, 1 << 40, 1},
		{257, 1 << 40, 2},
		{1<<40 - 513, 1 << 40, 1<<32 - 2},
		{1<<40 - 512, 1 << 40, 1<<32 - 2},
		{1<<40 - 511, 1 << 40, 1<<32 - 1},
		{1<<40 - 256, 1 << 40, 1<<32 - 1},
		{1<<40 - 255, 1 << 40, 1<<32 - 1},
		{1<<40 - 1, 1 << 40, 1<<32 - 1},
		{1<<40 - 2, 1<<40 - 1, 1<<32 - 1},
		{999_999_999_999, 1_000_000_000_000, 1<<32 - 1},
	} {
		if got, ok := Frac(c.n, c.den); got != c.want || !ok {
			t.Errorf("%d/%d: got %d, %v, want %d", c.n, c.den, got, ok, c.want)
		}
	}
}

// P2.2: wrong inputs.
func TestFracOutOfBounds(t *testing.T) {
	for _, den := range outside() {
		for _, n := range []uint64{0, 1, den / 2, den - 1, den, den + 1, math.MaxUint64} {
			if got, ok := Frac(n, den); got != 0 || ok {
				t.Errorf("%d/%d: got %d, %v", n, den, got, ok)
			}
		}
	}
	for _, den := range dens() {
		for _, n := range []uint64{den, den + 1, 2 * den, 1 << 62, 1 << 63, math.MaxUint64} {
			if got, ok := Frac(n, den); got != 0 || ok {
				t.Errorf("%d/%d: got %d, %v", n, den, got, ok)
			}
		}
	}
}

// P2.2.
func TestParts(t *testing.T) {
	for _, den := range dens() {
		for _, frac := range fractions() {
			got, ok := Parts(frac, den)
			want := new(big.Int).Mul(number(uint64(frac)), number(den))
			want.Quo(want, second)
			if !ok || got != want.Uint64() {
				t.Errorf("%d in parts of 1/%d: got %d, %v, want %v", frac, den, got, ok, want)
			}
		}
	}
}

// P2.2, at the edges.
func TestPartsAtTheEdges(t *testing.T) {
	for _, c := range []struct {
		frac uint32
		den  uint64
		want uint64
	}{
		{0, 1, 0},
		{math.MaxUint32, 1, 0},
		{1<<31 - 1, 2, 0},
		{1 << 31, 2, 1},
		{1431655765, 3, 0},
		{1431655766, 3, 1},
		{math.MaxUint32, 1 << 32, 1<<32 - 1},
		{1, 1<<32 - 1, 0},
		{2, 1<<32 - 1, 1},
		{0, 1 << 40, 0},
		{1, 1 << 40, 256},
		{1, 1<<40 - 1, 255},
		{math.MaxUint32, 1 << 40, 1<<40 - 256},
	} {
		if got, ok := Parts(c.frac, c.den); got != c.want || !ok {
			t.Errorf("%d in parts of 1/%d: got %d, %v, want %d", c.frac, c.den, got, ok, c.want)
		}
	}
}

// P2.2: wrong inputs.
func TestPartsOutOfBounds(t *testing.T) {
	for _, den := range outside() {
		for _, frac := range fractions() {
			if got, ok := Parts(frac, den); got != 0 || ok {
				t.Errorf("%d in parts of 1/%d: got %d, %v", frac, den, got, ok)
			}
		}
	}
}

// P2.2: the bound's own value.
func TestMaxDen(t *testing.T) {
	if MaxDen != 1<<40 {
		t.Error("MaxDen:", uint64(MaxDen))
	}
}

// exchanges returns quadruples of moments: near one another around any moment, and of any moments.
func exchanges() [][4]api.Wide {
	var l [][4]api.Wide
	all := moments()
	s := steps(5)
	for i, w := range all {
		for shift := range 64 {
			near := func() api.Wide { return away(w, int64(s.next())>>shift) }
			l = append(l, [4]api.Wide{near(), near(), near(), near()})
		}
		for j := range 64 {
			pick := func(k int) api.Wide { return all[(i+k*(j+1))%len(all)] }
			l = append(l, [4]api.Wide{pick(0), pick(1), pick(3), pick(7)})
		}
	}
	return l
}

// P2.3.
func TestOffsetAndDelay(t *testing.T) {
	for _, e := range exchanges() {
		if got, want := Offset(e[0], e[1], e[2], e[3]), offset(e); got != want {
			t.Errorf("%v: offset %d, want %d", e, got, want)
		}
		if got, want := Delay(e[0], e[1], e[2], e[3]), delay(e); got != want {
			t.Errorf("%v: delay %d, want %d", e, got, want)
		}
	}
}

// P2.3: halves are rounded down.
func TestOffsetIsRoundedDown(t *testing.T) {
	for sum, want := range map[int64]int64{-3: -2, -2: -1, -1: -1, 0: 0, 1: 0, 2: 1, 3: 1} {
		if got := Offset(of(0), of(sum), of(0), of(0)); got != want {
			t.Errorf("half of %d from t2: got %d", sum, got)
		}
		if got := Offset(of(0), of(0), of(sum), of(0)); got != want {
			t.Errorf("half of %d from t3: got %d", sum, got)
		}
		// Each of the two differences is odd, so a half of each alone would lose a unit.
		if got := Offset(of(0), of(1), of(sum), of(1)); got != want {
			t.Errorf("half of 1 and %d: got %d", sum-1, got)
		}
	}
}

// P2.3, at the bounds of an int64, and of a wide number. In each row stand t1 to t4.
func TestOffsetAndDelayAtTheBounds(t *testing.T) {
	zero, one := new(big.Int), big.NewInt(1)
	for _, c := range []struct {
		what          string
		t             [4]*big.Int
		offset, delay int64
	}{
		{"offset just fits above", [4]*big.Int{zero, plus(power(1, 64), -1), zero, zero}, math.MaxInt64, math.MaxInt64},
		{"offset too great", [4]*big.Int{zero, power(1, 64), zero, zero}, math.MaxInt64, math.MaxInt64},
		{"offset just fits below", [4]*big.Int{zero, power(-1, 64), zero, zero}, math.MinInt64, math.MinInt64},
		{"offset one above the bound", [4]*big.Int{zero, plus(power(-1, 64), 2), zero, zero}, math.MinInt64 + 1, math.MinInt64},
		{"offset too small", [4]*big.Int{zero, plus(power(-1, 64), -1), zero, zero}, math.MinInt64, math.MinInt64},
		{"delay just fits above", [4]*big.Int{zero, zero, zero, high64}, -1 << 62, math.MaxInt64},
		{"delay too great", [4]*big.Int{zero, zero, zero, power(1, 63)}, -1 << 62, math.MaxInt64},
		{"delay just fits below", [4]*big.Int{zero, zero, zero, low64}, 1 << 62, math.MinInt64},
		{"delay too small", [4]*big.Int{zero, zero, zero, plus(low64, -1)}, 1 << 62, math.MinInt64},
		// t2 - t1 saturates at 2^127 - 1, t3 - t4 is 1 - 2^127: their sum is 0, and not 1
		{"both ways as far as can be", [4]*big.Int{low, zero, zero, high}, 0, math.MaxInt64},
		// t2 - t1 saturates at 2^127 - 1, t3 - t4 is 2 - 2^127: their sum is 1, and not 4
		{"t2 - t1 saturates above", [4]*big.Int{big.NewInt(-3), high, one, high}, 0, math.MaxInt64},
		// t2 - t1 saturates at -2^127, t3 - t4 is 2^127 - 1: their sum is -1, and not -5
		{"t2 - t1 saturates below", [4]*big.Int{big.NewInt(4), low, high, zero}, -1, math.MinInt64},
		// t3 - t4 saturates at 2^127 - 1, t2 - t1 is 4 - 2^127: their sum is 3, and not 10
		{"t3 - t4 saturates above", [4]*big.Int{plus(high, -2), one, high, big.NewInt(-7)}, 1, math.MinInt64},
		// t3 - t4 saturates at -2^127, t2 - t1 is 2^127 - 1: their sum is -1, and not -7
		{"t3 - t4 saturates below", [4]*big.Int{zero, high, low, big.NewInt(6)}, -1, math.MaxInt64},
		// both differences are 2^127 - 1, or -2^127: their sum saturates instead of wrapping
		{"the sum saturates above", [4]*big.Int{zero, high, high, zero}, math.MaxInt64, 0},
		{"the sum saturates below", [4]*big.Int{zero, low, low, zero}, math.MinInt64, 0},
		// t4 - t1 saturates at 2^127 - 1, t3 - t2 is 2^127 - 3: a delay of 2, and not 7
		{"t4 - t1 saturates above", [4]*big.Int{big.NewInt(-5), zero, plus(high, -2), high}, 1, 2},
		// t4 - t1 saturates at -2^127, t3 - t2 is 2 - 2^127: a delay of -2, and not -6
		{"t4 - t1 saturates below", [4]*big.Int{big.NewInt(4), zero, plus(low, 2), low}, -1, -2},
		// t3 - t2 saturates at 2^127 - 1, t4 - t1 is 2^127 - 4: a delay of -3, and not -9
		{"t3 - t2 saturates above", [4]*big.Int{zero, big.NewInt(-6), high, plus(high, -3)}, -2, -3},
		// t3 - t2 saturates at -2^127, t4 - t1 is 1 - 2^127: a delay of 1, and not 8
		{"t3 - t2 saturates below", [4]*big.Int{zero, big.NewInt(7), low, plus(low, 1)}, 3, 1},
		// t4 - t1 is at a bound, and t3 - t2 of -1, or 1, leads beyond it: the last difference saturates instead of wrapping
		{"the delay saturates above", [4]*big.Int{zero, one, zero, high}, math.MinInt64, math.MaxInt64},
		{"the delay saturates below", [4]*big.Int{zero, zero, one, low}, math.MaxInt64, math.MinInt64},
	} {
		var e [4]api.Wide
		for i, x := range c.t {
			e[i] = made(x)
		}
		if got := Offset(e[0], e[1], e[2], e[3]); got != c.offset {
			t.Errorf("%s: offset %d, want %d", c.what, got, c.offset)
		}
		if got := Delay(e[0], e[1], e[2], e[3]); got != c.delay {
			t.Errorf("%s: delay %d, want %d", c.what, got, c.delay)
		}
	}
}

// P2.4: what a moment is split into is what it was made of.
func TestSplitUndoesMoment(t *testing.T) {
	for _, sec := range seconds() {
		for _, frac := range fractions() {
			if s, f := Split(Moment(sec, frac)); s != sec || f != frac {
				t.Errorf("%d, %d: got %d, %d", sec, frac, s, f)
			}
		}
	}
}

// P2.4: Parts undoes Frac up to a den of 2^32, and Frac undoes Parts from there on.
func TestFracAndPartsUndoEachOther(t *testing.T) {
	for _, den := range dens() {
		for _, n := range numerators(den) {
			f, _ := Frac(n, den)
			if back, ok := Parts(f, den); den <= 1<<32 && (back != n || !ok) {
				t.Errorf("%d/%d: got %d back from %d", n, den, back, f)
			}
		}
		for _, frac := range fractions() {
			n, _ := Parts(frac, den)
			if back, ok := Frac(n, den); den >= 1<<32 && (back != frac || !ok) {
				t.Errorf("%d in parts of 1/%d: got %d back from %d", frac, den, back, n)
			}
		}
	}
}

// P2.4: how offset and delay change if moments advance.
func TestMomentsAdvance(t *testing.T) {
	s := steps(6)
	for range 20000 {
		start := api.Wide{Hi: int64(s.next()) >> (2 + s.next()%62), Lo: s.next()}
		later := func() api.Wide { return away(start, int64(s.next())>>4) }
		e := [4]api.Wide{later(), later(), later(), later()}
		n := int64(s.next()) >> (4 + s.next()%60)
		o, d := Offset(e[0], e[1], e[2], e[3]), Delay(e[0], e[1], e[2], e[3])
		t2, t3 := away(e[1], n), away(e[2], n)
		if o2, d2 := Offset(away(e[0], n), t2, t3, away(e[3], n)), Delay(away(e[0], n), t2, t3, away(e[3], n)); o2 != o || d2 != d {
			t.Errorf("%v, all later by %d: got %d, %d, want %d, %d", e, n, o2, d2, o, d)
		}
		if o2, d2 := Offset(e[0], t2, t3, e[3]), Delay(e[0], t2, t3, e[3]); o2 != o+n || d2 != d {
			t.Errorf("%v, t2 and t3 later by %d: got %d, %d, want %d, %d", e, n, o2, d2, o+n, d)
		}
	}
}
