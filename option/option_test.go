package option

import (
	"bytes"
	"encoding/binary"
	"encoding/hex"
	"math"
	"math/big"
	"slices"
	"strconv"
	"strings"
	"testing"

	"horologe/api"
)

// steps is a fixed sequence of numbers that look like chance.
type steps uint64

func (s *steps) next() uint64 {
	*s += 0x9e3779b97f4a7c15
	x := uint64(*s)
	x = (x ^ x>>30) * 0xbf58476d1ce4e5b9
	x = (x ^ x>>27) * 0x94d049bb133111eb
	return x ^ x>>31
}

// bytes returns n bytes.
func (s *steps) bytes(n int) []byte {
	b := make([]byte, n)
	for i := range b {
		b[i] = byte(s.next())
	}
	return b
}

// both are the byte orders.
var both = []bool{false, true}

// order returns the byte order of little.
func order(little bool) binary.AppendByteOrder {
	if little {
		return binary.LittleEndian
	}
	return binary.BigEndian
}

// number returns the number in the first two bytes of b.
func number(b []byte, little bool) int {
	if little {
		return int(binary.LittleEndian.Uint16(b))
	}
	return int(binary.BigEndian.Uint16(b))
}

// signed returns the signed number in the first eight bytes of b.
func signed(b []byte, little bool) int64 {
	if little {
		return int64(binary.LittleEndian.Uint64(b))
	}
	return int64(binary.BigEndian.Uint64(b))
}

// unhex returns the bytes of s, which may have blanks.
func unhex(s string) []byte {
	b, err := hex.DecodeString(strings.ReplaceAll(s, " ", ""))
	if err != nil {
		panic(err)
	}
	return b
}

// short returns the beginning of b, in hexadecimal.
func short(b []byte) string {
	if len(b) > 48 {
		return hex.EncodeToString(b[:48]) + ".. (" + strconv.Itoa(len(b)) + " bytes)"
	}
	return hex.EncodeToString(b)
}

// shorts returns the beginnings of options.
func shorts(l []Opt) string {
	var b strings.Builder
	for _, o := range l {
		b.WriteString(strconv.Itoa(int(o.Code)) + ":" + short(o.Value) + " ")
		if b.Len() > 400 {
			return b.String() + ".. (" + strconv.Itoa(len(l)) + " options)"
		}
	}
	return b.String()
}

// spare returns b with bytes behind it, up to its capacity, that are not part of it.
func spare(b []byte, behind string) []byte {
	own := append(slices.Clone(b), behind...)
	return own[:len(b)]
}

// unchanged reports whether own still has the bytes b, and behind them, up to its capacity, what spare laid there.
func unchanged(own, b []byte, behind string) bool {
	return string(own[:len(b)+len(behind)]) == string(b)+behind
}

// cloned returns l in new memory.
func cloned(l []Opt) []Opt {
	var own []Opt
	for _, o := range l {
		own = append(own, Opt{o.Code, slices.Clone(o.Value)})
	}
	return own
}

// equal reports whether a and b are the same options.
func equal(a, b []Opt) bool {
	return slices.EqualFunc(a, b, func(x, y Opt) bool {
		return x.Code == y.Code && bytes.Equal(x.Value, y.Value)
	})
}

// padded returns the bytes of the option o, whose padding has the bytes fill.
func padded(o Opt, little bool, fill byte) []byte {
	b := order(little).AppendUint16(nil, o.Code)
	b = order(little).AppendUint16(b, uint16(len(o.Value)))
	b = append(b, o.Value...)
	for len(b)%4 > 0 {
		b = append(b, fill)
	}
	return b
}

// written returns the bytes of l, without their end.
func written(l []Opt, little bool) []byte {
	var b []byte
	for _, o := range l {
		b = append(b, padded(o, little, 0)...)
	}
	return b
}

// parsed returns what Parse should.
func parsed(b []byte, little bool) ([]Opt, api.Errno) {
	var l []Opt
	for len(b) > 0 {
		if len(b) < 4 {
			return nil, api.ErrBytes
		}
		code, n := number(b, little), number(b[2:], little)
		if code == 0 {
			if n != 0 {
				return nil, api.ErrBytes
			}
			return l, api.OK
		}
		whole := 4 * (1 + (n+3)/4)
		if len(b) < whole {
			return nil, api.ErrBytes
		}
		l = append(l, Opt{uint16(code), b[4 : 4+n]})
		b = b[whole:]
	}
	return l, api.OK
}

// unitOf returns what Units should.
func unitOf(l []Opt, little bool) (Unit, api.Errno) {
	resol, shift := []byte{6}, make([]byte, 8)
	if i := slices.IndexFunc(l, func(o Opt) bool { return o.Code == 9 }); i >= 0 {
		resol = l[i].Value
	}
	if i := slices.IndexFunc(l, func(o Opt) bool { return o.Code == 14 }); i >= 0 {
		shift = l[i].Value
	}
	if len(resol) != 1 || len(shift) != 8 {
		return Unit{}, api.ErrOther
	}
	u := Unit{resol[0] >= 128, resol[0] % 128, signed(shift, little)}
	if den(u).Sign() == 0 {
		return Unit{}, api.ErrOther
	}
	return u, api.OK
}

// den returns how many ticks a second of u has, and 0 if u is not valid.
func den(u Unit) *big.Int {
	switch {
	case u.Two && u.Exp < 41:
		return new(big.Int).Lsh(big.NewInt(1), uint(u.Exp))
	case !u.Two && u.Exp < 13:
		return new(big.Int).Exp(big.NewInt(10), big.NewInt(int64(u.Exp)), nil)
	}
	return new(big.Int)
}

// exact returns the number that w stands for.
func exact(w api.Wide) *big.Int {
	x := new(big.Int).Lsh(big.NewInt(w.Hi), 64)
	return x.Add(x, new(big.Int).SetUint64(w.Lo))
}

// made returns the wide number that is nearest to x.
func made(x *big.Int) api.Wide {
	bound := new(big.Int).Lsh(big.NewInt(1), 127)
	if x.Cmp(bound) >= 0 {
		return api.Wide{Hi: math.MaxInt64, Lo: math.MaxUint64}
	}
	if x.Cmp(new(big.Int).Neg(bound)) < 0 {
		return api.Wide{Hi: math.MinInt64}
	}
	low := new(big.Int).And(x, new(big.Int).SetUint64(math.MaxUint64))
	// big.Int's Rsh rounds down.
	return api.Wide{Hi: new(big.Int).Rsh(x, 64).Int64(), Lo: low.Uint64()}
}

// begin returns the moment of no ticks of u.
func begin(u Unit) *big.Int {
	x := new(big.Int).Add(big.NewInt(2208988800), big.NewInt(u.Ahead))
	return x.Lsh(x, 32)
}

// after returns the moment so many seconds and units after that of no ticks of u.
func after(u Unit, sec *big.Int, units int64) api.Wide {
	x := new(big.Int).Lsh(sec, 32)
	x.Add(x, big.NewInt(units))
	return made(x.Add(x, begin(u)))
}

// at returns what At should, and whether the units are exactly those that are asked for, and not one too few for the second.
func at(u Unit, ticks uint64) (api.Wide, bool) {
	d := den(u)
	if d.Sign() == 0 {
		return api.Wide{}, true
	}
	sec, rest := new(big.Int).QuoRem(new(big.Int).SetUint64(ticks), d, new(big.Int))
	// Rounded up: the units are the complement of what the complement has, rounded down.
	x := new(big.Int).Lsh(new(big.Int).Neg(rest), 32)
	units := new(big.Int).Div(x, d).Int64() * -1
	return after(u, sec, min(units, 1<<32-1)), units < 1<<32
}

// count returns what Ticks should.
func count(u Unit, w api.Wide) (uint64, bool) {
	d := den(u)
	x := new(big.Int).Sub(exact(w), begin(u))
	if d.Sign() == 0 || x.Sign() < 0 {
		return 0, false
	}
	x.Mul(x, d).Rsh(x, 32)
	return x.Uint64(), x.IsUint64()
}

func checkParse(t *testing.T, b []byte, little bool) {
	t.Helper()
	want, wantNo := parsed(b, little)
	if got, no := Parse(b, little); !equal(got, want) || no != wantNo {
		t.Errorf("Parse(%s, %v): got %s, %d, want %s, %d", short(b), little, shorts(got), no, shorts(want), wantNo)
	}
}

// checkNone holds Parse of b to be ErrBytes, without options.
func checkNone(t *testing.T, b []byte, little bool) {
	t.Helper()
	if got, no := Parse(b, little); len(got) != 0 || no != api.ErrBytes {
		t.Errorf("Parse(%s, %v): %s, %d", short(b), little, shorts(got), no)
	}
}

func checkUnits(t *testing.T, l []Opt, little bool) {
	t.Helper()
	want, wantNo := unitOf(l, little)
	if got, no := Units(l, little); got != want || no != wantNo {
		t.Errorf("Units(%s, %v): got %+v, %d, want %+v, %d", shorts(l), little, got, no, want, wantNo)
	}
}

func checkTicks(t *testing.T, u Unit, w api.Wide) {
	t.Helper()
	want, wantOk := count(u, w)
	if !wantOk {
		want = 0
	}
	if got, ok := u.Ticks(w); got != want || ok != wantOk {
		t.Errorf("Ticks of %+v, %+v: got %d, %v, want %d, %v", u, w, got, ok, want, wantOk)
	}
}

// codes returns codes of options.
func codes() []uint16 {
	return []uint16{1, 2, 3, 8, 9, 10, 13, 14, 15, 255, 256, 0x0102, 0x0900, 2988, 32767, 32768, 65535}
}

// lists returns lists of options: of all codes, with values of all short lengths and some long ones, alone and together.
func lists() [][]Opt {
	s := steps(1)
	var l [][]Opt
	for i, code := range codes() {
		for n := range 14 {
			l = append(l, []Opt{{code, s.bytes(n)}}, []Opt{{code, s.bytes(n)}, {codes()[n], s.bytes(i)}})
		}
	}
	for _, n := range []int{255, 256, 257, 1000, 4096, 32767, 65531, 65532, 65533, 65534, 65535} {
		l = append(l, []Opt{{2, s.bytes(n)}}, []Opt{{1, s.bytes(n)}, {1, nil}, {14, s.bytes(n)}, {3, []byte{7}}})
	}
	for many := range 30 {
		var next []Opt
		for range many {
			next = append(next, Opt{uint16(s.next()%65535 + 1), s.bytes(int(s.next() % 10))})
		}
		l = append(l, next)
	}
	// Values in which ends of options and codes are, where a wrong reader would look for them, and one code several times.
	return append(l, []Opt{{1, make([]byte, 4)}, {2, make([]byte, 9)}, {3, []byte{0, 9, 0, 1, 9, 0, 0, 0}}}, []Opt{{5, []byte("a")}, {5, []byte("bb")}, {5, nil}, {5, []byte("a")}})
}

// exps returns all Exp, with Two and without, that are valid or not.
func exps() []Unit {
	var l []Unit
	for exp := range 256 {
		l = append(l, Unit{false, uint8(exp), 0}, Unit{true, uint8(exp), 0})
	}
	return l
}

// aheads returns the seconds that units are ahead: edges and others of all lengths.
func aheads() []int64 {
	l := []int64{0, 1, -1, 3600, -5, 255, 256, 0x0102030405060708, 1<<31 - 1, 1 << 31, -1 << 31, 1<<32 - 1, 1 << 32, -1 << 32, -2208988801, -2208988800, -2208988799, math.MaxInt64 - 2208988801, math.MaxInt64 - 2208988800, math.MaxInt64 - 2208988799, math.MaxInt64 - 1, math.MaxInt64, math.MinInt64, math.MinInt64 + 1, math.MinInt64 + 2208988800}
	s := steps(2)
	for n := range 63 {
		l = append(l, int64(s.next())>>n)
	}
	return l
}

// units returns valid units: all resolutions that there are, and with each of them some seconds ahead.
func units() []Unit {
	var l []Unit
	for i, u := range exps() {
		if den(u).Sign() == 0 {
			continue
		}
		for _, ahead := range []int64{0, 1, -1, -2208988800, -2208988801, math.MaxInt64, math.MaxInt64 - 2208988800, math.MinInt64, aheads()[i%len(aheads())]} {
			l = append(l, Unit{u.Two, u.Exp, ahead})
		}
	}
	return l
}

// ticks returns numbers of ticks: edges of them, around whole seconds, and others of all lengths.
func ticks(u Unit) []uint64 {
	d := den(u).Uint64()
	l := []uint64{0, 1, 2, 3, 999, 1000, 1500000, 1<<32 - 1, 1 << 32, 1<<32 + 1, 1<<63 - 1, 1 << 63, 1<<63 + 1, math.MaxUint64 - 1, math.MaxUint64}
	for _, n := range []uint64{d / 3, d / 2, d, 2 * d, 5 * d, math.MaxUint64 / d * d, math.MaxUint64 / d * (d - 1)} {
		l = append(l, n-1, n, n+1)
	}
	s := steps(3)
	for n := range 64 {
		l = append(l, s.next()>>n)
	}
	return l
}

// P10.1 to P10.4: the rows of the chapter's table.
func TestExamples(t *testing.T) {
	b, no := Put([]Opt{{9, []byte{9}}}, true)
	if !bytes.Equal(b, unhex("0900 0100 09000000 00000000")) || no != api.OK {
		t.Errorf("Put: % x, %d", b, no)
	}
	l, no := Parse(b, true)
	if no != api.OK {
		t.Errorf("Parse: %d", no)
	}
	if u, no := Units(l, true); u != (Unit{Exp: 9}) || u.Den() != 1000000000 || no != api.OK {
		t.Errorf("Units: %+v, %d, %d", u, u.Den(), no)
	}
	if u, no := Units(nil, true); u != (Unit{Exp: 6}) || u.Den() != 1000000 || no != api.OK {
		t.Errorf("Units of no options: %+v, %d, %d", u, u.Den(), no)
	}
	if got := (Unit{Exp: 3}).At(1); got != (api.Wide{Lo: 2208988800<<32 + 4294968}) {
		t.Errorf("At of one tick of 10^3: %+v", got)
	}
	if got := (Unit{Two: true, Exp: 1}).At(1); got != (api.Wide{Lo: 2208988800<<32 + 1<<31}) {
		t.Errorf("At of one tick of 2^1: %+v", got)
	}
}

// P10.3: the constants are those of the chapter.
func TestConstants(t *testing.T) {
	if Resol != 9 || Shift != 14 {
		t.Errorf("%d, %d", Resol, Shift)
	}
}

// P10.1: the options up to their end, or to the end of the bytes, each in memory of its own.
func TestParse(t *testing.T) {
	for _, little := range both {
		for _, l := range lists() {
			for _, end := range [][]byte{nil, make([]byte, 4)} {
				b := append(written(l, little), end...)
				got, no := Parse(b, little)
				if !equal(got, l) || no != api.OK {
					t.Errorf("Parse(%s, %v): got %s, %d, want %s", short(b), little, shorts(got), no, shorts(l))
				}
				for i, o := range got {
					whole := o.Value[:cap(o.Value)]
					for j := range whole {
						whole[j] ^= 0xff
					}
					if !equal(got[i+1:], l[min(i+1, len(l)):]) || !bytes.Equal(b, append(written(l, little), end...)) {
						t.Fatalf("the value of option %d of %s shares memory", i, shorts(l))
					}
				}
				checkParse(t, b, !little)
			}
		}
	}
}

// P10.1: no bytes, and an end alone, are no options.
func TestParseNone(t *testing.T) {
	for _, little := range both {
		for _, b := range [][]byte{nil, {}, make([]byte, 4), make([]byte, 5), make([]byte, 400)} {
			if got, no := Parse(b, little); len(got) != 0 || no != api.OK {
				t.Errorf("Parse(% x, %v): %s, %d", b, little, shorts(got), no)
			}
		}
	}
}

// P10.1: whatever is behind the end of options does not matter.
func TestParseBehind(t *testing.T) {
	s := steps(4)
	for _, little := range both {
		for _, l := range lists() {
			b := append(written(l, little), 0, 0, 0, 0)
			for _, rest := range [][]byte{{0}, {1}, {1, 2, 3}, {0, 0, 0, 1}, {0, 0, 1, 0}, {0, 1, 255, 255}, {1, 0, 4, 0, 1, 2, 3, 4}, make([]byte, 8), bytes.Repeat([]byte{255}, 9), s.bytes(20)} {
				got, no := Parse(append(slices.Clone(b), rest...), little)
				if !equal(got, l) || no != api.OK {
					t.Errorf("Parse(%s, %v), and % x: %s, %d", short(b), little, rest, shorts(got), no)
				}
			}
		}
	}
}

// P10.1: options that are cut off at every byte: those before are options as long as nothing is missing, whatever is behind the bytes up to the capacity.
func TestParseCut(t *testing.T) {
	for _, little := range both {
		for _, l := range lists() {
			b := append(written(l, little), 0, 0, 0, 0)
			if len(b) > 500 {
				continue
			}
			whole := map[int]int{0: 0, len(b): len(l)}
			for i := range l {
				whole[len(written(l[:i+1], little))] = i + 1
			}
			for n := range len(b) + 1 {
				many, ok := whole[n]
				if !ok {
					checkNone(t, b[:n], little)
					continue
				}
				if got, no := Parse(b[:n], little); !equal(got, l[:many]) || no != api.OK {
					t.Errorf("Parse(% x, %v): %s, %d", b[:n], little, shorts(got), no)
				}
			}
		}
	}
}

// P10.1: long options that are cut off around their bounds, padding included.
func TestParseCutLong(t *testing.T) {
	for _, little := range both {
		for _, n := range []int{65532, 65533, 65534, 65535} {
			b := padded(Opt{7, make([]byte, n)}, little, 9)
			for i := 1; i < 8; i++ {
				checkNone(t, b[:len(b)-i], little)
			}
			checkNone(t, b[:4], little)
			checkParse(t, b, little)
			checkNone(t, append(b, 1), little)
		}
	}
}

// P10.1: options of which any byte is spoilt, by any value, whole and cut off.
func TestParseSpoilt(t *testing.T) {
	for _, little := range both {
		for _, l := range [][]Opt{{{9, []byte{6}}}, {{1, []byte("note")}, {2, []byte("x")}}, {{14, make([]byte, 8)}, {9, []byte{0x94}}}, {{1, nil}, {2, []byte("ab")}, {3, nil}}} {
			whole := append(written(l, little), 0, 0, 0, 0)
			for i := range whole {
				for c := range 256 {
					b := append(slices.Clone(whole), 0, 1, 0, 2)
					b[i] = byte(c)
					checkParse(t, b, little)
					checkParse(t, b[:len(whole)], little)
					checkParse(t, b[:len(whole)-4], little)
					checkParse(t, b[:len(b)-1], little)
				}
			}
		}
	}
}

// P10.1: an end of options with a length is none, wherever it is, whether its value is there or not.
func TestParseEnd(t *testing.T) {
	for _, little := range both {
		for _, before := range [][]Opt{nil, {{1, []byte("a")}}, {{3, nil}, {4, []byte("abcd")}}} {
			for _, n := range []int{1, 2, 3, 4, 5, 8, 255, 256, 65535} {
				b := append(written(before, little), padded(Opt{0, make([]byte, n)}, little, 0)...)
				checkNone(t, b, little)
				checkNone(t, b[:len(b)-1], little)
				checkNone(t, append(b, 0, 0, 0, 0), little)
				checkNone(t, b[:len(written(before, little))+4], little)
			}
		}
	}
}

// P10.1: padding of any value.
func TestParsePadding(t *testing.T) {
	for _, little := range both {
		for n := range 9 {
			for c := range 256 {
				o := Opt{uint16(c + 1), bytes.Repeat([]byte{byte(c + 1)}, n)}
				b := slices.Concat(padded(o, little, byte(c)), padded(o, little, ^byte(c)), make([]byte, 4))
				if got, no := Parse(b, little); !equal(got, []Opt{o, o}) || no != api.OK {
					t.Errorf("Parse(% x, %v): %s, %d", b, little, shorts(got), no)
				}
			}
		}
	}
}

// P10.2: the bytes of options and their end, in new memory; none of an empty list.
func TestPut(t *testing.T) {
	for _, little := range both {
		for _, l := range lists() {
			var want []byte
			if len(l) > 0 {
				want = append(written(l, little), 0, 0, 0, 0)
			}
			own := cloned(l)
			got, no := Put(l, little)
			if !bytes.Equal(got, want) || no != api.OK {
				t.Errorf("Put(%s, %v): got %s, %d, want %s", shorts(l), little, short(got), no, short(want))
			}
			clear(got[:cap(got)])
			if again, _ := Put(l, little); !bytes.Equal(again, want) || !equal(l, own) {
				t.Errorf("Put(%s, %v), a second time: %s", shorts(l), little, short(again))
			}
		}
		for _, l := range [][]Opt{nil, {}} {
			if got, no := Put(l, little); len(got) != 0 || no != api.OK {
				t.Errorf("Put of no options: % x, %d", got, no)
			}
		}
	}
}

// P10.2: the first option that is not valid tells the error, and of its errors that of the code comes first.
func TestPutWrong(t *testing.T) {
	long := make([]byte, 65537)
	good, end, more := Opt{1, long[:65535]}, Opt{0, nil}, Opt{2, long[:65536]}
	for _, little := range both {
		for _, c := range []struct {
			l  []Opt
			no api.Errno
		}{
			{[]Opt{end}, api.ErrArg},
			{[]Opt{{0, []byte{1}}}, api.ErrArg},
			{[]Opt{{0, long[:65535]}}, api.ErrArg},
			{[]Opt{{0, long[:65536]}}, api.ErrArg},
			{[]Opt{more}, api.ErrLong},
			{[]Opt{{65535, long}}, api.ErrLong},
			{[]Opt{{1, make([]byte, 1<<20)}}, api.ErrLong},
			{[]Opt{{1, make([]byte, 1<<16+1<<8)}}, api.ErrLong},
			{[]Opt{end, more}, api.ErrArg},
			{[]Opt{more, end}, api.ErrLong},
			{[]Opt{good, end}, api.ErrArg},
			{[]Opt{good, more}, api.ErrLong},
			{[]Opt{good, good, end, more}, api.ErrArg},
			{[]Opt{good, more, end, good}, api.ErrLong},
			{[]Opt{end, good}, api.ErrArg},
			{[]Opt{good}, api.OK},
		} {
			got, no := Put(c.l, little)
			if no != c.no || no != api.OK && len(got) != 0 {
				t.Errorf("Put(%s, %v): %s, %d, want %d", shorts(c.l), little, short(got), no, c.no)
			}
		}
	}
}

// P10.2: the value of the first option of a code, in new memory.
func TestFind(t *testing.T) {
	for _, l := range append(lists(), []Opt{{0, []byte("end")}, {1, nil}, {0, nil}}) {
		own := cloned(l)
		for _, code := range append(codes(), 0, 5, 7, 4096) {
			var want []byte
			i := slices.IndexFunc(l, func(o Opt) bool { return o.Code == code })
			if i >= 0 {
				want = l[i].Value
			}
			got, ok := Find(l, code)
			if !bytes.Equal(got, want) || ok != (i >= 0) {
				t.Errorf("Find(%s, %d): got %s, %v, want %s", shorts(l), code, short(got), ok, short(want))
			}
			whole := got[:cap(got)]
			for j := range whole {
				whole[j] ^= 0xff
			}
			if !equal(l, own) {
				t.Fatalf("Find(%s, %d) shares memory", shorts(l), code)
			}
		}
	}
	if got, ok := Find(nil, 0); len(got) != 0 || ok {
		t.Errorf("Find of no options: % x, %v", got, ok)
	}
	l := []Opt{{5, nil}, {5, []byte("b")}, {6, []byte("c")}, {6, []byte("d")}}
	for _, c := range []struct {
		code  uint16
		value string
		ok    bool
	}{{5, "", true}, {6, "c", true}, {7, "", false}, {0x0500, "", false}} {
		if got, ok := Find(l, c.code); string(got) != c.value || ok != c.ok {
			t.Errorf("Find of %d: %q, %v", c.code, got, ok)
		}
	}
}

// P10.3: each value of Resol, alone and with Shift.
func TestUnitsResol(t *testing.T) {
	for _, little := range both {
		for c := range 256 {
			l := []Opt{{2, []byte("name")}, {9, []byte{byte(c)}}}
			want, wantNo := Unit{c >= 128, byte(c % 128), 0}, api.ErrOther
			if c <= 12 || c >= 128 && c <= 168 {
				wantNo = api.OK
			} else {
				want = Unit{}
			}
			if got, no := Units(l, little); got != want || no != wantNo {
				t.Errorf("Units of Resol %d: got %+v, %d, want %+v, %d", c, got, no, want, wantNo)
			}
			checkUnits(t, append(l, Opt{14, []byte("abcdefgh")}), little)
			checkUnits(t, append(l, Opt{14, []byte("abcdefg")}), little)
		}
	}
}

// P10.3: each value of Shift, in the byte order that is asked for, with Resol and without.
func TestUnitsShift(t *testing.T) {
	for _, little := range both {
		for _, ahead := range aheads() {
			shift := Opt{14, order(little).AppendUint64(nil, uint64(ahead))}
			if got, no := Units([]Opt{shift}, little); got != (Unit{false, 6, ahead}) || no != api.OK {
				t.Errorf("Units of Shift %d, %v: %+v, %d", ahead, little, got, no)
			}
			if got, no := Units([]Opt{shift, {9, []byte{0xa0}}}, little); got != (Unit{true, 32, ahead}) || no != api.OK {
				t.Errorf("Units of Shift %d, %v, and Resol: %+v, %d", ahead, little, got, no)
			}
			checkUnits(t, []Opt{shift}, !little)
			checkUnits(t, []Opt{shift, {9, []byte{13}}}, little)
		}
	}
}

// P10.3: values of all lengths but their own are none.
func TestUnitsLengths(t *testing.T) {
	resol, shift := Opt{9, []byte{6}}, Opt{14, make([]byte, 8)}
	for _, little := range both {
		for _, n := range []int{0, 1, 2, 3, 4, 7, 8, 9, 12, 16, 255, 65535, 65536} {
			for _, l := range [][]Opt{{{9, make([]byte, n)}}, {{9, make([]byte, n)}, shift}, {{14, make([]byte, n)}}, {resol, {14, make([]byte, n)}}, {{14, make([]byte, n)}, {9, make([]byte, n)}}} {
				checkUnits(t, l, little)
			}
			want := map[bool]api.Errno{true: api.OK, false: api.ErrOther}
			if u, no := Units([]Opt{{9, make([]byte, n)}, shift}, little); no != want[n == 1] || u != (Unit{}) {
				t.Errorf("Units of Resol of %d bytes: %+v, %d", n, u, no)
			}
			if u, no := Units([]Opt{resol, {14, make([]byte, n)}}, little); no != want[n == 8] || n != 8 && u != (Unit{}) {
				t.Errorf("Units of Shift of %d bytes: %+v, %d", n, u, no)
			}
		}
	}
}

// P10.3: of several options of one code only the first one counts, be it wrong or not; options of other codes never do.
func TestUnitsSeveral(t *testing.T) {
	good, other, wrong, long := Opt{9, []byte{9}}, Opt{9, []byte{0x81}}, Opt{9, []byte{127}}, Opt{9, []byte{9, 0}}
	shift := Opt{14, []byte{0, 1, 2, 3, 4, 5, 6, 7}}
	late, cut := Opt{14, []byte{7, 6, 5, 4, 3, 2, 1, 0}}, Opt{14, []byte{1, 2, 3, 4}}
	strange := []Opt{{0, []byte{12}}, {1, []byte{1}}, {8, nil}, {10, []byte{200}}, {13, []byte("abcd")}, {15, []byte("abcdefghi")}, {0x0900, []byte{7}}, {0x0e00, make([]byte, 8)}}
	for _, little := range both {
		for _, l := range [][]Opt{{good, other}, {other, good}, {good, wrong}, {wrong, good}, {good, long}, {long, good}, {shift, late}, {late, shift}, {shift, cut}, {cut, shift}, {good, shift, other, late}, {shift, other, good, late}, strange} {
			checkUnits(t, l, little)
			checkUnits(t, slices.Concat(strange, l, strange), little)
		}
		for _, c := range []struct {
			l   []Opt
			exp uint8
			no  api.Errno
		}{{[]Opt{good, wrong, long}, 9, api.OK}, {[]Opt{wrong, good}, 0, api.ErrOther}, {[]Opt{long, good}, 0, api.ErrOther}, {strange, 6, api.OK}, {[]Opt{good, cut}, 0, api.ErrOther}} {
			if got, no := Units(c.l, little); got != (Unit{Exp: c.exp}) || no != c.no {
				t.Errorf("Units(%s, %v): %+v, %d", shorts(c.l), little, got, no)
			}
		}
	}
}

// P10.3: the options of each unit, in new memory, and none of those that are not valid.
func TestOpts(t *testing.T) {
	for _, little := range both {
		for _, e := range exps() {
			for _, ahead := range aheads() {
				u := Unit{e.Two, e.Exp, ahead}
				want := []Opt{{9, []byte{e.Exp}}}
				if e.Two {
					want[0].Value[0] += 128
				}
				if ahead != 0 {
					want = append(want, Opt{14, order(little).AppendUint64(nil, uint64(ahead))})
				}
				if den(u).Sign() == 0 {
					want = nil
				}
				got := u.Opts(little)
				if !equal(got, want) {
					t.Fatalf("Opts of %+v, %v: got %s, want %s", u, little, shorts(got), shorts(want))
				}
				for _, o := range got {
					clear(o.Value[:cap(o.Value)])
				}
				if again := u.Opts(little); !equal(again, want) {
					t.Fatalf("Opts of %+v, %v, a second time: %s", u, little, shorts(again))
				}
			}
		}
	}
}

// P10.3: how many ticks a second has, by all Exp, whatever Ahead is.
func TestDen(t *testing.T) {
	for _, u := range exps() {
		for _, ahead := range []int64{0, 1, -1, math.MaxInt64, math.MinInt64} {
			u.Ahead = ahead
			if got := u.Den(); got != den(u).Uint64() {
				t.Errorf("Den of %+v: got %d, want %d", u, got, den(u))
			}
		}
	}
	for _, c := range []struct {
		u Unit
		n uint64
	}{{Unit{}, 1}, {Unit{Exp: 12}, 1000000000000}, {Unit{Exp: 13}, 0}, {Unit{Two: true}, 1}, {Unit{Two: true, Exp: 40}, 1099511627776}, {Unit{Two: true, Exp: 41}, 0}, {Unit{Two: true, Exp: 64}, 0}, {Unit{Exp: 255}, 0}, {Unit{Two: true, Exp: 255}, 0}} {
		if got := c.u.Den(); got != c.n {
			t.Errorf("Den of %+v: got %d, want %d", c.u, got, c.n)
		}
	}
}

// P10.4: the moments of ticks: their whole seconds, and their units rounded up, but never to the next second.
func TestAt(t *testing.T) {
	clipped := 0
	for _, u := range units() {
		for _, n := range ticks(u) {
			want, whole := at(u, n)
			if got := u.At(n); got != want {
				t.Fatalf("At of %+v, %d: got %+v, want %+v", u, n, got, want)
			}
			if !whole {
				clipped++
			}
		}
	}
	if clipped == 0 {
		t.Error("no ticks were rounded up to a second")
	}
}

// P10.4: moments of units whose edges are known.
func TestAtBounds(t *testing.T) {
	second := func(n int64) *big.Int { return new(big.Int).Lsh(big.NewInt(n), 32) }
	const after1900 = 2208988800
	most := new(big.Int).Sub(new(big.Int).Lsh(big.NewInt(1), 64), big.NewInt(1))
	for _, c := range []struct {
		u     Unit
		ticks uint64
		want  *big.Int
	}{
		{Unit{}, 0, second(after1900)},
		{Unit{Exp: 6, Ahead: -after1900}, 0, new(big.Int)},
		{Unit{Exp: 6, Ahead: -after1900 - 1}, 0, second(-1)},
		{Unit{Exp: 6, Ahead: -after1900 - 1}, 500000, big.NewInt(-1 << 31)},
		{Unit{Exp: 6, Ahead: 3600}, 1500000, new(big.Int).Add(second(after1900+3601), big.NewInt(1<<31))},
		{Unit{Exp: 12}, 999999999999, new(big.Int).Add(second(after1900), big.NewInt(1<<32-1))},
		{Unit{Two: true, Exp: 40}, 1<<40 - 1, new(big.Int).Add(second(after1900), big.NewInt(1<<32-1))},
		{Unit{Two: true, Exp: 40}, 1, new(big.Int).Add(second(after1900), big.NewInt(1))},
		{Unit{Two: true, Exp: 40}, 256, new(big.Int).Add(second(after1900), big.NewInt(1))},
		{Unit{Two: true, Exp: 40}, 257, new(big.Int).Add(second(after1900), big.NewInt(2))},
		{Unit{}, math.MaxUint64, new(big.Int).Lsh(new(big.Int).Add(most, big.NewInt(after1900)), 32)},
		{Unit{Two: true, Ahead: math.MaxInt64}, math.MaxUint64, new(big.Int).Lsh(new(big.Int).Add(most, new(big.Int).Add(big.NewInt(math.MaxInt64), big.NewInt(after1900))), 32)},
		{Unit{Ahead: math.MinInt64}, math.MaxUint64, new(big.Int).Add(second(math.MaxInt64), second(after1900))},
		{Unit{Ahead: math.MinInt64}, 0, second(after1900 + math.MinInt64)},
		{Unit{Ahead: math.MinInt64}, 1<<63 - after1900, new(big.Int)},
	} {
		if got := c.u.At(c.ticks); exact(got).Cmp(c.want) != 0 {
			t.Errorf("At of %+v, %d: got %v, want %v", c.u, c.ticks, exact(got), c.want)
		}
	}
}

// P10.3, P10.4: units that are not valid have no options, no moments, and no ticks.
func TestInvalid(t *testing.T) {
	for _, u := range exps() {
		if den(u).Sign() > 0 {
			continue
		}
		for _, ahead := range []int64{0, -1, 3600, math.MinInt64, math.MaxInt64} {
			u.Ahead = ahead
			for _, n := range []uint64{0, 1, 1 << 40, math.MaxUint64} {
				if got := u.At(n); got != (api.Wide{}) {
					t.Errorf("At of %+v, %d: %+v", u, n, got)
				}
			}
			for _, w := range []api.Wide{{}, {Lo: 2208988800 << 32}, made(begin(u)), {Hi: math.MaxInt64, Lo: math.MaxUint64}, {Hi: math.MinInt64}} {
				if got, ok := u.Ticks(w); got != 0 || ok {
					t.Errorf("Ticks of %+v, %+v: %d, %v", u, w, got, ok)
				}
			}
			if got := u.Opts(true); len(got) != 0 {
				t.Errorf("Opts of %+v: %s", u, shorts(got))
			}
		}
	}
}

// moments returns moments around the bounds of u, around those of wide numbers, and others of all lengths.
func moments(u Unit) []api.Wide {
	l := []api.Wide{{}, {Lo: 1}, {Hi: -1, Lo: math.MaxUint64}, {Hi: math.MinInt64}, {Hi: math.MinInt64, Lo: 1}, {Hi: math.MinInt64, Lo: math.MaxUint64}, {Hi: math.MaxInt64}, {Hi: math.MaxInt64, Lo: math.MaxUint64}, {Hi: 1 << 31}, {Hi: -1 << 31}, {Hi: 1 << 32}, {Hi: -1 << 32}, {Hi: 1<<33 - 1}}
	d := den(u)
	power := new(big.Int).Lsh(big.NewInt(1), 64)
	// The first moment that has 2^64 ticks.
	full := new(big.Int).Lsh(power, 32)
	full.Add(full, d).Sub(full, big.NewInt(1)).Quo(full, d)
	for _, x := range []*big.Int{new(big.Int), full, new(big.Int).Lsh(power, 32), new(big.Int).Lsh(power, 33)} {
		for _, more := range []int64{0, 1, 2, 255, 256, 4295, 1 << 31, 1<<32 - 1, 1 << 32, 1 << 40} {
			l = append(l, made(new(big.Int).Add(new(big.Int).Add(begin(u), x), big.NewInt(more))), made(new(big.Int).Sub(new(big.Int).Add(begin(u), x), big.NewInt(more))))
		}
	}
	s := steps(5)
	for n := range uint(128) {
		l = append(l, made(new(big.Int).Rsh(exact(api.Wide{Hi: int64(s.next()), Lo: s.next()}), n)))
		x := new(big.Int).Rsh(full, n)
		l = append(l, made(x.Add(x, begin(u))))
	}
	return l
}

// P10.4: the ticks of moments, rounded down, and none of those before the unit's beginning, or too long after it.
func TestTicks(t *testing.T) {
	for _, u := range units() {
		for _, w := range moments(u) {
			checkTicks(t, u, w)
		}
	}
}

// P10.4: the first and the last moment that has ticks.
func TestTicksBounds(t *testing.T) {
	for _, u := range units() {
		first := begin(u)
		if n, ok := u.Ticks(made(first)); n != 0 || !ok {
			t.Errorf("Ticks of the first moment of %+v: %d, %v", u, n, ok)
		}
		if n, ok := u.Ticks(made(new(big.Int).Sub(first, big.NewInt(1)))); n != 0 || ok {
			t.Errorf("Ticks of the moment before %+v: %d, %v", u, n, ok)
		}
		full := new(big.Int).Lsh(big.NewInt(1), 96)
		full.Add(full, den(u)).Sub(full, big.NewInt(1)).Quo(full, den(u))
		full.Add(full, first)
		if n, ok := u.Ticks(made(full)); n != 0 || ok {
			t.Errorf("Ticks of the first moment of %+v with 2^64 ticks: %d, %v", u, n, ok)
		}
		last := made(full.Sub(full, big.NewInt(1)))
		want, _ := count(u, last)
		if n, ok := u.Ticks(last); n != want || !ok {
			t.Errorf("Ticks of the last moment of %+v: got %d, %v, want %d", u, n, ok, want)
		}
		if den(u).Cmp(big.NewInt(1<<32)) <= 0 && want != math.MaxUint64 {
			t.Errorf("%+v: the last moment has %d ticks", u, want)
		}
	}
}

// P10.5: Parse of Put returns the options, and Put of Parse the bytes.
func TestRoundTrip(t *testing.T) {
	for _, little := range both {
		for _, l := range lists() {
			b, no := Put(l, little)
			if no != api.OK || len(b)%4 != 0 {
				t.Errorf("Put(%s, %v): %s, %d", shorts(l), little, short(b), no)
			}
			got, no := Parse(b, little)
			if !equal(got, l) || no != api.OK {
				t.Errorf("Parse of Put(%s, %v): %s, %d", shorts(l), little, shorts(got), no)
			}
			if again, no := Put(got, little); !bytes.Equal(again, b) || no != api.OK {
				t.Errorf("Put of Parse(%s, %v): %s, %d", short(b), little, short(again), no)
			}
		}
	}
}

// P10.5: Units of Opts returns the unit, also through bytes, and among other options.
func TestRoundTripUnits(t *testing.T) {
	for _, little := range both {
		for _, e := range exps() {
			if den(e).Sign() == 0 {
				continue
			}
			for _, ahead := range aheads() {
				u := Unit{e.Two, e.Exp, ahead}
				if got, no := Units(u.Opts(little), little); got != u || no != api.OK {
					t.Errorf("Units of Opts of %+v, %v: %+v, %d", u, little, got, no)
				}
				b, _ := Put(slices.Concat([]Opt{{2, []byte("eth0")}}, u.Opts(little), []Opt{{11, []byte("a")}}), little)
				l, _ := Parse(b, little)
				if got, no := Units(l, little); got != u || no != api.OK {
					t.Errorf("Units of the bytes of Opts of %+v, %v: %+v, %d", u, little, got, no)
				}
			}
		}
	}
}

// P10.5: Ticks of At returns the ticks up to 2^32 of them in a second, and At of Ticks the moment from 2^32 of them on.
func TestRoundTripTicks(t *testing.T) {
	coarse, fine := 0, 0
	for _, u := range units() {
		if u.Den() <= 1<<32 {
			for _, n := range ticks(u) {
				coarse++
				if got, ok := u.Ticks(u.At(n)); got != n || !ok {
					t.Errorf("Ticks of At of %+v, %d: %d, %v", u, n, got, ok)
				}
			}
		}
		if u.Den() >= 1<<32 {
			for _, w := range moments(u) {
				n, ok := u.Ticks(w)
				if !ok {
					continue
				}
				fine++
				if got := u.At(n); got != w {
					t.Errorf("At of Ticks of %+v, %+v: %+v", u, w, got)
				}
			}
		}
	}
	if coarse == 0 || fine == 0 {
		t.Errorf("%d coarse, %d fine", coarse, fine)
	}
}

// P10.1 to P10.3: no call changes its arguments, nor reads or writes behind them.
func TestUnchanged(t *testing.T) {
	const behind = "\x00\x09\x00\x01 behind"
	for _, little := range both {
		for _, l := range lists() {
			b := written(l, little)
			own := spare(b, behind)
			got, no := Parse(own, little)
			if !unchanged(own, b, behind) || !equal(got, l) || no != api.OK {
				t.Errorf("Parse(%s, %v): %s, %d", short(b), little, shorts(got), no)
			}
			spared := cloned(l)
			for i, o := range spared {
				spared[i].Value = spare(o.Value, behind)
			}
			extra := append(slices.Clone(spared), Opt{Resol, []byte{0xff}})[:len(spared)]
			if got, no := Put(extra, little); no != api.OK || len(l) > 0 && !bytes.Equal(got, append(b, 0, 0, 0, 0)) {
				t.Errorf("Put(%s, %v): %s, %d", shorts(l), little, short(got), no)
			}
			Find(extra, Resol)
			checkUnits(t, extra, little)
			for i, o := range extra {
				if o.Code != l[i].Code || !unchanged(o.Value, l[i].Value, behind) {
					t.Errorf("option %d of %s is changed to %s", i, shorts(l), short(o.Value))
				}
			}
			if last := extra[:len(l)+1][len(l)]; last.Code != Resol || !bytes.Equal(last.Value, []byte{0xff}) {
				t.Errorf("the option behind %s is changed to %+v", shorts(l), last)
			}
		}
	}
}

// P10.1 to P10.5: bytes that look like chance, with codes and lengths that may be.
func TestChance(t *testing.T) {
	s := steps(6)
	for i := range 40000 {
		b := s.bytes(int(s.next() % 48))
		little := i%2 == 0
		for at := 0; at+4 <= len(b) && i%4 < 3; at += 4 {
			if s.next()%2 == 0 {
				copy(b[at:], order(little).AppendUint16(nil, uint16(s.next()%16)))
				copy(b[at+2:], order(little).AppendUint16(nil, uint16(s.next()%10)))
			}
		}
		checkParse(t, b, little)
		l, no := Parse(b, little)
		checkUnits(t, l, little)
		if no != api.OK {
			continue
		}
		again, _ := Put(l, little)
		if got, no := Parse(again, little); !equal(got, l) || no != api.OK {
			t.Errorf("Parse of Put(%s, %v): %s, %d", shorts(l), little, shorts(got), no)
		}
	}
	for range 40000 {
		u := Unit{s.next()%2 == 0, uint8(s.next() % 48), int64(s.next()) >> (s.next() % 64)}
		n := s.next() >> (s.next() % 64)
		if want, _ := at(u, n); u.At(n) != want {
			t.Errorf("At of %+v, %d: got %+v, want %+v", u, n, u.At(n), want)
		}
		checkTicks(t, u, api.Wide{Hi: int64(s.next()) >> (s.next() % 64), Lo: s.next()})
		x := new(big.Int).Rsh(exact(api.Wide{Hi: int64(s.next()), Lo: s.next()}), uint(s.next()%128))
		checkTicks(t, u, made(x.Add(x, begin(u))))
	}
}
