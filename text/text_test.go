package text

import (
	"bytes"
	"encoding/hex"
	"math"
	"math/big"
	"slices"
	"strings"
	"testing"

	"horologe/api"
)

var low, high = power(-1, 127), plus(power(1, 127), -1)

// power returns sign * 2^n.
func power(sign int64, n uint) *big.Int {
	return new(big.Int).Lsh(big.NewInt(sign), n)
}

// ten returns sign * 10^n.
func ten(sign, n int64) *big.Int {
	x := new(big.Int).Exp(big.NewInt(10), big.NewInt(n), nil)
	return x.Mul(x, big.NewInt(sign))
}

func plus(x *big.Int, n int64) *big.Int {
	return new(big.Int).Add(x, big.NewInt(n))
}

func within(x *big.Int) bool {
	return x.Cmp(low) >= 0 && x.Cmp(high) <= 0
}

// made returns the wide number x, which is within the bounds.
func made(x *big.Int) api.Wide {
	// big.Int's Rsh rounds down.
	lo := new(big.Int).And(x, new(big.Int).SetUint64(math.MaxUint64))
	return api.Wide{Hi: new(big.Int).Rsh(x, 64).Int64(), Lo: lo.Uint64()}
}

// steps is a fixed sequence of numbers that look like chance.
type steps uint64

func (s *steps) next() uint64 {
	*s += 0x9e3779b97f4a7c15
	x := uint64(*s)
	x = (x ^ x>>30) * 0xbf58476d1ce4e5b9
	x = (x ^ x>>27) * 0x94d049bb133111eb
	return x ^ x>>31
}

// integers returns numbers of either sign: the small ones, those around the powers of 2 and of 10, beyond the wide ones too, and others of all lengths.
func integers() []*big.Int {
	var l []*big.Int
	around := func(x *big.Int) {
		for d := int64(-2); d <= 2; d++ {
			l = append(l, plus(x, d))
		}
	}
	for n := int64(-120); n <= 120; n++ {
		l = append(l, big.NewInt(n))
	}
	s := steps(1)
	for _, sign := range []int64{1, -1} {
		for n := range uint(131) {
			around(power(sign, n))
			x := new(big.Int).SetUint64(s.next())
			x = x.Lsh(x, 66).Add(x, new(big.Int).SetUint64(s.next()))
			l = append(l, x.Rsh(x, n).Mul(x, big.NewInt(sign)))
		}
		for n := range int64(42) {
			around(ten(sign, n))
		}
	}
	return l
}

// strange returns strings that are those of no number, made of s, which is one.
func strange(s string) []string {
	l := []string{"+" + s, " " + s, s + " ", "-0" + s, "--" + s, s + "-", s + ".", s + ".0", s + "e0", s + "a", "0x" + s, s + "\n", s + "\x00", "\x00" + s, s + "\xff", "\xb1" + s, s + "_", s + "٣", s + "０", s + "é"}
	if minus := strings.HasPrefix(s, "-"); minus {
		l = append(l, "-0"+s[1:], "- "+s[1:], "-+"+s[1:], "\u2212"+s[1:])
	} else {
		l = append(l, "0"+s, "00"+s, strings.Repeat("0", 40)+s)
	}
	for _, c := range []string{" ", "_", ",", "-", "f", "G", "/", ":", "\x80", "\xff", "é"} {
		if len(s) > 2 {
			l = append(l, s[:2]+c+s[2:], s[:2]+c+s[3:])
		}
	}
	return l
}

// wrong is strings that are those of no number of any kind.
var wrong = []string{
	"", "-", "+", "--", "-0", "+0", "00", "000", "-00", "+1", "+-1", "-+1", "--1", "1-", "01", "05", "-01", "-05", " ", " 1", "1 ", "1 2", "- 1", "\t1", "1\n", "1\x00", "\x00", "0 ",
	"a", "f", "1a", "a1", "A", "1A", "0x1", "0b1", "0o7", "1e3", "1.", ".5", "1.5", "1,000", "1_000", "_1", "1_", "/", ":", "1/", "1:", "g", "`", "Inf", "NaN",
	"\x80", "1\x80", "\xff", "\xb1", "1\xb1", "é", "1é", "٣", "１", "1１", "\u2212\x31", "\xef\xbc\x91", "\xe2\x31",
}

// long is strings of many digits.
var long = []string{
	strings.Repeat("9", 39), strings.Repeat("9", 40), strings.Repeat("9", 41), strings.Repeat("1", 40), "-" + strings.Repeat("9", 39), "-" + strings.Repeat("1", 40),
	strings.Repeat("9", 1000), "-" + strings.Repeat("9", 1000), strings.Repeat("0", 39), strings.Repeat("0", 40), strings.Repeat("0", 39) + "1", "-" + strings.Repeat("0", 39),
	"1" + strings.Repeat("0", 39), "1" + strings.Repeat("0", 1000), strings.Repeat("0", 100000), strings.Repeat("7", 100000), "-" + strings.Repeat("7", 100000), strings.Repeat(" ", 1000),
}

// checkNumber holds what the three parsers answer for s against x, the number whose string it is (nil for none).
func checkNumber(t *testing.T, s string, x *big.Int) {
	t.Helper()
	var n int64
	var u uint64
	var w api.Wide
	isInt, isUint, isWide := x != nil && x.IsInt64(), x != nil && x.IsUint64(), x != nil && within(x)
	if isInt {
		n = x.Int64()
	}
	if isUint {
		u = x.Uint64()
	}
	if isWide {
		w = made(x)
	}
	if got, ok := Undec(s); got != n || ok != isInt {
		t.Errorf("Undec(%.60q): got %d, %v, want %d, %v", s, got, ok, n, isInt)
	}
	if got, ok := Ununsigned(s); got != u || ok != isUint {
		t.Errorf("Ununsigned(%.60q): got %d, %v, want %d, %v", s, got, ok, u, isUint)
	}
	if got, ok := UndecWide(s); got != w || ok != isWide {
		t.Errorf("UndecWide(%.60q): got %v, %v, want %v, %v", s, got, ok, w, isWide)
	}
}

// P4.1 to P4.3: the rows of the chapter's table.
func TestExamples(t *testing.T) {
	if got := Dec(-5); got != "-5" {
		t.Errorf("Dec(-5): %q", got)
	}
	for _, s := range []string{"-0", "05", "9223372036854775808"} {
		if got, ok := Undec(s); got != 0 || ok {
			t.Errorf("Undec(%q): %d, %v", s, got, ok)
		}
	}
	if got := DecWide(api.Wide{Hi: 1, Lo: 0}); got != "18446744073709551616" {
		t.Errorf("DecWide of Hi 1, Lo 0: %q", got)
	}
	if got := Hex([]byte{0, 255}); got != "00ff" {
		t.Errorf("Hex of 0, 255: %q", got)
	}
	for _, s := range []string{"0G", "0"} {
		if got, ok := Unhex(s); len(got) != 0 || ok {
			t.Errorf("Unhex(%q): %v, %v", s, got, ok)
		}
	}
	if got := Fields("a  b"); !slices.Equal(got, []string{"a", "", "b"}) {
		t.Errorf("Fields: %q", got)
	}
}

// P4.1, P4.2, P4.4: every number is formatted as math/big does it, and its string is parsed as that number, by those whose number it is.
func TestNumbers(t *testing.T) {
	for _, x := range integers() {
		s := x.String()
		checkNumber(t, s, x)
		if x.IsInt64() {
			if got := Dec(x.Int64()); got != s {
				t.Errorf("Dec of %s: %q", s, got)
			}
		}
		if x.IsUint64() {
			if got := Unsigned(x.Uint64()); got != s {
				t.Errorf("Unsigned of %s: %q", s, got)
			}
		}
		if within(x) {
			if got := DecWide(made(x)); got != s {
				t.Errorf("DecWide of %s: %q", s, got)
			}
		}
	}
}

// P4.1: the edges of an int64.
func TestDecAtTheEdges(t *testing.T) {
	for _, c := range []struct {
		n int64
		s string
	}{
		{0, "0"},
		{1, "1"},
		{-1, "-1"},
		{9, "9"},
		{10, "10"},
		{-10, "-10"},
		{1000, "1000"},
		{math.MaxInt64 - 1, "9223372036854775806"},
		{math.MaxInt64, "9223372036854775807"},
		{math.MinInt64 + 1, "-9223372036854775807"},
		{math.MinInt64, "-9223372036854775808"},
	} {
		if got := Dec(c.n); got != c.s {
			t.Errorf("Dec(%d): got %q, want %q", c.n, got, c.s)
		}
		if got, ok := Undec(c.s); got != c.n || !ok {
			t.Errorf("Undec(%q): got %d, %v", c.s, got, ok)
		}
	}
	for _, s := range []string{"9223372036854775808", "9223372036854775810", "-9223372036854775809", "18446744073709551615", "18446744073709551616", "-18446744073709551616", "10000000000000000000", "170141183460469231731687303715884105727", "-170141183460469231731687303715884105728"} {
		if got, ok := Undec(s); got != 0 || ok {
			t.Errorf("Undec(%q): got %d, %v", s, got, ok)
		}
	}
}

// P4.1: the edges of a uint64.
func TestUnsignedAtTheEdges(t *testing.T) {
	for _, c := range []struct {
		n uint64
		s string
	}{
		{0, "0"},
		{1, "1"},
		{10, "10"},
		{math.MaxInt64, "9223372036854775807"},
		{1 << 63, "9223372036854775808"},
		{math.MaxUint64 - 1, "18446744073709551614"},
		{math.MaxUint64, "18446744073709551615"},
	} {
		if got := Unsigned(c.n); got != c.s {
			t.Errorf("Unsigned(%d): got %q, want %q", c.n, got, c.s)
		}
		if got, ok := Ununsigned(c.s); got != c.n || !ok {
			t.Errorf("Ununsigned(%q): got %d, %v", c.s, got, ok)
		}
	}
	for _, s := range []string{"-0", "-1", "-5", "-9223372036854775808", "-18446744073709551615", "-18446744073709551616", "18446744073709551616", "18446744073709551620", "36893488147419103232", "170141183460469231731687303715884105727", "-170141183460469231731687303715884105728"} {
		if got, ok := Ununsigned(s); got != 0 || ok {
			t.Errorf("Ununsigned(%q): got %d, %v", s, got, ok)
		}
	}
}

// P4.2: the edges of a wide number, and of its two halves.
func TestDecWideAtTheEdges(t *testing.T) {
	for _, c := range []struct {
		w api.Wide
		s string
	}{
		{api.Wide{}, "0"},
		{api.Wide{Lo: 1}, "1"},
		{api.Wide{Hi: -1, Lo: math.MaxUint64}, "-1"},
		{api.Wide{Lo: 1 << 63}, "9223372036854775808"},
		{api.Wide{Hi: -1, Lo: 1<<63 - 1}, "-9223372036854775809"},
		{api.Wide{Lo: math.MaxUint64}, "18446744073709551615"},
		{api.Wide{Hi: -1}, "-18446744073709551616"},
		{api.Wide{Hi: -2, Lo: math.MaxUint64}, "-18446744073709551617"},
		{api.Wide{Hi: math.MaxInt64, Lo: math.MaxUint64}, "170141183460469231731687303715884105727"},
		{api.Wide{Hi: math.MaxInt64, Lo: math.MaxUint64 - 1}, "170141183460469231731687303715884105726"},
		{api.Wide{Hi: math.MinInt64, Lo: 1}, "-170141183460469231731687303715884105727"},
		{api.Wide{Hi: math.MinInt64}, "-170141183460469231731687303715884105728"},
		// zeros at and around the ends of groups of digits
		{made(ten(1, 18)), "1" + strings.Repeat("0", 18)},
		{made(ten(-1, 19)), "-1" + strings.Repeat("0", 19)},
		{made(ten(1, 36)), "1" + strings.Repeat("0", 36)},
		{made(plus(ten(1, 36), 1)), "1" + strings.Repeat("0", 35) + "1"},
		{made(plus(ten(-1, 36), -1)), "-1" + strings.Repeat("0", 35) + "1"},
		{made(ten(-1, 38)), "-1" + strings.Repeat("0", 38)},
		{made(plus(ten(-1, 38), 1)), "-" + strings.Repeat("9", 38)},
	} {
		if got := DecWide(c.w); got != c.s {
			t.Errorf("DecWide(%v): got %q, want %q", c.w, got, c.s)
		}
		if got, ok := UndecWide(c.s); got != c.w || !ok {
			t.Errorf("UndecWide(%q): got %v, %v", c.s, got, ok)
		}
	}
	for _, s := range []string{"170141183460469231731687303715884105728", "170141183460469231731687303715884105730", "-170141183460469231731687303715884105729", "-170141183460469231731687303715884105730", "180000000000000000000000000000000000000", "340282366920938463463374607431768211455", "340282366920938463463374607431768211456", "-340282366920938463463374607431768211456", "1701411834604692317316873037158841057270", "-1701411834604692317316873037158841057280"} {
		if got, ok := UndecWide(s); got != (api.Wide{}) || ok {
			t.Errorf("UndecWide(%q): got %v, %v", s, got, ok)
		}
	}
}

// P4.1, P4.2: what is the string of no number is refused, and nothing is returned with it.
func TestStringsOfNoNumber(t *testing.T) {
	for _, s := range wrong {
		checkNumber(t, s, nil)
	}
	for _, s := range long {
		x, _ := new(big.Int).SetString(s, 10)
		if x != nil && x.String() != s {
			x = nil
		}
		checkNumber(t, s, x)
	}
	for _, x := range integers() {
		for _, s := range strange(x.String()) {
			checkNumber(t, s, nil)
		}
	}
}

// P4.4: each byte, alone, before, after and among digits, is accepted only where the string is that of a number.
func TestEveryByteAmongDigits(t *testing.T) {
	for n := range 256 {
		c := string([]byte{byte(n)})
		figure := n >= '0' && n <= '9'
		for _, form := range []struct {
			s  string
			ok bool
		}{
			{c, figure},
			{"-" + c, figure && c != "0"},
			{c + "7", figure && c != "0" || c == "-"},
			{"7" + c, figure},
			{"-7" + c, figure},
			{"7" + c + "7", figure},
			{c + "9223372036854775808", figure && c != "0" || c == "-"},
			{"9223372036854775808" + c, figure},
		} {
			var x *big.Int
			if form.ok {
				x, _ = new(big.Int).SetString(form.s, 10)
			}
			checkNumber(t, form.s, x)
		}
	}
}

// rows returns rows of bytes: none, each byte alone, all of them in order, and others of many lengths.
func rows() [][]byte {
	l := [][]byte{nil, {}, {0}, {0, 0}, {255, 255, 255}}
	var all []byte
	for n := range 256 {
		l = append(l, []byte{byte(n)}, []byte{byte(n), 0}, []byte{1, byte(n)})
		all = append(all, byte(n))
	}
	l = append(l, all)
	s := steps(2)
	for n := range 300 {
		b := make([]byte, n)
		for i := range b {
			b[i] = byte(s.next())
		}
		l = append(l, b)
	}
	return l
}

// P4.3, P4.4: rows of bytes are formatted as encoding/hex does it, and their strings are parsed as they were.
func TestHex(t *testing.T) {
	for _, b := range rows() {
		s := hex.EncodeToString(b)
		if got := Hex(b); got != s {
			t.Errorf("Hex(%v): got %q, want %q", b, got, s)
		}
		if got, ok := Unhex(s); !bytes.Equal(got, b) || !ok {
			t.Errorf("Unhex(%q): got %v, %v", s, got, ok)
		}
	}
}

// P4.3: rows written out.
func TestHexAtTheEdges(t *testing.T) {
	for _, c := range []struct {
		b []byte
		s string
	}{
		{nil, ""},
		{[]byte{0}, "00"},
		{[]byte{9, 10}, "090a"},
		{[]byte{15, 16}, "0f10"},
		{[]byte{0x9f, 0xa0}, "9fa0"},
		{[]byte{127, 128, 255}, "7f80ff"},
		{[]byte{0, 0, 0}, "000000"},
		{[]byte{0x01, 0x23, 0x45, 0x67, 0x89, 0xab, 0xcd, 0xef}, "0123456789abcdef"},
	} {
		if got := Hex(c.b); got != c.s {
			t.Errorf("Hex(%v): got %q, want %q", c.b, got, c.s)
		}
		if got, ok := Unhex(c.s); !bytes.Equal(got, c.b) || !ok {
			t.Errorf("Unhex(%q): got %v, %v", c.s, got, ok)
		}
	}
}

// P4.3: of all pairs of bytes, those of two small hexadecimal digits are accepted, and no other.
func TestUnhexEveryPair(t *testing.T) {
	const small = "0123456789abcdef"
	for n := range 1 << 16 {
		pair := string([]byte{byte(n >> 8), byte(n)})
		left, right := strings.IndexByte(small, pair[0]), strings.IndexByte(small, pair[1])
		for _, s := range []string{pair, "00" + pair, pair + "ff"} {
			got, ok := Unhex(s)
			if left < 0 || right < 0 {
				if len(got) != 0 || ok {
					t.Fatalf("Unhex(%q): got %v, %v", s, got, ok)
				}
				continue
			}
			if want, _ := hex.DecodeString(s); !bytes.Equal(got, want) || !ok {
				t.Fatalf("Unhex(%q): got %v, %v", s, got, ok)
			}
		}
	}
}

// P4.3: what is the string of no bytes is refused, and nothing is returned with it.
func TestStringsOfNoBytes(t *testing.T) {
	for _, s := range []string{
		"0", "f", "000", "00f", "12345", "0G", "0g", "g0", "FF", "fF", "Ff", "0A", "00FF", "-1", "-0", "+1", "0x", "0x00", " ", "  ", " 0", "0 ", "00 ", " 00", "00 ff", "0 0", "00\n", "0\n", "0`", "0/", "0:", "0@",
		"\x80\x80", "0\xff", "\xff0", "é", "é0", "0é", "00é", "00é0", "٣", "0٣0", "１", "1１", "\x00\x00", "0\x00", "00\x00\x00", strings.Repeat("0", 1001), strings.Repeat("00", 1000) + "0G", strings.Repeat("f", 100001), strings.Repeat("F", 1000),
	} {
		if got, ok := Unhex(s); len(got) != 0 || ok {
			t.Errorf("Unhex(%.60q): got %v, %v", s, got, ok)
		}
	}
}

// P4.3, P4.4: no string of up to four bytes out of a few that are near the digits is accepted but as the string of what is returned.
func TestOnlyTheStringIsAccepted(t *testing.T) {
	const near = "-+ 0159/:abfg`AFG_.\x00\x80\xff"
	var check func(s string)
	check = func(s string) {
		if b, ok := Unhex(s); ok != (Hex(b) == s) || !ok && len(b) != 0 {
			t.Errorf("Unhex(%q): got %v, %v", s, b, ok)
		}
		n, ok := Undec(s)
		if ok != (Dec(n) == s) || !ok && n != 0 {
			t.Errorf("Undec(%q): got %v, %v", s, n, ok)
		}
		u, ok := Ununsigned(s)
		if ok != (Unsigned(u) == s) || !ok && u != 0 {
			t.Errorf("Ununsigned(%q): got %v, %v", s, u, ok)
		}
		w, ok := UndecWide(s)
		if ok != (DecWide(w) == s) || !ok && w != (api.Wide{}) {
			t.Errorf("UndecWide(%q): got %v, %v", s, w, ok)
		}
		if len(s) < 4 {
			for i := range len(near) {
				check(s + near[i:i+1])
			}
		}
	}
	check("")
}

// P4.3: Hex leaves its argument as it is and reads nothing behind its length; what Unhex returns is its own.
func TestHexMemory(t *testing.T) {
	b := []byte{1, 2, 3, 4}
	if got := Hex(b[:2]); got != "0102" {
		t.Errorf("Hex of a part: %q", got)
	}
	s := Hex(b)
	b[0] = 9
	if s != "01020304" {
		t.Errorf("Hex after a change of its argument: %q", s)
	}
	first, _ := Unhex(s)
	second, _ := Unhex(s)
	first[0] = 7
	if second[0] != 1 || s != "01020304" {
		t.Errorf("Unhex shares its memory: %v, %q", second, s)
	}
}

// P4.3, P4.4.
func TestFields(t *testing.T) {
	for _, c := range []struct {
		s    string
		want []string
	}{
		{"", nil},
		{"a", []string{"a"}},
		{"abc", []string{"abc"}},
		{"a b", []string{"a", "b"}},
		{"ab cde f", []string{"ab", "cde", "f"}},
		{" ", []string{"", ""}},
		{"  ", []string{"", "", ""}},
		{"    ", []string{"", "", "", "", ""}},
		{" a", []string{"", "a"}},
		{"a ", []string{"a", ""}},
		{" a ", []string{"", "a", ""}},
		{"  a   b ", []string{"", "", "a", "", "", "b", ""}},
		// No other byte splits.
		{"a\tb", []string{"a\tb"}},
		{"a\nb\n", []string{"a\nb\n"}},
		{"\n", []string{"\n"}},
		{"a\x00b c", []string{"a\x00b", "c"}},
		{"a\u00a0b", []string{"a\u00a0b"}},
		{"a\u2003b \u3000", []string{"a\u2003b", "\u3000"}},
		{"a\xa0b", []string{"a\xa0b"}},
		{"\xff \x80 \xc3", []string{"\xff", "\x80", "\xc3"}},
		// A blank splits in the middle of what begins like a letter of several bytes.
		{"\xc3 \xa9", []string{"\xc3", "\xa9"}},
		{"\xe2\x82 \xac", []string{"\xe2\x82", "\xac"}},
		{"\xf0 \x9f", []string{"\xf0", "\x9f"}},
		{"é ü", []string{"é", "ü"}},
	} {
		if got := Fields(c.s); !slices.Equal(got, c.want) {
			t.Errorf("Fields(%q): got %q, want %q", c.s, got, c.want)
		}
	}
}

// P4.3, P4.4: strings of all bytes, with many blanks.
func TestFieldsJoined(t *testing.T) {
	check := func(s string) {
		got := Fields(s)
		if len(got) != strings.Count(s, " ")+1 || strings.Join(got, " ") != s {
			t.Errorf("Fields(%q): got %q", s, got)
		}
		for _, piece := range got {
			if strings.Contains(piece, " ") {
				t.Errorf("Fields(%q): got %q", s, got)
			}
		}
	}
	s := steps(3)
	for n := range 500 {
		b := make([]byte, n%60+1)
		for i := range b {
			if b[i] = byte(s.next()); s.next()%3 == 0 {
				b[i] = ' '
			}
		}
		check(string(b))
	}
	for n := range 256 {
		check(string([]byte{byte(n)}))
		check(string([]byte{'a', byte(n), 'b'}))
		check(string([]byte{byte(n), ' ', byte(n)}))
	}
	for n := range 50 {
		check(strings.Repeat(" ", n+1))
	}
	check(strings.Repeat("ab ", 10000))
}

// P4.3: the pieces of one call are another's no more.
func TestFieldsMemory(t *testing.T) {
	s := "a b c"
	first, second := Fields(s), Fields(s)
	first[1] = "x"
	if second[1] != "b" || s != "a b c" {
		t.Errorf("Fields shares its memory: %q, %q", second, s)
	}
}
