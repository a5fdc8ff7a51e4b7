package addr

import (
	"bytes"
	"fmt"
	"net/netip"
	"strings"
	"testing"

	"horologe/api"
)

// v4 returns the IPv4 address of four bytes.
func v4(a, b, c, d byte) api.Addr {
	return api.Addr{B: [16]byte{a, b, c, d}}
}

// v6 returns the IPv6 address of eight groups.
func v6(g ...uint16) api.Addr {
	a := api.Addr{V6: true}
	for i, n := range g {
		a.B[2*i], a.B[2*i+1] = byte(n>>8), byte(n)
	}
	return a
}

// grouped returns the eight groups of a.
func grouped(a api.Addr) []uint16 {
	var g []uint16
	for i := 0; i < 16; i += 2 {
		g = append(g, uint16(a.B[i])*256+uint16(a.B[i+1]))
	}
	return g
}

// steps is a fixed sequence of numbers that look like chance.
type steps uint64

func (s *steps) next() uint64 {
	*s += 0x9e3779b97f4a7c15
	x := uint64(*s)
	x = (x ^ x>>30) * 0xbf58476d1ce4e5b9
	x = (x ^ x>>27) * 0x94d049bb133111eb
	return x ^ x>>31
}

// below returns a number from 0 to n-1.
func (s *steps) below(n int) int {
	return int(s.next() % uint64(n))
}

// hexes returns the strings of groups, separated by colons.
func hexes(g []uint16) string {
	var words []string
	for _, n := range g {
		words = append(words, fmt.Sprintf("%x", n))
	}
	return strings.Join(words, ":")
}

// zero reports whether all of g are 0.
func zero(g []uint16) bool {
	return len(bytes.Trim([]byte(hexes(g)), "0:")) == 0
}

// wanted returns the string of a valid address, by trying every run from the longest to the shortest.
func wanted(a api.Addr) string {
	if !a.V6 {
		return fmt.Sprintf("%d.%d.%d.%d", a.B[0], a.B[1], a.B[2], a.B[3])
	}
	g := grouped(a)
	for n := 8; n >= 2; n-- {
		for at := 0; at+n <= 8; at++ {
			if zero(g[at : at+n]) {
				return hexes(g[:at]) + "::" + hexes(g[at+n:])
			}
		}
	}
	return hexes(g)
}

// addresses returns valid addresses of both versions: the edges, IPv6 addresses with every set of groups that are 0, and others.
func addresses() []api.Addr {
	l := []api.Addr{v4(0, 0, 0, 0), v4(255, 255, 255, 255), v4(127, 0, 0, 1), v4(10, 0, 0, 255), v4(1, 2, 3, 4), v4(192, 168, 100, 9), v6(), v6(0, 0, 0, 0, 0, 0xffff, 0x0102, 0x0304)}
	for n := range 256 {
		b := byte(n)
		l = append(l, v4(b, 0, 0, 0), v4(0, b, 0, 0), v4(0, 0, b, 0), v4(0, 0, 0, b), v4(b, b, b, b))
	}
	s := steps(1)
	for set := range 256 {
		var few, many []uint16
		for i := range 8 {
			one := uint16(set >> i & 1)
			few = append(few, one)
			many = append(many, one*uint16(1+s.below(65535)))
		}
		l = append(l, v6(few...), v6(many...))
	}
	for range 300 {
		a := api.Addr{V6: s.below(2) == 0}
		for i := range a.B[:4] {
			a.B[i] = byte(s.next())
		}
		for i := 4; a.V6 && i < 16; i++ {
			a.B[i] = byte(s.next()) >> s.below(9)
		}
		l = append(l, a)
	}
	return l
}

// written returns a group with at least a number of digits, lowercase or uppercase.
func written(n uint16, digits int, upper bool) string {
	s := fmt.Sprintf("%0*x", digits, n)
	if upper {
		return strings.ToUpper(s)
	}
	return s
}

// notations returns notations of an IPv6 address: with :: for each part of each run of 0 groups, and without it, in several styles, the last two groups with dots too.
func notations(a api.Addr) []string {
	var l []string
	g := grouped(a)
	for at := range 9 {
		for end := at; end <= 8; end++ {
			if end > at && !zero(g[at:end]) || end == at && at > 0 {
				continue
			}
			for digits := 1; digits <= 4; digits++ {
				for _, upper := range []bool{false, true} {
					words := func(g []uint16) string {
						var l []string
						for _, n := range g {
							l = append(l, written(n, digits, upper))
						}
						return strings.Join(l, ":")
					}
					dotted := fmt.Sprintf("%d.%d.%d.%d", a.B[12], a.B[13], a.B[14], a.B[15])
					switch {
					case end == at:
						l = append(l, words(g), words(g[:6])+":"+dotted)
					case end == 6:
						l = append(l, words(g[:at])+"::"+dotted)
						fallthrough
					default:
						l = append(l, words(g[:at])+"::"+words(g[end:]))
						if end < 6 {
							l = append(l, words(g[:at])+"::"+words(g[end:6])+":"+dotted)
						}
					}
				}
			}
		}
	}
	return l
}

// checkParse holds Parse of s against the address whose notation it is (nil for none).
func checkParse(t *testing.T, s string, want *api.Addr) {
	t.Helper()
	a, no := Parse(s)
	switch {
	case want == nil && (no != api.ErrText || a != api.Addr{}):
		t.Errorf("Parse(%.80q): got %v, %d, want none", s, a, no)
	case want != nil && (no != api.OK || a != *want):
		t.Errorf("Parse(%.80q): got %v, %d, want %v", s, a, no, *want)
	}
}

// known returns the address whose notation s is, as net/netip finds it (nil for none).
func known(s string) *api.Addr {
	x, err := netip.ParseAddr(s)
	if err != nil || x.Zone() != "" {
		return nil
	}
	if x.Is4() {
		b := x.As4()
		a := v4(b[0], b[1], b[2], b[3])
		return &a
	}
	return &api.Addr{V6: true, B: x.As16()}
}

// P5.1, P5.2: the rows of the chapter's table.
func TestExamples(t *testing.T) {
	if s, no := Print(v6(0x2001, 0xdb8, 0, 0, 1, 0, 0, 1)); s != "2001:db8::1:0:0:1" || no != api.OK {
		t.Errorf("Print: %q, %d", s, no)
	}
	a, no := Parse("::ffff:1.2.3.4")
	if s, _ := Print(a); s != "::ffff:102:304" || no != api.OK {
		t.Errorf("Print of a parsed address: %q, %d", s, no)
	}
	for _, s := range []string{"1.2.3", "1::2::3", "01.2.3.4", "1:2:3:4:5:6:7:8::"} {
		if a, no := Parse(s); no != api.ErrText || a != (api.Addr{}) {
			t.Errorf("Parse(%q): %v, %d", s, a, no)
		}
	}
	if s, no := Ends(api.Ends{Addr: v6(0, 0, 0, 0, 0, 0, 0, 1), Port: 123}); s != "[::1]:123" || no != api.OK {
		t.Errorf("Ends: %q, %d", s, no)
	}
}

// P5.1, P5.2: an address is valid if it is of IPv6, or its last 12 bytes are 0; no other is printed.
func TestMay(t *testing.T) {
	for _, a := range addresses() {
		if !May(a) {
			t.Errorf("May(%v): false", a)
		}
	}
	for i := range 16 {
		for _, n := range []byte{1, 128, 255} {
			for _, full := range []bool{false, true} {
				a := v4(1, 2, 3, 4)
				if !full {
					a = v4(0, 0, 0, 0)
				}
				a.B[i] = n
				checkValid(t, a, i < 4)
				a.V6 = true
				checkValid(t, a, true)
			}
		}
	}
	a := v4(1, 2, 3, 4)
	for i := 4; i < 16; i++ {
		a.B[i] = 255
	}
	checkValid(t, a, false)
}

// checkValid holds what is told of a, which is valid or not.
func checkValid(t *testing.T, a api.Addr, valid bool) {
	t.Helper()
	s, no := Print(a)
	e, noEnds := Ends(api.Ends{Addr: a, Port: 7})
	if valid && (!May(a) || s == "" || no != api.OK || e == "" || noEnds != api.OK) {
		t.Errorf("%v: got %v, %q, %d, %q, %d", a, May(a), s, no, e, noEnds)
	}
	if !valid && (May(a) || s != "" || no != api.ErrArg || e != "" || noEnds != api.ErrArg) {
		t.Errorf("%v: got %v, %q, %d, %q, %d", a, May(a), s, no, e, noEnds)
	}
}

// P5.1: strings written out.
func TestPrintAtTheEdges(t *testing.T) {
	for _, c := range []struct {
		a api.Addr
		s string
	}{
		{v4(0, 0, 0, 0), "0.0.0.0"},
		{v4(255, 255, 255, 255), "255.255.255.255"},
		{v4(10, 0, 100, 9), "10.0.100.9"},
		{v6(), "::"},
		{v6(0, 0, 0, 0, 0, 0, 0, 1), "::1"},
		{v6(1), "1::"},
		{v6(0, 0, 0, 0, 0, 0, 1, 2), "::1:2"},
		{v6(1, 2, 3, 4, 5, 6, 7, 8), "1:2:3:4:5:6:7:8"},
		// a single group that is 0
		{v6(0, 2, 3, 4, 5, 6, 7, 8), "0:2:3:4:5:6:7:8"},
		{v6(1, 0, 3, 4, 5, 6, 7, 8), "1:0:3:4:5:6:7:8"},
		{v6(1, 2, 3, 4, 5, 6, 7, 0), "1:2:3:4:5:6:7:0"},
		{v6(0, 2, 0, 4, 0, 6, 0, 8), "0:2:0:4:0:6:0:8"},
		// two of them
		{v6(0, 0, 3, 4, 5, 6, 7, 8), "::3:4:5:6:7:8"},
		{v6(1, 2, 3, 0, 0, 6, 7, 8), "1:2:3::6:7:8"},
		{v6(1, 2, 3, 4, 5, 6, 0, 0), "1:2:3:4:5:6::"},
		// the longer one of two runs, wherever it is
		{v6(0, 0, 3, 0, 0, 0, 7, 8), "0:0:3::7:8"},
		{v6(0, 0, 0, 4, 0, 0, 7, 8), "::4:0:0:7:8"},
		{v6(0, 0, 3, 4, 5, 0, 0, 0), "0:0:3:4:5::"},
		{v6(0, 2, 3, 4, 5, 6, 0, 0), "0:2:3:4:5:6::"},
		{v6(1, 0, 3, 0, 0, 6, 0, 8), "1:0:3::6:0:8"},
		// the first one of two or three that are equally long
		{v6(0, 0, 3, 4, 5, 6, 0, 0), "::3:4:5:6:0:0"},
		{v6(0, 0, 0, 4, 5, 0, 0, 0), "::4:5:0:0:0"},
		{v6(1, 0, 0, 4, 5, 0, 0, 8), "1::4:5:0:0:8"},
		{v6(0, 0, 3, 0, 0, 6, 0, 0), "::3:0:0:6:0:0"},
		{v6(1, 0, 0, 0, 5, 0, 0, 0), "1::5:0:0:0"},
		// groups of all lengths
		{v6(0xf, 0xff, 0xfff, 0xffff, 0x10, 0x100, 0x1000, 0xabcd), "f:ff:fff:ffff:10:100:1000:abcd"},
		{v6(0xfe80, 0, 0, 0, 0x020a, 0x00b0, 0xc000, 0x0de0), "fe80::20a:b0:c000:de0"},
		{v6(0xffff, 0xffff, 0xffff, 0xffff, 0xffff, 0xffff, 0xffff, 0xffff), "ffff:ffff:ffff:ffff:ffff:ffff:ffff:ffff"},
		// those that hold an IPv4 address are printed like the others
		{v6(0, 0, 0, 0, 0, 0xffff, 0x0102, 0x0304), "::ffff:102:304"},
		{v6(0, 0, 0, 0, 0, 0, 0x0102, 0x0304), "::102:304"},
		{v6(0, 0, 0, 0, 0, 0xffff, 0, 0), "::ffff:0:0"},
	} {
		if s, no := Print(c.a); s != c.s || no != api.OK {
			t.Errorf("Print(%v): got %q, %d, want %q", c.a, s, no, c.s)
		}
		checkParse(t, c.s, &c.a)
	}
}

// P5.1, P5.3: the strings of addresses, held against a plainer way to find them and against net/netip, and parsed again.
func TestPrint(t *testing.T) {
	for _, a := range addresses() {
		s, no := Print(a)
		if want := wanted(a); s != want || no != api.OK {
			t.Errorf("Print(%v): got %q, %d, want %q", a, s, no, want)
		}
		x := netip.AddrFrom16(a.B)
		if !a.V6 {
			x = netip.AddrFrom4([4]byte(a.B[:4]))
		}
		// netip prints the addresses that hold one of IPv4 with dots.
		if !x.Is4In6() && s != x.String() {
			t.Errorf("Print(%v): got %q, netip %q", a, s, x)
		}
		checkParse(t, s, &a)
	}
}

// P5.1, P5.3: every notation of an address is parsed as that address, and has its only string.
func TestNotations(t *testing.T) {
	for _, a := range addresses() {
		if !a.V6 {
			continue
		}
		for _, s := range notations(a) {
			checkParse(t, s, &a)
			got, _ := Parse(s)
			if back, no := Print(got); back != wanted(a) || no != api.OK {
				t.Errorf("Print of Parse(%q): got %q, %d", s, back, no)
			}
		}
	}
}

// P5.1: notations written out.
func TestParseAtTheEdges(t *testing.T) {
	for _, c := range []struct {
		s string
		a api.Addr
	}{
		{"0.0.0.0", v4(0, 0, 0, 0)},
		{"255.255.255.255", v4(255, 255, 255, 255)},
		{"1.20.0.199", v4(1, 20, 0, 199)},
		{"::", v6()},
		{"0::", v6()},
		{"::0", v6()},
		{"0::0", v6()},
		{"0:0:0:0:0:0:0:0", v6()},
		{"0000:0000:0000:0000:0000:0000:0000:0000", v6()},
		{"::0.0.0.0", v6()},
		{"0:0:0:0:0:0:0.0.0.0", v6()},
		{"0:0:0::0:0:0.0.0.0", v6()},
		// :: for one group
		{"::2:3:4:5:6:7:8", v6(0, 2, 3, 4, 5, 6, 7, 8)},
		{"1:2:3::5:6:7:8", v6(1, 2, 3, 0, 5, 6, 7, 8)},
		{"1:2:3:4:5:6:7::", v6(1, 2, 3, 4, 5, 6, 7, 0)},
		{"1:2:3:4:5::0.7.0.8", v6(1, 2, 3, 4, 5, 0, 7, 8)},
		// :: for a part of a run, or for the shorter one
		{"1::0:0:4:5:0:0", v6(1, 0, 0, 0, 4, 5, 0, 0)},
		{"1:0:0:4::8", v6(1, 0, 0, 4, 0, 0, 0, 8)},
		{"1:0:0:0:5::8", v6(1, 0, 0, 0, 5, 0, 0, 8)},
		// digits
		{"1:02:003:0004:f:0F:00fF:0aBc", v6(1, 2, 3, 4, 15, 15, 255, 0xabc)},
		{"FE80::00Ab", v6(0xfe80, 0, 0, 0, 0, 0, 0, 0xab)},
		{"ABCD:EF01::", v6(0xabcd, 0xef01)},
		// dots
		{"::1.2.3.4", v6(0, 0, 0, 0, 0, 0, 0x102, 0x304)},
		{"::ffff:255.254.253.252", v6(0, 0, 0, 0, 0, 0xffff, 0xfffe, 0xfdfc)},
		{"1:2:3:4:5:6:7.8.9.10", v6(1, 2, 3, 4, 5, 6, 0x708, 0x90a)},
		{"64:FF9B::192.0.2.33", v6(0x64, 0xff9b, 0, 0, 0, 0, 0xc000, 0x221)},
		{"1::255.255.255.255", v6(1, 0, 0, 0, 0, 0, 0xffff, 0xffff)},
		{"::2:3:4:5:6:255.0.0.1", v6(0, 2, 3, 4, 5, 6, 0xff00, 1)},
		// as long as a notation may be
		{"ffff:ffff:ffff:ffff:ffff:ffff:255.255.255.255", v6(0xffff, 0xffff, 0xffff, 0xffff, 0xffff, 0xffff, 0xffff, 0xffff)},
		{"FFFF:FFFF:FFFF:FFFF:FFFF:FFFF:FFFF:FFFF", v6(0xffff, 0xffff, 0xffff, 0xffff, 0xffff, 0xffff, 0xffff, 0xffff)},
	} {
		checkParse(t, c.s, &c.a)
	}
}

// wrong is strings that are the notation of no address.
var wrong = []string{
	"", ":", ":::", "::::", ".", "...", "....", ":.", ".:", " ", "a", "1", "123", "0x01020304", "localhost", "%", "-", "+",
	// numbers with dots
	"1.2.3", "1.2.3.", "1.2", ".1.2.3", "1.2.3.4.", ".1.2.3.4", "1.2.3.4.5", "1..2.3", "1..2.3.4", "1.2..4", "1.2.3..4", "1.2.3.256", "256.2.3.4", "1.999.3.4", "1.2.3.1000", "1.2.3.4294967297", "1.2.3.18446744073709551617",
	"01.2.3.4", "1.2.3.04", "1.00.3.4", "000.0.0.0", "1.2.3.-4", "-1.2.3.4", "1.2.3.-0", "+1.2.3.4", "1.2.3.+4", "1.2.3.a", "1.2.3.0x4", "a.b.c.d", "1,2,3,4", " 1.2.3.4", "1.2.3.4 ", "1. 2.3.4", "1.2.3.4\n", "1.2.3.4\x00", "1.2.3.٤", "1.2.3.é", "1.2.3.\xff",
	"1.2.3.4/24", "1.2.3.4%0", "1.2.3.4:5", "[1.2.3.4]",
	// groups
	":1", "1:", "1:2", "1:2:3:4:5:6:7", "1:2:3:4:5:6:7:8:9", "1:2:3:4:5:6:7:8:", ":1:2:3:4:5:6:7:8", "1:2:3:4:5:6:7:", ":2:3:4:5:6:7:8",
	"1::2::3", "::1::", "1::2::", "::::1", "1:::2", ":::1", "1:::", "1::2:", ":1::2", "::1:", ":1::",
	"1:2:3:4:5:6:7:8::", "::1:2:3:4:5:6:7:8", "1:2:3:4::5:6:7:8", "1:2:3:4:5:6:7::8", "1:2:3:4:5:6:7:8:9::", "1:2:3:4:5::6:7:8:9",
	"12345::", "::12345", "00001::", "::00000", "1:2:3:4:5:6:7:00008", "10000::", "::fffff", "g::", "::g", "::G", "::`", "::@", "::/", "-1::", "+1::", "::-1", "::+1", "::-0", "0x1::", "::0x1", "1_0::", "::_1", "::1.", "::.1", "::1e.",
	" ::", ":: ", "1: :2", "1:: 2", ": :", "::\n", "::1\x00", "::é", "::\xff", "::\xb1", "::١", "::１", "::1%eth0", "::1%", "fe80::1%1", "::1/64", "[::1]", "[::1", "::1]", "[::]",
	// dots among groups
	"::1.2.3", "::1.2.3.4.5", "::1.2.3.256", "::01.2.3.4", "::1.2.3.04", "::1.2.3.a", "::a.2.3.4", "::1.2..4", "::1.2.3.", "::.2.3.4", "::-1.2.3.4", "::+1.2.3.4", "::1.2.3.4 ",
	"1.2.3.4::", "1.2.3.4::5", "1.2.3.4:5::", "::1.2.3.4:5", "1.2.3.4:1:2:3:4:5:6", "1:2:3:1.2.3.4:4:5:6", "::1.2.3.4::", "::1.2.3.4:5.6.7.8", "1::1.2.3.4:5.6.7.8", "1.2.3.4:5.6.7.8:1.2.3.4:5.6.7.8", "1.2.3.4::5.6.7.8", "1.2.3.4:", ":1.2.3.4", ":::1.2.3.4", "1.2.3.4::1.2.3.4",
	"1:2:3:4:5:6:7:1.2.3.4", "1:2:3:4:5:1.2.3.4", "1:2:3:4:5:6::1.2.3.4", "::1:2:3:4:5:6:1.2.3.4", "1:2:3::4:5:6:1.2.3.4", "1:2:3:4:5:6:1.2.3.4::", "1:2:3:4:5:6:1.2.3.4:", "1:2:3:4:5:6:7:8:1.2.3.4", "::ffff:0:0:0:0:0:0:1.2.3.4",
	"0000:ffff:ffff:ffff:ffff:ffff:ffff:255.255.255.255", "ffff:ffff:ffff:ffff:ffff:ffff:255.255.255.2555",
}

// P5.1: what is the notation of no address is refused, and nothing is returned with it.
func TestNotationsOfNoAddress(t *testing.T) {
	for _, s := range wrong {
		checkParse(t, s, nil)
	}
	for _, c := range []string{"0", ":", ".", "::", "1:", ":1", "1.", "f", " ", "\x00", "\xff", "é"} {
		checkParse(t, strings.Repeat(c, 50), nil)
		checkParse(t, strings.Repeat(c, 1<<18), nil)
		checkParse(t, "::"+strings.Repeat(c, 1<<18), nil)
	}
}

// P5.1: each byte, before, after, within and in place of a part of a notation, is accepted only where net/netip accepts it.
func TestEveryByteInANotation(t *testing.T) {
	for n := range 256 {
		c := string([]byte{byte(n)})
		for _, s := range []string{"::", "1::", "::1", "1:2:3:4:5:6:7:8", "abcd:EF01::", "::1.2.3.4", "1:2:3:4:5:6:7.8.9.10", "1.2.3.4", "10.0.25.199", "1:2:3:4:5:6:7", "1.2.3", ""} {
			for at := 0; at <= len(s); at++ {
				checkParse(t, s[:at]+c+s[at:], known(s[:at]+c+s[at:]))
				if at < len(s) {
					checkParse(t, s[:at]+c+s[at+1:], known(s[:at]+c+s[at+1:]))
				}
			}
		}
	}
}

// P5.1: all short strings of a few characters are accepted where net/netip accepts them.
func TestShortStrings(t *testing.T) {
	var check func(s, of string, most int)
	check = func(s, of string, most int) {
		checkParse(t, s, known(s))
		if len(s) == most {
			return
		}
		for i := range len(of) {
			check(s+of[i:i+1], of, most)
		}
	}
	check("", ":1", 17)
	check("", ":.0", 10)
	check("", ".12", 9)
	check("::", ".:2", 9)
	check("", ":.05aG-", 5)
}

// mutated returns s with a few of its pieces changed.
func mutated(s string, by *steps) string {
	pieces := []string{":", "::", ".", "0", "00", "1", "25", "256", "fF", "0ab", "12345", "1.2.3.4", "::1.2.3.4", ":0", ":0:0", "g", "-", " "}
	for range 1 + by.below(3) {
		at := by.below(len(s) + 1)
		end := min(len(s), at+by.below(4))
		if by.below(3) == 0 {
			s = s[:at] + s[end:]
		} else {
			s = s[:at] + pieces[by.below(len(pieces))] + s[end:]
		}
	}
	return s
}

// P5.1, P5.3: notations that are changed at some places are accepted where net/netip accepts them, as those of the same address.
func TestChangedNotations(t *testing.T) {
	by := steps(2)
	for _, a := range addresses() {
		l := []string{wanted(a)}
		if a.V6 {
			l = notations(a)
		}
		for range 20 {
			s := mutated(l[by.below(len(l))], &by)
			checkParse(t, s, known(s))
		}
	}
}

// P5.2, P5.3: of two addresses that differ just one sorts before the other, as written here; the bytes that an IPv4 address does not use count too.
func TestLess(t *testing.T) {
	odd, odder := v4(1, 2, 3, 4), v4(1, 2, 3, 4)
	odd.B[15], odder.B[4] = 1, 1
	sorted := []api.Addr{
		v4(0, 0, 0, 0), v4(0, 0, 0, 1), v4(0, 0, 0, 128), v4(0, 0, 1, 0), v4(0, 1, 0, 0), v4(1, 0, 0, 0), v4(1, 2, 3, 4), odd, odder, v4(1, 2, 3, 5), v4(9, 255, 255, 255), v4(10, 0, 0, 0), v4(127, 255, 255, 255), v4(128, 0, 0, 0), v4(255, 255, 255, 255),
		v6(), v6(0, 0, 0, 0, 0, 0, 0, 1), v6(0, 0, 0, 0, 0, 0, 0, 255), v6(0, 0, 0, 0, 0, 0, 0, 256), v6(0, 0, 0, 0, 0, 0, 0x102, 0x304), v6(0, 0, 0, 0, 0, 0, 0x8000), v6(0, 0, 0, 0, 0, 1), v6(0, 0, 0, 0, 0, 0xffff, 0x102, 0x304), v6(0, 0, 0, 0, 1), v6(0, 0, 0, 1), v6(0, 0, 1), v6(0, 1), v6(1), v6(1, 0, 0, 0, 0, 0, 0, 1), v6(0x102, 0x304), v6(0x7fff, 0xffff), v6(0x8000), v6(0xffff, 0xffff, 0xffff, 0xffff, 0xffff, 0xffff, 0xffff, 0xfffe), v6(0xffff, 0xffff, 0xffff, 0xffff, 0xffff, 0xffff, 0xffff, 0xffff),
	}
	for i, a := range sorted {
		for j, b := range sorted {
			if got := Less(a, b); got != (i < j) {
				t.Errorf("Less(%v, %v): got %v", a, b, got)
			}
		}
	}
}

// P5.2, P5.3: the order is one: each byte counts more than all behind it.
func TestLessByteByByte(t *testing.T) {
	all := addresses()
	by := steps(3)
	for range 20000 {
		a, b := all[by.below(len(all))], all[by.below(len(all))]
		if by.below(2) == 0 {
			b = a
			b.B[by.below(16)] = byte(by.next())
		}
		x, y := fmt.Sprintf("%v%x", a.V6, a.B), fmt.Sprintf("%v%x", b.V6, b.B)
		if Less(a, b) != (x < y) || Less(b, a) != (y < x) {
			t.Fatalf("Less(%v, %v): got %v, %v", a, b, Less(a, b), Less(b, a))
		}
	}
}

// checkEnds holds ParseEnds of s against the endpoint whose string it is (nil for none).
func checkEnds(t *testing.T, s string, want *api.Ends) {
	t.Helper()
	e, no := ParseEnds(s)
	switch {
	case want == nil && (no != api.ErrText || e != api.Ends{}):
		t.Errorf("ParseEnds(%.80q): got %v, %d, want none", s, e, no)
	case want != nil && (no != api.OK || e != *want):
		t.Errorf("ParseEnds(%.80q): got %v, %d, want %v", s, e, no, *want)
	}
}

// P5.2: strings written out.
func TestEndsAtTheEdges(t *testing.T) {
	for _, c := range []struct {
		e api.Ends
		s string
	}{
		{api.Ends{}, "0.0.0.0:0"},
		{api.Ends{Addr: v4(1, 2, 3, 4), Port: 5}, "1.2.3.4:5"},
		{api.Ends{Addr: v4(255, 255, 255, 255), Port: 65535}, "255.255.255.255:65535"},
		{api.Ends{Addr: v4(10, 0, 0, 255), Port: 123}, "10.0.0.255:123"},
		{api.Ends{Addr: v6()}, "[::]:0"},
		{api.Ends{Addr: v6(), Port: 65535}, "[::]:65535"},
		{api.Ends{Addr: v6(1), Port: 10}, "[1::]:10"},
		{api.Ends{Addr: v6(1, 2, 3, 4, 5, 6, 7, 8), Port: 9}, "[1:2:3:4:5:6:7:8]:9"},
		{api.Ends{Addr: v6(0, 0, 0, 0, 0, 0xffff, 0x102, 0x304), Port: 32768}, "[::ffff:102:304]:32768"},
		{api.Ends{Addr: v6(0xffff, 0xffff, 0xffff, 0xffff, 0xffff, 0xffff, 0xffff, 0xffff), Port: 65535}, "[ffff:ffff:ffff:ffff:ffff:ffff:ffff:ffff]:65535"},
	} {
		if s, no := Ends(c.e); s != c.s || no != api.OK {
			t.Errorf("Ends(%v): got %q, %d, want %q", c.e, s, no, c.s)
		}
		checkEnds(t, c.s, &c.e)
	}
}

// P5.2, P5.3: endpoints of all addresses and of all ports are formatted as net/netip does it, and parsed as they were.
func TestEnds(t *testing.T) {
	check := func(a api.Addr, port uint16) {
		e := api.Ends{Addr: a, Port: port}
		want := fmt.Sprintf("%s:%d", wanted(a), port)
		if a.V6 {
			want = fmt.Sprintf("[%s]:%d", wanted(a), port)
		}
		if s, no := Ends(e); s != want || no != api.OK {
			t.Errorf("Ends(%v): got %q, %d, want %q", e, s, no, want)
		}
		checkEnds(t, want, &e)
	}
	by := steps(4)
	for _, a := range addresses() {
		check(a, 0)
		check(a, 123)
		check(a, 65535)
		check(a, uint16(by.next()))
	}
	for port := range 1 << 16 {
		check(v4(1, 2, 3, 4), uint16(port))
		check(v6(0, 0, 0, 0, 0, 0, 0, 1), uint16(port))
	}
}

// P5.2: what is the string of no endpoint is refused, and nothing is returned with it.
func TestStringsOfNoEndpoint(t *testing.T) {
	for _, s := range []string{
		"", ":", "::", "[", "]", "[]", "[]:", "[]:1", ":1", ":123", "123", "a", " ",
		// no brackets, too many, or not closed
		"::1:5", "::", "::1", "1:2:3:4:5:6:7:8:9", "1:2:3:4:5:6:7:8", "[1.2.3.4]:5", "[1.2.3.4:5", "1.2.3.4]:5", "[::1:5", "::1]:5", "[[::1]]:5", "[[::1]:5", "[::1]]:5", "]::1[:5", "[]::1:5", "::1[]:5", "[::1:5]", "[1.2.3.4]", "[1.2.3.4:5]", "(::1):5", "{::1}:5", "]::1]:5", "[::1[:5", "[:1]:5", "[::1]5",
		// no port, or one that is no number of a port
		"1.2.3.4", "1.2.3.4:", "[::1]", "[::1]:", "1.2.3.4:65536", "[::1]:65536", "1.2.3.4:65537", "1.2.3.4:99999", "1.2.3.4:100000", "1.2.3.4:4294967296", "1.2.3.4:18446744073709551616", "1.2.3.4:18446744073709551739", "[::1]:170141183460469231731687303715884105728",
		"1.2.3.4:00", "1.2.3.4:05", "[::1]:05", "[::1]:0123", "1.2.3.4:-0", "1.2.3.4:-1", "1.2.3.4:+1", "[::1]:-65413", "1.2.3.4: 1", "1.2.3.4:1 ", "1.2.3.4 :1", " 1.2.3.4:1", "[::1] :1", "[ ::1]:1", "[::1 ]:1", "[::1]: 1", "1.2.3.4:1\n", "1.2.3.4:1\x00", "1.2.3.4:a", "1.2.3.4:0x7b", "1.2.3.4:ntp", "1.2.3.4:1.0", "1.2.3.4:٣", "1.2.3.4:\xff", "[::1]:é", "1.2.3.4::5", "1.2.3.4:5:6", "[::1]::5", "[::1]:5:6", "1.2.3.4.5", "1.2.3.4#5",
		// no address
		"1.2.3:5", "1.2.3.256:5", "01.2.3.4:5", "1.2.3.4.5:6", "[1::2::3]:5", "[:::]:5", "[12345::]:5", "[g::]:5", "[::1%eth0]:5", "[1.2.3.4::]:5", "localhost:123", "[localhost]:123", "%:5",
		// an address that is not written as Print writes it
		"[0::1]:7", "[0:0:0:0:0:0:0:0]:7", "[::0]:7", "[::01]:7", "[::A]:7", "[FE80::]:7", "[::1.2.3.4]:7", "[::ffff:1.2.3.4]:7", "[1:2:3:4:5:6:7::]:7", "[::2:3:4:5:6:7:8]:7", "[1::4:0:0:0:8]:7", "[0:0:3:4:5:6::]:7", "[0:0:3:4:5:6:7:8]:7", "[1::0:4:5:6:7:8]:7",
	} {
		checkEnds(t, s, nil)
	}
	for _, c := range []string{"0", ":", ".", "::", "[", "]", "[]", "[::1]:", "1.2.3.4:", "\xff"} {
		s := strings.Repeat(c, 1<<18)
		for _, s := range []string{s, s + ":1", "[" + s + "]:1", "1.2.3.4:1" + s, "[::1]:1" + s, strings.Repeat("[", 1<<18) + s + strings.Repeat("]", 1<<18) + ":1"} {
			checkEnds(t, s, nil)
		}
	}
}

// P5.2, P5.3: no other notation of an address is accepted in the string of an endpoint.
func TestOnlyTheStringIsAccepted(t *testing.T) {
	for _, a := range addresses() {
		if !a.V6 {
			continue
		}
		for _, s := range notations(a) {
			want := &api.Ends{Addr: a, Port: 123}
			if s != wanted(a) {
				want = nil
			}
			checkEnds(t, "["+s+"]:123", want)
			checkEnds(t, s+":123", nil)
		}
	}
}

// P5.2, P5.3: what is changed at some places is accepted if, and only if, it is the string of what is returned.
func TestChangedEndpoints(t *testing.T) {
	by := steps(5)
	for _, a := range addresses() {
		s, _ := Ends(api.Ends{Addr: a, Port: uint16(by.next())})
		for range 20 {
			s := mutated(s, &by)
			x, err := netip.ParseAddrPort(s)
			if err != nil || x.Addr().Zone() != "" {
				checkEnds(t, s, nil)
				continue
			}
			want := &api.Ends{Addr: *known(x.Addr().String()), Port: x.Port()}
			if is, _ := Ends(*want); is != s {
				want = nil
			}
			checkEnds(t, s, want)
		}
	}
}
