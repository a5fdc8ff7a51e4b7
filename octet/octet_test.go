package octet

import (
	"bytes"
	"encoding/binary"
	"math"
	"math/big"
	"slices"
	"testing"
)

// steps is a fixed sequence of numbers that look like chance.
type steps uint64

func (s *steps) next() uint64 {
	*s += 0x9e3779b97f4a7c15
	x := uint64(*s)
	x = (x ^ x>>30) * 0xbf58476d1ce4e5b9
	x = (x ^ x>>27) * 0x94d049bb133111eb
	return x ^ x>>31
}

// below returns a number from 0 to n-1.
func (s *steps) below(n int) int {
	return int(s.next() % uint64(n))
}

// bytes returns n bytes.
func (s *steps) bytes(n int) []byte {
	b := make([]byte, n)
	for i := range b {
		b[i] = byte(s.next())
	}
	return b
}

// orders is both byte orders, as Little has them.
var orders = []bool{false, true}

// edges is ints at which sums of two leave their range, and others that no row here reaches.
var edges = []int{math.MinInt, math.MinInt + 1, math.MinInt + 8, math.MinInt32, -256, -9, -8, -2, -1, 256, 1 << 16, math.MaxInt32, math.MaxInt - 8, math.MaxInt - 7, math.MaxInt - 2, math.MaxInt - 1, math.MaxInt}

// integers is integers with the edges of each number of bytes.
func integers() []uint64 {
	l := []uint64{0x0102030405060708, 0xf1e2d3c4b5a69788, 0x8000000000000001, 0x00ff00ff00ff00ff, 0xff00ff00ff00ff00}
	for i := range 64 {
		n := uint64(1) << i
		l = append(l, n-1, n, n+1, -n)
	}
	s := steps(1)
	for range 50 {
		l = append(l, s.next())
	}
	return l
}

// lowest returns the lowest many bytes of n in the order that little tells.
func lowest(n uint64, many int, little bool) []byte {
	if little {
		return binary.LittleEndian.AppendUint64(nil, n)[:many]
	}
	return binary.BigEndian.AppendUint64(nil, n)[8-many:]
}

// number returns the integer in b, which has at most 8 bytes.
func number(b []byte, little bool) uint64 {
	b = slices.Clone(b)
	if little {
		slices.Reverse(b)
	}
	return new(big.Int).SetBytes(b).Uint64()
}

// there reports whether the many bytes at at exist in length bytes.
func there(length, at, many int) bool {
	if at < 0 || many < 0 {
		return false
	}
	end := new(big.Int).Add(big.NewInt(int64(at)), big.NewInt(int64(many)))
	return end.Cmp(big.NewInt(int64(length))) <= 0
}

// spare returns b with bytes behind it, up to its capacity, that are not part of it.
func spare(b []byte) []byte {
	own := append(slices.Clone(b), 0xa5, 0xa5, 0xa5, 0xa5, 0xa5, 0xa5, 0xa5, 0xa5, 0xa5, 0xa5)
	return own[:len(b)]
}

// rest returns what is between the length and the capacity of b.
func rest(b []byte) []byte {
	return b[len(b):cap(b)]
}

// places calls check for every pair of numbers that are small, or edges.
func places(check func(at, many int)) {
	l := slices.Clone(edges)
	for n := range 24 {
		l = append(l, n)
	}
	for _, at := range l {
		for _, many := range l {
			check(at, many)
		}
	}
}

// rows returns rows of all short lengths, in both orders, without bytes and with spare capacity too.
func rows() []Row {
	s := steps(2)
	var l []Row
	for _, little := range orders {
		l = append(l, Row{nil, little}, Row{[]byte{}, little}, Row{make([]byte, 9), little}, Row{bytes.Repeat([]byte{255}, 9), little})
		for n := range 20 {
			l = append(l, Row{spare(s.bytes(n)), little}, Row{s.bytes(n), little})
		}
	}
	return l
}

// P7.1 to P7.3: the rows of the chapter's table.
func TestExamples(t *testing.T) {
	b := []byte{1, 2}
	if got := (Row{B: b}).U16(0); got != 258 {
		t.Errorf("U16 of 1 2, big-endian: %d", got)
	}
	if got := (Row{B: b, Little: true}).U16(0); got != 513 {
		t.Errorf("U16 of 1 2, little-endian: %d", got)
	}
	if got := Pad(5); got != 3 {
		t.Errorf("Pad(5): %d", got)
	}
	if got := Pad(8); got != 0 {
		t.Errorf("Pad(8): %d", got)
	}
	if got := Sum([]byte{0, 1, 242, 3, 244, 245, 246, 247}); got != 8717 {
		t.Errorf("Sum of the example: %d", got)
	}
	if got := Sum([]byte{0, 1}, []byte{242, 3}, []byte{244, 245}, []byte{246, 247}); got != 8717 {
		t.Errorf("Sum of the example in parts: %d", got)
	}
}

// P7.1: every place and every number of bytes, in both orders; what is not there; the row stays as it was.
func TestGet(t *testing.T) {
	for _, r := range rows() {
		before, behind := slices.Clone(r.B), slices.Clone(rest(r.B))
		places(func(at, many int) {
			var want uint64
			is := many <= 8 && there(len(r.B), at, many)
			if is {
				want = number(r.B[at:at+many], r.Little)
			}
			if got, ok := r.Get(at, many); got != want || ok != is {
				t.Errorf("Get(%d, %d) of %v, Little %v: got %x, %v, want %x, %v", at, many, r.B, r.Little, got, ok, want, is)
			}
		})
		if !bytes.Equal(r.B, before) || !bytes.Equal(rest(r.B), behind) {
			t.Errorf("Get changed %v to %v", before, r.B)
		}
	}
}

// P7.1: integers of many bytes are those in the bytes, whatever stands around them.
func TestGetInside(t *testing.T) {
	for _, little := range orders {
		for _, n := range integers() {
			for many := range 9 {
				b := slices.Concat([]byte{0x5a, 0xff}, lowest(n, many, little), []byte{0xff, 0x5a})
				want := n
				if many < 8 {
					want %= 1 << (8 * many)
				}
				if got, ok := (Row{b, little}).Get(2, many); got != want || !ok {
					t.Errorf("Get(2, %d) of % x, Little %v: got %x, %v, want %x", many, b, little, got, ok, want)
				}
			}
		}
	}
}

// P7.1: the integers of 2, 4 and 8 bytes.
func TestFixed(t *testing.T) {
	for _, r := range rows() {
		places(func(at, _ int) {
			want := func(many int) uint64 {
				if !there(len(r.B), at, many) {
					return 0
				}
				return number(r.B[at:at+many], r.Little)
			}
			if got := r.U16(at); uint64(got) != want(2) {
				t.Errorf("U16(%d) of % x, Little %v: got %x, want %x", at, r.B, r.Little, got, want(2))
			}
			if got := r.U32(at); uint64(got) != want(4) {
				t.Errorf("U32(%d) of % x, Little %v: got %x, want %x", at, r.B, r.Little, got, want(4))
			}
			if got := r.U64(at); got != want(8) {
				t.Errorf("U64(%d) of % x, Little %v: got %x, want %x", at, r.B, r.Little, got, want(8))
			}
		})
	}
}

// P7.1: every piece that there is, as the row's own memory without spare capacity; none otherwise.
func TestCut(t *testing.T) {
	for _, r := range rows() {
		before, behind := slices.Clone(r.B), slices.Clone(rest(r.B))
		places(func(at, many int) {
			got, ok := r.Cut(at, many)
			if is := there(len(r.B), at, many); ok != is {
				t.Errorf("Cut(%d, %d) of %d bytes: %v, want %v", at, many, len(r.B), ok, is)
				return
			}
			if !ok {
				if got != nil {
					t.Errorf("Cut(%d, %d) of %d bytes: %v and false", at, many, len(r.B), got)
				}
				return
			}
			if len(got) != many || cap(got) != many {
				t.Errorf("Cut(%d, %d): length %d, capacity %d", at, many, len(got), cap(got))
				return
			}
			for i := range got {
				if &got[i] != &r.B[at+i] {
					t.Errorf("Cut(%d, %d): not the row's memory", at, many)
				}
			}
		})
		if !bytes.Equal(r.B, before) || !bytes.Equal(rest(r.B), behind) {
			t.Errorf("Cut changed %v to %v", before, r.B)
		}
	}
}

// P7.1: what is appended to a piece does not reach the row.
func TestCutAppend(t *testing.T) {
	r := Row{B: []byte{1, 2, 3, 4}}
	piece, ok := r.Cut(1, 2)
	if !ok {
		t.Fatal("Cut(1, 2) of 4 bytes: false")
	}
	_ = append(piece, 9)
	if !bytes.Equal(r.B, []byte{1, 2, 3, 4}) {
		t.Errorf("the row became %v", r.B)
	}
}

// P7.2: the bytes of the row and those of the integer, in memory of its own; the row stays as it was.
func TestPut(t *testing.T) {
	for _, r := range rows() {
		before, behind := slices.Clone(r.B), slices.Clone(rest(r.B))
		for _, n := range integers() {
			for many := range 9 {
				got := r.Put(n, many)
				if want := slices.Concat(r.B, lowest(n, many, r.Little)); !bytes.Equal(got.B, want) || got.Little != r.Little {
					t.Errorf("Put(%x, %d) of % x, Little %v: got % x, %v", n, many, r.B, r.Little, got.B, got.Little)
				}
				// Memory that is shared would be seen in the row below.
				whole := got.B[:cap(got.B)]
				for i := range whole {
					whole[i] ^= 0xff
				}
			}
		}
		if !bytes.Equal(r.B, before) || !bytes.Equal(rest(r.B), behind) {
			t.Errorf("Put changed %v to %v", before, r.B)
		}
	}
}

// P7.2: two rows that are put to the same one share nothing.
func TestPutTwice(t *testing.T) {
	for _, little := range orders {
		r := Row{Little: little}.Put(1, 1).Put(2, 2).Put(3, 4)
		a, b := r.Put(4, 1), r.Put(5, 1)
		if n, ok := a.Get(7, 1); n != 4 || !ok {
			t.Errorf("the first: % x", a.B)
		}
		if n, ok := b.Get(7, 1); n != 5 || !ok {
			t.Errorf("the second: % x", b.B)
		}
	}
}

// P7.2: a number of bytes that no integer has gives the row itself.
func TestPutWrong(t *testing.T) {
	for _, r := range rows() {
		for _, many := range append([]int{9, 10, 15, 16, 64, 72}, edges...) {
			got := r.Put(0x0102030405060708, many)
			if !bytes.Equal(got.B, r.B) || got.Little != r.Little || cap(got.B) != cap(r.B) {
				t.Errorf("Put(_, %d) of % x: % x", many, r.B, got.B)
				continue
			}
			if len(r.B) > 0 && &got.B[0] != &r.B[0] {
				t.Errorf("Put(_, %d): not the row itself", many)
			}
		}
	}
}

// P7.2: what is lacking to the next multiple of 4.
func TestPad(t *testing.T) {
	check := func(n int) {
		want := 0
		if n >= 0 {
			for (n%4+want)%4 != 0 {
				want++
			}
		}
		if got := Pad(n); got != want {
			t.Errorf("Pad(%d): got %d, want %d", n, got, want)
		}
	}
	for n := -100; n <= 100; n++ {
		check(n)
	}
	for _, n := range edges {
		check(n)
	}
	for d := range 9 {
		check(1<<31 - 4 + d)
		check(1<<32 - 4 + d)
		check(math.MaxInt - d)
		check(math.MinInt + d)
	}
}

// checksum returns the Internet checksum of b: as 2^16 is 1 modulo 65535, adding up the pairs leaves the remainder of the whole number, where only zero bytes come to 0.
func checksum(b []byte) uint16 {
	b = slices.Clone(b)
	if len(b)%2 != 0 {
		b = append(b, 0)
	}
	n := new(big.Int).SetBytes(b)
	if n.Sign() == 0 {
		return 0xffff
	}
	n.Mod(n, big.NewInt(0xffff))
	if n.Sign() == 0 {
		return 0
	}
	return 0xffff - uint16(n.Uint64())
}

// contents returns bytes of several lengths: zero bytes, those that carry most, and others.
func contents() [][]byte {
	l := [][]byte{nil, {}, {0}, {1}, {255}, {0, 1}, {1, 0}, {255, 255}, {255, 254}, {255, 255, 0, 1}, {255, 255, 255}, {128, 0, 128, 0}, {127, 255, 128, 0}, {255, 254, 0, 2}}
	s := steps(3)
	for n := range 70 {
		l = append(l, make([]byte, n), bytes.Repeat([]byte{255}, n), s.bytes(n))
	}
	// So many that their sum leaves 16, and 32 bits, more than once.
	for _, n := range []int{513, 1500, 65535, 65536, 131076, 1 << 20, 1<<20 + 1} {
		l = append(l, make([]byte, n), bytes.Repeat([]byte{255}, n), s.bytes(n))
	}
	return l
}

// P7.3: the checksum of one part.
func TestSum(t *testing.T) {
	if got := Sum(); got != 0xffff {
		t.Errorf("Sum of no parts: %x", got)
	}
	for _, b := range contents() {
		own := spare(b)
		if got, want := Sum(own), checksum(b); got != want {
			t.Errorf("Sum of %d bytes (% x): got %x, want %x", len(b), b[:min(len(b), 16)], got, want)
		}
		if !bytes.Equal(own, b) || !bytes.Equal(rest(own)[:10], bytes.Repeat([]byte{0xa5}, 10)) {
			t.Errorf("Sum changed its part of %d bytes", len(b))
		}
	}
}

// P7.3: parts of any lengths, odd ones and empty ones too, have the checksum of what they are together.
func TestSumParts(t *testing.T) {
	s := steps(4)
	for _, b := range contents() {
		want := checksum(b)
		for at := range min(len(b), 20) {
			if got := Sum(spare(b[:at]), spare(b[at:])); got != want {
				t.Errorf("Sum of %d and %d bytes: got %x, want %x", at, len(b)-at, got, want)
			}
			if got := Sum(nil, b[:at/2], []byte{}, b[at/2:at], nil, b[at:], nil); got != want {
				t.Errorf("Sum of %d, %d and %d bytes: got %x, want %x", at/2, at-at/2, len(b)-at, got, want)
			}
		}
		if len(b) > 4096 {
			continue
		}
		if got := Sum(slices.Collect(slices.Chunk(b, 1))...); got != want {
			t.Errorf("Sum of %d bytes, one by one: got %x, want %x", len(b), got, want)
		}
		var parts [][]byte
		for left := b; len(left) > 0; {
			n := s.below(min(len(left), 7) + 1)
			parts, left = append(parts, left[:n]), left[n:]
		}
		if got := Sum(parts...); got != want {
			t.Errorf("Sum of %d bytes in %d parts: got %x, want %x", len(b), len(parts), got, want)
		}
	}
	if got := Sum(nil, []byte{}, nil); got != 0xffff {
		t.Errorf("Sum of empty parts: %x", got)
	}
	if got := Sum([]byte{1}, []byte{2}, []byte{3}); got != 0xffff-0x0402 {
		t.Errorf("Sum of three odd parts: %x", got)
	}
}

// P7.4: Get returns what was put, and with the other order its bytes reversed.
func TestRoundTrip(t *testing.T) {
	for _, r := range rows() {
		for _, n := range integers() {
			for many := range 9 {
				p := r.Put(n, many)
				back, ok := p.Get(len(r.B), many)
				if want := number(lowest(n, many, false), false); back != want || !ok {
					t.Errorf("Get of Put(%x, %d), Little %v: %x, %v", n, many, r.Little, back, ok)
				}
				other, ok := Row{p.B, !p.Little}.Get(len(r.B), many)
				if want := number(lowest(n, many, false), true); other != want || !ok {
					t.Errorf("Get of Put(%x, %d), Little %v, in the other order: %x, %v", n, many, r.Little, other, ok)
				}
				if piece, ok := p.Cut(len(r.B), many); !ok || !bytes.Equal(piece, lowest(n, many, r.Little)) {
					t.Errorf("Cut of Put(%x, %d), Little %v: % x, %v", n, many, r.Little, piece, ok)
				}
			}
		}
	}
}

// P7.4: a row of integers of all widths is read as it was put.
func TestChain(t *testing.T) {
	for _, little := range orders {
		r := Row{Little: little}.Put(0xbeef, 2).Put(0xdeadbeef, 4).Put(0x0123456789abcdef, 8).Put(0x7f, 1)
		if len(r.B) != 15 || r.U16(0) != 0xbeef || r.U32(2) != 0xdeadbeef || r.U64(6) != 0x0123456789abcdef {
			t.Errorf("Little %v: % x", little, r.B)
		}
		if n, ok := r.Get(14, 1); n != 0x7f || !ok {
			t.Errorf("Little %v: the last one is %x, %v", little, n, ok)
		}
	}
}

// P7.4: bytes with their checksum behind them, at an even offset, have the checksum 0.
func TestSumOfWhole(t *testing.T) {
	for _, b := range contents() {
		if len(b)%2 != 0 {
			b = append(slices.Clone(b), 0)
		}
		whole := Row{B: b}.Put(uint64(Sum(b)), 2)
		if got := Sum(whole.B); got != 0 {
			t.Errorf("Sum of %d bytes and their checksum: %x", len(b), got)
		}
		if got := Sum(b, whole.B[len(b):]); got != 0 {
			t.Errorf("Sum of %d bytes, and their checksum apart: %x", len(b), got)
		}
	}
}
