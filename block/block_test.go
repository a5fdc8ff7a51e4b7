package block

import (
	"bytes"
	"encoding/binary"
	"encoding/hex"
	"math"
	"slices"
	"strconv"
	"strings"
	"testing"

	"horologe/api"
	"horologe/fault"
)

// steps is a fixed sequence of numbers that look like chance.
type steps uint64

func (s *steps) next() uint64 {
	*s += 0x9e3779b97f4a7c15
	x := uint64(*s)
	x = (x ^ x>>30) * 0xbf58476d1ce4e5b9
	x = (x ^ x>>27) * 0x94d049bb133111eb
	return x ^ x>>31
}

// bytes returns n bytes.
func (s *steps) bytes(n int) []byte {
	b := make([]byte, n)
	for i := range b {
		b[i] = byte(s.next())
	}
	return b
}

// both are the byte orders.
var both = []bool{false, true}

// order returns the byte order of little.
func order(little bool) binary.AppendByteOrder {
	if little {
		return binary.LittleEndian
	}
	return binary.BigEndian
}

// number returns the number in the first four bytes of b.
func number(b []byte, little bool) uint32 {
	if little {
		return binary.LittleEndian.Uint32(b)
	}
	return binary.BigEndian.Uint32(b)
}

// unhex returns the bytes of s, which may have blanks.
func unhex(s string) []byte {
	b, err := hex.DecodeString(strings.ReplaceAll(s, " ", ""))
	if err != nil {
		panic(err)
	}
	return b
}

// framed returns the frame of k, with the two frame lengths first and second.
func framed(k Block, little bool, first, second uint32) []byte {
	o := order(little)
	b := o.AppendUint32(nil, k.Kind)
	b = o.AppendUint32(b, first)
	b = append(b, k.Body...)
	return o.AppendUint32(b, second)
}

// frame returns the frame of k.
func frame(k Block, little bool) []byte {
	n := uint32(len(k.Body) + 12)
	return framed(k, little, n, n)
}

// headed returns the body of a section header.
func headed(s Sec, mark uint32, little bool) []byte {
	o := order(little)
	b := o.AppendUint32(nil, mark)
	b = o.AppendUint16(b, s.Major)
	b = o.AppendUint16(b, s.Minor)
	b = o.AppendUint64(b, uint64(s.Len))
	return append(b, s.Opts...)
}

// spare returns b with bytes behind it, up to its capacity, that are not part of it.
func spare(b []byte, behind string) []byte {
	own := append(slices.Clone(b), behind...)
	return own[:len(b)]
}

// unchanged reports whether own still has the bytes b, and behind them, up to its capacity, what spare laid there.
func unchanged(own, b []byte, behind string) bool {
	return string(own[:len(b)+len(behind)]) == string(b)+behind
}

// equal reports whether a and b are the same block.
func equal(a, b Block) bool {
	return a.Kind == b.Kind && bytes.Equal(a.Body, b.Body)
}

// same reports whether a and b are the same contents of a section header.
func same(a, b Sec) bool {
	return a.Major == b.Major && a.Minor == b.Minor && a.Len == b.Len && bytes.Equal(a.Opts, b.Opts)
}

// line returns the line of a note block around a fault; that of no error is empty.
func line(no api.Errno, off int64) string {
	if no == api.OK {
		return ""
	}
	return "block: kind " + strconv.Itoa(int(no)) + " at " + strconv.FormatInt(off, 10)
}

// short returns the beginning of b, in hexadecimal.
func short(b []byte) string {
	if len(b) > 48 {
		return hex.EncodeToString(b[:48]) + ".. (" + strconv.Itoa(len(b)) + " bytes)"
	}
	return hex.EncodeToString(b)
}

// sized returns what Size should.
func sized(b []byte, little bool, most int) (int, api.Errno) {
	if len(b) < 8 {
		return 0, api.ErrShort
	}
	n := uint64(number(b[4:], little))
	if n < 12 || n&3 > 0 {
		return 0, api.ErrBlock
	}
	if most < 0 || n > uint64(most) {
		return 0, api.ErrSnap
	}
	return int(n), api.OK
}

// opened returns what Open should, its error as a number and an offset.
func opened(b []byte, little bool, most int, off int64) (Block, int, api.Errno, int64) {
	if off < 0 || off > 4611686018427387904 {
		return Block{}, 0, api.ErrArg, 0
	}
	end := off + int64(len(b))
	n, no := sized(b, little, most)
	if no == api.ErrShort || no == api.OK && len(b) < n {
		return Block{}, 0, api.ErrShort, end
	}
	if no != api.OK {
		return Block{}, 0, no, off + 4
	}
	if number(b[n-4:], little) != uint32(n) {
		return Block{}, 0, api.ErrBlock, off + int64(n) - 4
	}
	return Block{number(b, little), b[8 : n-4]}, n, api.OK, 0
}

// turned returns what Turn should.
func turned(b []byte) (bool, api.Errno) {
	for i := range min(len(b), 4) {
		if b[i] != "\n\r\r\n"[i] {
			return false, api.ErrMagic
		}
	}
	if len(b) < 12 {
		return false, api.ErrShort
	}
	switch string(b[8:12]) {
	case "\x1a\x2b\x3c\x4d":
		return false, api.OK
	case "\x4d\x3c\x2b\x1a":
		return true, api.OK
	}
	return false, api.ErrMagic
}

// contents returns what Sec should.
func contents(k Block, little bool) (Sec, api.Errno) {
	if k.Kind != 168627466 {
		return Sec{}, api.ErrArg
	}
	if len(k.Body) < 16 {
		return Sec{}, api.ErrBlock
	}
	mark := "\x1a\x2b\x3c\x4d"
	if little {
		mark = "\x4d\x3c\x2b\x1a"
	}
	if !strings.HasPrefix(string(k.Body), mark) {
		return Sec{}, api.ErrMagic
	}
	var s Sec
	if little {
		o := binary.LittleEndian
		s = Sec{o.Uint16(k.Body[4:]), o.Uint16(k.Body[6:]), int64(o.Uint64(k.Body[8:])), k.Body[16:]}
	} else {
		o := binary.BigEndian
		s = Sec{o.Uint16(k.Body[4:]), o.Uint16(k.Body[6:]), int64(o.Uint64(k.Body[8:])), k.Body[16:]}
	}
	if s.Major != 1 {
		return Sec{}, api.ErrOther
	}
	return s, api.OK
}

func checkSize(t *testing.T, b []byte, little bool, most int) {
	t.Helper()
	want, wantNo := sized(b, little, most)
	if got, no := Size(b, little, most); got != want || no != wantNo {
		t.Errorf("Size(%s, %v, %d): got %d, %d, want %d, %d", short(b), little, most, got, no, want, wantNo)
	}
}

// checkOpen holds Open against opened: its results, and of an error the kind, the offset, the notes and the line.
func checkOpen(t *testing.T, b []byte, little bool, most int, off int64) {
	t.Helper()
	want, wantLen, wantNo, wantOff := opened(b, little, most, off)
	got, n, err := Open(b, little, most, off)
	if !equal(got, want) || n != wantLen {
		t.Errorf("Open(%s, %v, %d, %d): got %d, %s, %d, want %d, %s, %d", short(b), little, most, off, got.Kind, short(got.Body), n, want.Kind, short(want.Body), wantLen)
	}
	checkError(t, err, wantNo, wantOff)
}

// checkError holds an error of Open against its kind and its offset.
func checkError(t *testing.T, err error, no api.Errno, off int64) {
	t.Helper()
	if no == api.OK {
		if err != nil {
			t.Errorf("error: got %v, want none", err)
		}
		return
	}
	got, ok := fault.Line(err)
	if !ok || got != line(no, off) {
		t.Errorf("error: got %q, want %q", got, line(no, off))
		return
	}
	kind, kindOk := fault.Kind(err)
	at, atOk := fault.Off(err)
	if kind != no || !kindOk || at != off || !atOk || !fault.Is(err, no) || !slices.Equal(fault.Notes(err), []string{"block"}) {
		t.Errorf("error %q: kind %d, offset %d, notes %q", got, kind, at, fault.Notes(err))
	}
}

func checkTurn(t *testing.T, b []byte) {
	t.Helper()
	want, wantNo := turned(b)
	if got, no := Turn(b); got != want || no != wantNo {
		t.Errorf("Turn(%s): got %v, %d, want %v, %d", short(b), got, no, want, wantNo)
	}
}

func checkSec(t *testing.T, k Block, little bool) {
	t.Helper()
	want, wantNo := contents(k, little)
	if got, no := k.Sec(little); !same(got, want) || no != wantNo {
		t.Errorf("Sec of %x, %s, %v: got %+v, %d, want %+v, %d", k.Kind, short(k.Body), little, got, no, want, wantNo)
	}
}

// kinds returns numbers of blocks.
func kinds() []uint32 {
	return []uint32{0, 1, 2, 3, 4, 5, 6, 9, 10, 12, 255, 256, 0xbad, 0x0a0d0d0a, 0x0d0a0a0d, 0x01020304, 1<<31 - 1, 1 << 31, math.MaxUint32}
}

// blocks returns blocks of all kinds, with bodies of all short lengths and some long ones.
func blocks() []Block {
	var l []Block
	s := steps(1)
	for _, kind := range kinds() {
		for n := 0; n <= 64; n += 4 {
			l = append(l, Block{kind, s.bytes(n)})
		}
	}
	for _, n := range []int{240, 244, 252, 256, 1000, 4096, 65524, 65536} {
		l = append(l, Block{uint32(s.next()), s.bytes(n)})
	}
	// Bodies in which frame lengths and kinds are, where a wrong reader would look for them.
	for _, little := range both {
		l = append(l, Block{12, frame(Block{12, nil}, little)}, Block{Section, frame(Block{Section, frame(Block{}, little)}, little)})
	}
	return l
}

// headers returns section headers of version 1, whose options have all lengths that end a body.
func headers() []Sec {
	l := []Sec{{Major: 1}, {1, 0, -1, nil}, {1, 2, -1, []byte{1, 0, 0, 0}}}
	s := steps(2)
	for _, minor := range []uint16{0, 1, 2, 255, 256, 0x0102, 65535} {
		for _, n := range []int64{-1, 0, 1, 4, 255, 256, 0x0102030405060708, -256, -2, 1 << 31, 1 << 32, 1<<62 + 1, math.MaxInt64, math.MinInt64, math.MinInt64 + 1} {
			l = append(l, Sec{1, minor, n, s.bytes(int(4 * (s.next() % 5)))})
		}
	}
	for n := range 40 {
		l = append(l, Sec{1, uint16(s.next()), int64(s.next()), s.bytes(n)})
	}
	return append(l, Sec{1, 0, 5, s.bytes(70000)})
}

// offs returns offsets at which a block may be.
func offs() []int64 {
	return []int64{0, 1, 3, 24, 100, 1<<31 - 1, 1 << 31, 1 << 32, 1<<62 - 1, 1 << 62}
}

// P9.1, P9.3, P9.4: the rows of the chapter's table.
func TestExamples(t *testing.T) {
	b, no := Block{1, []byte{1, 2, 3, 4}}.Bytes(false)
	if !bytes.Equal(b, unhex("00000001 00000010 01020304 00000010")) || no != api.OK {
		t.Errorf("Bytes: % x, %d", b, no)
	}
	if n, no := Size(unhex("0600000010000000"), true, 64); n != 16 || no != api.OK {
		t.Errorf("Size with most 64: %d, %d", n, no)
	}
	if n, no := Size(unhex("0600000010000000"), true, 15); n != 0 || no != api.ErrSnap {
		t.Errorf("Size with most 15: %d, %d", n, no)
	}
	for _, c := range []struct {
		b  string
		no api.Errno
	}{{"0a0d0d0a 0000001c 1a2b3c4d", api.OK}, {"0a0d", api.ErrShort}, {"0a0e", api.ErrMagic}} {
		if little, no := Turn(unhex(c.b)); little || no != c.no {
			t.Errorf("Turn of %s: %v, %d", c.b, little, no)
		}
	}
}

// P9.1 to P9.4: the constants are those of the chapter.
func TestConstants(t *testing.T) {
	got := []int64{Section, Face, Old, Simple, Enhanced, Order, Least}
	if !slices.Equal(got, []int64{0x0a0d0d0a, 1, 2, 3, 6, 0x1a2b3c4d, 12}) {
		t.Errorf("%x", got)
	}
}

// lengths returns frame lengths around the bounds of Size, and others of all lengths.
func lengths() []uint32 {
	var l []uint32
	for n := range uint32(80) {
		l = append(l, n)
	}
	for _, n := range []uint32{255, 256, 0x0c0000, 0x10000000, 0x0c000000, api.MaxBlock, api.MaxBlock + Least, 1<<24 - 4, 1 << 24, 1 << 31, math.MaxUint32} {
		for d := range uint32(9) {
			l = append(l, n-4+d)
		}
	}
	s := steps(3)
	for n := range 32 {
		l = append(l, uint32(s.next())>>n, uint32(s.next())>>n&^3)
	}
	return l
}

// P9.1: each frame length, with the caps around it, whatever is behind the first eight bytes.
func TestSize(t *testing.T) {
	s := steps(4)
	for _, little := range both {
		for _, n := range lengths() {
			b := framed(Block{uint32(s.next()), s.bytes(int(s.next() % 9))}, little, n, uint32(s.next()))
			for _, most := range []int{math.MinInt, math.MinInt32, -12, -1, 0, 8, 11, 12, 13, 15, 16, 64, int(n) - 5, int(n) - 4, int(n) - 1, int(n), int(n) + 1, 1 << 20, math.MaxInt32, math.MaxUint32, math.MaxInt} {
				checkSize(t, b, little, most)
				checkSize(t, b[:8], little, most)
			}
		}
	}
}

// P9.1: the bounds of the frame length, and which error is named first.
func TestSizeBounds(t *testing.T) {
	for _, little := range both {
		for _, c := range []struct {
			n    uint32
			most int
			want int
			no   api.Errno
		}{
			{0, 64, 0, api.ErrBlock}, {4, 64, 0, api.ErrBlock}, {8, 64, 0, api.ErrBlock}, {11, 64, 0, api.ErrBlock},
			{12, 64, 12, api.OK}, {13, 64, 0, api.ErrBlock}, {14, 64, 0, api.ErrBlock}, {15, 64, 0, api.ErrBlock}, {16, 64, 16, api.OK},
			{60, 64, 60, api.OK}, {63, 64, 0, api.ErrBlock}, {64, 64, 64, api.OK}, {65, 64, 0, api.ErrBlock}, {68, 64, 0, api.ErrSnap},
			{12, 12, 12, api.OK}, {12, 11, 0, api.ErrSnap}, {12, 0, 0, api.ErrSnap}, {12, -1, 0, api.ErrSnap}, {12, math.MinInt, 0, api.ErrSnap},
			{8, 0, 0, api.ErrBlock}, {8, -1, 0, api.ErrBlock}, {13, 12, 0, api.ErrBlock}, {0, -1, 0, api.ErrBlock},
			{1 << 20, 1 << 20, 1 << 20, api.OK}, {1<<20 + 4, 1 << 20, 0, api.ErrSnap}, {1<<20 + 12, math.MaxInt, 1<<20 + 12, api.OK},
			{1 << 31, 64, 0, api.ErrSnap}, {1 << 31, math.MaxInt32, 0, api.ErrSnap}, {math.MaxUint32 - 3, 64, 0, api.ErrSnap}, {math.MaxUint32, 64, 0, api.ErrBlock}, {math.MaxUint32, math.MaxInt, 0, api.ErrBlock},
		} {
			b := order(little).AppendUint32([]byte{9, 8, 7, 6}, c.n)
			if got, no := Size(b, little, c.most); got != c.want || no != c.no {
				t.Errorf("Size of a frame of %d, %v, at most %d: got %d, %d, want %d, %d", c.n, little, c.most, got, no, c.want, c.no)
			}
		}
	}
}

// P9.1: fewer than eight bytes, whatever the cap is, and whatever is behind them up to the capacity.
func TestSizeShort(t *testing.T) {
	if n, no := Size(nil, false, 64); n != 0 || no != api.ErrShort {
		t.Errorf("Size of nil: %d, %d", n, no)
	}
	for _, little := range both {
		for _, n := range []uint32{0, 12, 13, 64, math.MaxUint32} {
			b := framed(Block{6, nil}, little, n, n)
			for i := range 8 {
				for _, most := range []int{math.MinInt, -1, 0, 11, 12, 64, math.MaxInt} {
					if got, no := Size(b[:i], little, most); got != 0 || no != api.ErrShort {
						t.Errorf("Size(% x, %v, %d): %d, %d", b[:i], little, most, got, no)
					}
				}
			}
		}
	}
}

// P9.2: blocks of all kinds, at all offsets, and bodies in new memory.
func TestOpen(t *testing.T) {
	for _, little := range both {
		for i, k := range blocks() {
			b := frame(k, little)
			off := offs()[i%len(offs())]
			got, n, err := Open(b, little, len(b), off)
			if !equal(got, k) || n != len(b) || err != nil {
				t.Errorf("Open of the frame of %x, %s: got %x, %s, %d, %v", k.Kind, short(k.Body), got.Kind, short(got.Body), n, err)
			}
			clear(got.Body[:cap(got.Body)])
			if !bytes.Equal(b, frame(k, little)) {
				t.Errorf("the body of %x shares memory with the bytes", k.Kind)
			}
			checkOpen(t, b, little, math.MaxInt, off)
			checkOpen(t, b, little, len(b)-1, off)
			checkOpen(t, b, !little, math.MaxInt, off)
		}
	}
}

// P9.2: only offsets from 0 to 2^62 may be, and that is asked first, at offset 0.
func TestOpenOff(t *testing.T) {
	good := frame(Block{6, []byte{1, 2, 3, 4}}, false)
	for _, b := range [][]byte{good, good[:13], good[:7], nil, framed(Block{6, nil}, false, 13, 13), framed(Block{6, nil}, false, 12, 16), framed(Block{6, nil}, false, 1<<20, 0)} {
		for _, off := range []int64{math.MinInt64, math.MinInt64 + 1, -1 << 62, -1 << 32, -16, -2, -1, 1<<62 + 1, 1<<62 + 4, 1<<62 + 1<<61, math.MaxInt64 - 1, math.MaxInt64} {
			k, n, err := Open(b, false, 64, off)
			if k.Kind != 0 || len(k.Body) != 0 || n != 0 {
				t.Errorf("Open(% x) at %d: %+v, %d", b, off, k, n)
			}
			checkError(t, err, api.ErrArg, 0)
		}
		for _, off := range offs() {
			checkOpen(t, b, false, 64, off)
		}
	}
}

// P9.2: the kind and the offset of each error, and which one is named first.
func TestOpenErrors(t *testing.T) {
	body := []byte("abcdefgh")
	for _, little := range both {
		for _, c := range []struct {
			b    []byte
			most int
			off  int64
			line string
		}{
			{nil, 64, 0, "block: kind 121 at 0"},
			{nil, 64, 7, "block: kind 121 at 7"},
			{nil, -1, 1 << 62, "block: kind 121 at 4611686018427387904"},
			{frame(Block{1, body}, little)[:7], 0, 100, "block: kind 121 at 107"},
			{frame(Block{1, body}, little)[:8], 64, 100, "block: kind 121 at 108"},
			{frame(Block{1, body}, little)[:19], 64, 100, "block: kind 121 at 119"},
			{frame(Block{1, body}, little)[:19], 64, 1 << 62, "block: kind 121 at 4611686018427387923"},
			{frame(Block{1, body}, little)[:19], 19, 100, "block: kind 122 at 104"},
			{frame(Block{1, body}, little), 19, 100, "block: kind 122 at 104"},
			{frame(Block{1, body}, little), -1, 0, "block: kind 122 at 4"},
			{framed(Block{1, body}, little, 8, 8), 64, 100, "block: kind 123 at 104"},
			{framed(Block{1, body}, little, 21, 21), 64, 100, "block: kind 123 at 104"},
			{framed(Block{1, body}, little, 21, 20), 19, 1 << 62, "block: kind 123 at 4611686018427387908"},
			{framed(Block{1, body}, little, 20, 24), 64, 100, "block: kind 123 at 116"},
			{framed(Block{1, body}, little, 20, 24), 64, 1 << 62, "block: kind 123 at 4611686018427387920"},
			{framed(Block{1, body}, little, 24, 20), 64, 100, "block: kind 121 at 120"},
			{framed(Block{1, nil}, little, 12, 0), 12, 0, "block: kind 123 at 8"},
			{framed(Block{1, body}, little, 16, 16), 64, 100, "block: kind 123 at 112"},
			{framed(Block{1, body}, little, math.MaxUint32-3, 0), 64, 100, "block: kind 122 at 104"},
			{framed(Block{1, body}, little, math.MaxUint32-3, 0), math.MaxInt, 100, "block: kind 121 at 120"},
		} {
			k, n, err := Open(c.b, little, c.most, c.off)
			got, ok := fault.Line(err)
			if got != c.line || !ok || k.Kind != 0 || len(k.Body) != 0 || n != 0 {
				t.Errorf("Open(% x, %v, %d, %d): %+v, %d, %q, want %q", c.b, little, c.most, c.off, k, n, got, c.line)
			}
			checkOpen(t, c.b, little, c.most, c.off)
		}
	}
}

// P9.2: a frame with any byte changed.
func TestOpenSpoilt(t *testing.T) {
	for _, little := range both {
		for _, k := range []Block{{6, nil}, {Section, headed(Sec{Major: 1}, Order, little)}, {3, []byte{0, 0, 0, 16}}} {
			for i := range frame(k, little) {
				for c := range 256 {
					b := append(frame(k, little), 0, 0, 0, 12, 12, 0, 0, 0)
					b[i] = byte(c)
					checkOpen(t, b, little, 64, 100)
					checkOpen(t, b, little, len(k.Body)+12, 0)
				}
			}
		}
	}
}

// P9.2: second frame lengths that differ from the first one, in any of their bytes.
func TestOpenSecond(t *testing.T) {
	s := steps(5)
	for _, little := range both {
		for _, n := range []int{0, 4, 244, 256, 65536} {
			k := Block{uint32(s.next()), s.bytes(n)}
			first := uint32(n + 12)
			for _, second := range []uint32{0, 4, 12, 16, first - 4, first - 1, first + 1, first + 4, first + 256, first + 65536, first + 1<<24, first | 1<<31, first << 8, math.MaxUint32} {
				b := framed(k, little, first, second)
				for _, off := range offs() {
					want := api.ErrBlock
					if second == first {
						want = api.OK
					}
					_, _, err := Open(b, little, math.MaxInt, off)
					checkError(t, err, want, off+int64(n)+8)
				}
				checkOpen(t, b, little, n+12, 1)
				checkOpen(t, b, little, n+11, 1)
			}
		}
	}
}

// P9.2, P9.3: the bodies that may be the longest, and longer ones, which Open takes if they are within its cap.
func TestLong(t *testing.T) {
	s := steps(6)
	whole := s.bytes(1<<20 + 8)
	for _, little := range both {
		for _, n := range []int{1<<20 - 4, 1 << 20, 1<<20 + 4, 1<<20 + 8} {
			k := Block{6, whole[:n]}
			want := frame(k, little)
			got, no := k.Bytes(little)
			switch {
			case n <= 1<<20 && (no != api.OK || !bytes.Equal(got, want)):
				t.Errorf("Bytes of a body of %d: %s, %d", n, short(got), no)
			case n > 1<<20 && (no != api.ErrLong || len(got) != 0):
				t.Errorf("Bytes of a body of %d: %s, %d", n, short(got), no)
			}
			for _, off := range []int64{0, 1 << 62} {
				for _, most := range []int{n + 8, n + 11, n + 12, n + 13, math.MaxInt} {
					checkOpen(t, want, little, most, off)
					checkOpen(t, want[:n+11], little, most, off)
				}
			}
		}
	}
}

// P9.3: the frame of a block, in new memory.
func TestBytes(t *testing.T) {
	for _, little := range both {
		for _, k := range blocks() {
			want := frame(k, little)
			body := slices.Clone(k.Body)
			got, no := k.Bytes(little)
			if !bytes.Equal(got, want) || no != api.OK {
				t.Errorf("Bytes of %x, %s, %v: got %s, %d, want %s", k.Kind, short(k.Body), little, short(got), no, short(want))
			}
			clear(got[:cap(got)])
			if again, _ := k.Bytes(little); !bytes.Equal(again, want) || !bytes.Equal(k.Body, body) {
				t.Errorf("Bytes of %x, %s, a second time: %s", k.Kind, short(k.Body), short(again))
			}
		}
	}
}

// P9.3: bodies whose length is no multiple of 4, and those that are too long, which is asked first.
func TestBytesWrong(t *testing.T) {
	for _, little := range both {
		for n := range 70 {
			got, no := Block{Section, make([]byte, n)}.Bytes(little)
			want, size := api.OK, n+12
			if n%4 != 0 {
				want, size = api.ErrArg, 0
			}
			if no != want || len(got) != size {
				t.Errorf("Bytes of a body of %d: %d bytes, %d", n, len(got), no)
			}
		}
		for _, c := range []struct {
			n  int
			no api.Errno
		}{{1<<20 - 3, api.ErrArg}, {1<<20 - 1, api.ErrArg}, {1<<20 + 1, api.ErrLong}, {1<<20 + 2, api.ErrLong}, {1<<20 + 3, api.ErrLong}, {1<<20 + 4, api.ErrLong}, {1 << 21, api.ErrLong}} {
			if got, no := (Block{1, make([]byte, c.n)}).Bytes(little); no != c.no || len(got) != 0 {
				t.Errorf("Bytes of a body of %d: %d bytes, %d", c.n, len(got), no)
			}
		}
	}
}

// P9.4: the byte order of a section header, whatever its frame length is, and whatever is behind the byte-order mark.
func TestTurn(t *testing.T) {
	s := steps(7)
	for _, little := range both {
		for _, n := range lengths() {
			b := order(little).AppendUint32([]byte("\n\r\r\n"), n)
			b = order(little).AppendUint32(b, 0x1a2b3c4d)
			b = append(b, s.bytes(int(s.next()%20))...)
			if got, no := Turn(b); got != little || no != api.OK {
				t.Errorf("Turn(%s): %v, %d, want %v", short(b), got, no, little)
			}
		}
	}
}

// P9.4: section headers that are cut off at every byte, whatever is behind them up to the capacity.
func TestTurnShort(t *testing.T) {
	for _, little := range both {
		b := frame(Sec{Major: 1}.Block(little), little)
		for n := range len(b) + 1 {
			want, wantNo := false, api.ErrShort
			if n >= 12 {
				want, wantNo = little, api.OK
			}
			if got, no := Turn(b[:n]); got != want || no != wantNo {
				t.Errorf("Turn(% x): %v, %d", b[:n], got, no)
			}
		}
	}
	if got, no := Turn(nil); got || no != api.ErrShort {
		t.Errorf("Turn of nil: %v, %d", got, no)
	}
}

// P9.4: section headers of which any byte is spoilt, and which are cut off behind it or before it.
func TestTurnSpoilt(t *testing.T) {
	for _, little := range both {
		for i := range 16 {
			for c := range 256 {
				b := frame(Sec{Major: 1}.Block(little), little)
				b[i] = byte(c)
				for n := range 17 {
					checkTurn(t, b[:n])
				}
			}
		}
	}
}

// P9.4: byte-order marks that are none: shuffled, shifted, or those of one half.
func TestTurnMark(t *testing.T) {
	for _, mark := range []string{"00000000", "ffffffff", "1a2b4d3c", "2b1a3c4d", "2b1a4d3c", "3c4d1a2b", "1a2b3c4c", "1a2b3c1a", "4d3c2b4d", "4d3c3c4d", "1a2b2b1a", "0a0d0d0a", "a1b2c3d4", "d4c3b2a1", "2b3c4d1a"} {
		b := unhex("0a0d0d0a 0000001c" + mark + "1a2b3c4d")
		if got, no := Turn(b); got || no != api.ErrMagic {
			t.Errorf("Turn(% x): %v, %d", b, got, no)
		}
	}
	for _, b := range []string{"00", "0d", "0b", "0a0a", "0a0d0a", "0a0d0d0d", "0d0a0a0d", "0a0d0d0b 0000001c 1a2b3c4d", "d4c3b2a1 00000000 1a2b3c4d"} {
		if got, no := Turn(unhex(b)); got || no != api.ErrMagic {
			t.Errorf("Turn of %s: %v, %d", b, got, no)
		}
	}
}

// P9.4: the contents of section headers, with options in new memory.
func TestSec(t *testing.T) {
	for _, little := range both {
		for _, s := range headers() {
			k := Block{Section, headed(s, 0x1a2b3c4d, little)}
			got, no := k.Sec(little)
			if !same(got, s) || no != api.OK {
				t.Errorf("Sec of %s, %v: got %+v, %d, want %+v", short(k.Body), little, got, no, s)
			}
			clear(got.Opts[:cap(got.Opts)])
			if !bytes.Equal(k.Body, headed(s, 0x1a2b3c4d, little)) {
				t.Errorf("the options of %+v share memory with the body", s)
			}
			checkSec(t, k, !little)
		}
	}
}

// P9.4: each error of Sec, and which one is named first.
func TestSecErrors(t *testing.T) {
	for _, little := range both {
		good := headed(Sec{1, 2, 3, []byte{1, 2, 3, 4}}, Order, little)
		other := headed(Sec{2, 2, 3, nil}, Order, little)
		turnedMark := headed(Sec{1, 2, 3, nil}, Order, !little)
		for _, c := range []struct {
			k  Block
			no api.Errno
		}{
			{Block{}, api.ErrArg},
			{Block{6, good}, api.ErrArg},
			{Block{Section + 1, good}, api.ErrArg},
			{Block{0x0d0a0a0d, good}, api.ErrArg},
			{Block{1, good[:3]}, api.ErrArg},
			{Block{1, other}, api.ErrArg},
			{Block{Section, nil}, api.ErrBlock},
			{Block{Section, good[:15]}, api.ErrBlock},
			{Block{Section, good[:12]}, api.ErrBlock},
			{Block{Section, turnedMark[:15]}, api.ErrBlock},
			{Block{Section, turnedMark}, api.ErrMagic},
			{Block{Section, make([]byte, 16)}, api.ErrMagic},
			{Block{Section, headed(Sec{2, 0, 0, nil}, Order+1, little)}, api.ErrMagic},
			{Block{Section, other}, api.ErrOther},
			{Block{Section, headed(Sec{0, 1, 0, nil}, Order, little)}, api.ErrOther},
			{Block{Section, headed(Sec{256, 1, 0, nil}, Order, little)}, api.ErrOther},
			{Block{Section, headed(Sec{257, 1, 0, nil}, Order, little)}, api.ErrOther},
			{Block{Section, headed(Sec{65535, 1, 0, nil}, Order, little)}, api.ErrOther},
			{Block{Section, good[:16]}, api.OK},
			{Block{Section, good}, api.OK},
		} {
			got, no := c.k.Sec(little)
			if no != c.no || no != api.OK && !same(got, Sec{}) {
				t.Errorf("Sec of %x, % x, %v: %+v, %d, want %d", c.k.Kind, c.k.Body, little, got, no, c.no)
			}
			checkSec(t, c.k, little)
		}
	}
}

// P9.4: bodies of section headers that are cut off at every byte, and spoilt at every byte; one that is no multiple of 4 has options all the same.
func TestSecSpoilt(t *testing.T) {
	for _, little := range both {
		for n := range 25 {
			checkSec(t, Block{Section, headed(Sec{1, 2, -3, []byte("abcdefgh")}, Order, little)[:n]}, little)
		}
		for i := range 20 {
			for c := range 256 {
				k := Block{Section, headed(Sec{1, 2, -3, []byte("abcd")}, Order, little)}
				k.Body[i] = byte(c)
				checkSec(t, k, little)
				checkSec(t, k, !little)
			}
		}
	}
}

// P9.4: the section header block of any contents, whose options end with zero bytes, in new memory.
func TestBlock(t *testing.T) {
	all := headers()
	for _, major := range []uint16{0, 2, 255, 256, 257, 65535} {
		all = append(all, Sec{major, 1, 2, nil}, Sec{major, 0x0304, -5, []byte{6, 7, 8}})
	}
	for _, little := range both {
		for _, s := range all {
			opts := slices.Clone(s.Opts)
			padded := s
			padded.Opts = append(slices.Clone(opts), []string{"", "\x00\x00\x00", "\x00\x00", "\x00"}[len(opts)%4]...)
			want := Block{168627466, headed(padded, 0x1a2b3c4d, little)}
			got := s.Block(little)
			if !equal(got, want) {
				t.Errorf("Block of %+v, %v: got %x, %s, want %s", s, little, got.Kind, short(got.Body), short(want.Body))
			}
			clear(got.Body[:cap(got.Body)])
			if again := s.Block(little); !equal(again, want) || !bytes.Equal(s.Opts, opts) {
				t.Errorf("Block of %+v, a second time: %s", s, short(again.Body))
			}
		}
	}
}

// P9.5: Open of a block's frame returns the block, whatever bytes follow.
func TestOpenFollowed(t *testing.T) {
	s := steps(8)
	for _, little := range both {
		for i, k := range blocks() {
			b, no := k.Bytes(little)
			if no != api.OK {
				t.Errorf("Bytes of %x, %s: %d", k.Kind, short(k.Body), no)
			}
			off := offs()[i%len(offs())]
			for _, rest := range [][]byte{nil, {0}, s.bytes(3), s.bytes(4), b, bytes.Repeat([]byte{255}, 20), make([]byte, 20)} {
				got, n, err := Open(append(slices.Clone(b), rest...), little, len(b), off)
				if !equal(got, k) || n != len(b) || err != nil {
					t.Errorf("Open of %x, %s, and %d more bytes: %x, %s, %d, %v", k.Kind, short(k.Body), len(rest), got.Kind, short(got.Body), n, err)
				}
			}
		}
	}
}

// P9.5: Open of a truncated frame returns ErrShort where it was cut, whatever is behind it up to the capacity.
func TestOpenCut(t *testing.T) {
	for _, little := range both {
		for i, k := range blocks() {
			if len(k.Body) > 1000 {
				continue
			}
			b, _ := k.Bytes(little)
			off := offs()[i%len(offs())]
			for n := range b {
				got, size, err := Open(b[:n], little, len(b), off)
				if got.Kind != 0 || len(got.Body) != 0 || size != 0 {
					t.Errorf("Open(%s): %+v, %d", short(b[:n]), got, size)
				}
				checkError(t, err, api.ErrShort, off+int64(n))
			}
		}
	}
}

// P9.5: Turn of the frame of a section header, and Sec of what Open finds in it, with the byte order that it was made with.
func TestRoundTrip(t *testing.T) {
	for _, little := range both {
		for _, s := range headers() {
			b, no := s.Block(little).Bytes(little)
			if no != api.OK {
				t.Fatalf("Bytes of the block of %+v: %d", s, no)
			}
			if got, no := Turn(b); got != little || no != api.OK {
				t.Errorf("Turn of %s: %v, %d", short(b), got, no)
			}
			k, _, err := Open(b, little, len(b), 0)
			if err != nil {
				t.Fatalf("Open of %s: %v", short(b), err)
			}
			padded := s
			padded.Opts = append(slices.Clone(s.Opts), make([]byte, -len(s.Opts)&3)...)
			if got, no := k.Sec(little); !same(got, padded) || no != api.OK {
				t.Errorf("Sec of %s: %+v, %d", short(b), got, no)
			}
			if got := padded.Block(little); !equal(got, k) {
				t.Errorf("Block of %+v: %s", padded, short(got.Body))
			}
		}
	}
}

// P9.1 to P9.4: no call changes its arguments, nor writes behind them.
func TestUnchanged(t *testing.T) {
	const behind = "\x0a\x0d\x0d\x0a behind"
	s := Sec{1, 2, 3, []byte("abcde")}
	for _, little := range both {
		b := frame(s.Block(little), little)
		own := spare(b, behind)
		Size(own, little, 64)
		Open(own, little, 64, 0)
		Open(own, !little, 64, 0)
		Turn(own)
		if !unchanged(own, b, behind) {
			t.Errorf("% x: changed to % x", b, own)
		}
		body := b[8 : len(b)-4]
		own = spare(body, behind)
		Block{Section, own}.Bytes(little)
		Block{Section, own}.Sec(little)
		if !unchanged(own, body, behind) {
			t.Errorf("% x: changed to % x", body, own)
		}
		own = spare(s.Opts, behind)
		Sec{1, 2, 3, own}.Block(little)
		if !unchanged(own, s.Opts, behind) {
			t.Errorf("%q: changed to %q", s.Opts, own)
		}
	}
}

// P9.1 to P9.5: bytes that look like chance, with lengths that may be.
func TestChance(t *testing.T) {
	s := steps(9)
	for i := range 20000 {
		b := s.bytes(int(s.next() % 48))
		little := i%2 == 0
		if len(b) >= 8 && i%4 < 3 {
			copy(b[4:], order(little).AppendUint32(nil, uint32(s.next()%48)))
		}
		if i%8 < 4 {
			copy(b, "\n\r\r\n")
		}
		if len(b) >= 12 && i%3 > 0 {
			copy(b[8:], order(s.next()%2 == 0).AppendUint32(nil, 0x1a2b3c4d))
		}
		most := int(s.next() % 64)
		checkSize(t, b, little, most)
		checkOpen(t, b, little, most, int64(s.next()>>1))
		checkOpen(t, b, little, most, int64(s.next()>>2))
		checkTurn(t, b)
		if len(b) >= 8 {
			checkSec(t, Block{Section, b[8:]}, little)
		}
	}
}
