package pcap

import (
	"bytes"
	"encoding/binary"
	"encoding/hex"
	"math"
	"math/big"
	"slices"
	"strings"
	"testing"

	"horologe/api"
)

// steps is a fixed sequence of numbers that look like chance.
type steps uint64

func (s *steps) next() uint64 {
	*s += 0x9e3779b97f4a7c15
	x := uint64(*s)
	x = (x ^ x>>30) * 0xbf58476d1ce4e5b9
	x = (x ^ x>>27) * 0x94d049bb133111eb
	return x ^ x>>31
}

// bytes returns n bytes.
func (s *steps) bytes(n int) []byte {
	b := make([]byte, n)
	for i := range b {
		b[i] = byte(s.next())
	}
	return b
}

// begun is how a file begins, and what that tells.
type begun struct {
	magic string
	file  File
}

// starts returns how files of all magic numbers begin.
func starts() []begun {
	return []begun{
		{"\xa1\xb2\xc3\xd4", File{}},
		{"\xd4\xc3\xb2\xa1", File{Little: true}},
		{"\xa1\xb2\x3c\x4d", File{Nano: true}},
		{"\x4d\x3c\xb2\xa1", File{Little: true, Nano: true}},
	}
}

// unhex returns the bytes of s, which may have blanks.
func unhex(s string) []byte {
	b, err := hex.DecodeString(strings.ReplaceAll(s, " ", ""))
	if err != nil {
		panic(err)
	}
	return b
}

// order returns the byte order of f.
func order(f File) binary.ByteOrder {
	if f.Little {
		return binary.LittleEndian
	}
	return binary.BigEndian
}

// den returns how many fractions a second of f has.
func den(f File) uint32 {
	if f.Nano {
		return 1000000000
	}
	return 1000000
}

// told returns what the magic number of b tells, and whether b begins with one.
func told(b []byte) (File, bool) {
	for _, m := range starts() {
		if strings.HasPrefix(string(b), m.magic) {
			return m.file, true
		}
	}
	return File{}, false
}

// opened returns what Open of b should.
func opened(b []byte) (File, api.Errno) {
	may := false
	for _, m := range starts() {
		may = may || strings.HasPrefix(m.magic, string(b[:min(len(b), 4)]))
	}
	if !may {
		return File{}, api.ErrMagic
	}
	if len(b) < 24 {
		return File{}, api.ErrShort
	}
	f, _ := told(b)
	if order(f).Uint16(b[4:]) != 2 {
		return File{}, api.ErrOther
	}
	f.Snap = order(f).Uint32(b[16:])
	f.Link = uint16(order(f).Uint32(b[20:]) & 0xffff)
	return f, api.OK
}

// spare returns b with bytes behind it, up to its capacity, that are not part of it.
func spare(b []byte, behind string) []byte {
	own := append(slices.Clone(b), behind...)
	return own[:len(b)]
}

// unchanged reports whether own still has the bytes b, and behind them, up to its capacity, what spare laid there.
func unchanged(own, b []byte, behind string) bool {
	return string(own[:len(b)+len(behind)]) == string(b)+behind
}

// files returns files with all magic numbers, link types and snap lengths that are edges or not.
func files() []File {
	var l []File
	s := steps(1)
	for _, m := range starts() {
		for _, link := range []uint16{0, 1, 101, 113, 255, 256, 0x1234, 32767, 32768, 65535} {
			for _, snap := range []uint32{0, 1, 65535, 65536, 262144, 0x01020304, 1<<31 - 1, 1 << 31, math.MaxUint32} {
				l = append(l, File{m.file.Little, m.file.Nano, link, snap})
			}
		}
		for range 20 {
			l = append(l, File{m.file.Little, m.file.Nano, uint16(s.next()), uint32(s.next())})
		}
	}
	return l
}

// kinds returns a file of each magic number, with and without other fields, on which record headers do not depend.
func kinds() []File {
	var l []File
	for _, m := range starts() {
		l = append(l, m.file, File{m.file.Little, m.file.Nano, 113, 96})
	}
	return l
}

// numbers returns numbers of 32 bits: edges of them and of Den, and others of all lengths.
func numbers() []uint32 {
	l := []uint32{0, 1, 2, 255, 256, 65535, 65536, 123456, 500000, 999999, 1000000, 1000001, 0x01020304, 123456789, 500000000, 999999999, 1000000000, 1000000001, 1<<31 - 1, 1 << 31, math.MaxUint32 - 1, math.MaxUint32}
	s := steps(2)
	for n := range 32 {
		l = append(l, uint32(s.next())>>n)
	}
	return l
}

// heads returns record headers in which each number is an edge, and others.
func heads() []Head {
	l := []Head{{}, {0x01020304, 0x05060708, 0x090a0b0c, 0x0d0e0f10}}
	s := steps(3)
	for _, n := range numbers() {
		l = append(l, Head{n, 7, 8, 9}, Head{7, n, 8, 9}, Head{7, 8, n, 9}, Head{7, 8, 9, n}, Head{n, n, n, n})
		l = append(l, Head{uint32(s.next()), uint32(s.next()), uint32(s.next()), uint32(s.next())})
	}
	return l
}

// written returns the bytes of h in the byte order of f.
func written(f File, h Head) []byte {
	b := make([]byte, 16)
	for i, n := range []uint32{h.Sec, h.Part, h.Cap, h.Len} {
		order(f).PutUint32(b[4*i:], n)
	}
	return b
}

// headed returns what Head of b should.
func headed(f File, b []byte, most int) (Head, api.Errno) {
	if len(b) < 16 {
		return Head{}, api.ErrShort
	}
	o := order(f)
	h := Head{o.Uint32(b), o.Uint32(b[4:]), o.Uint32(b[8:]), o.Uint32(b[12:])}
	if h.Part >= den(f) {
		return Head{}, api.ErrBytes
	}
	if big.NewInt(int64(h.Cap)).Cmp(big.NewInt(int64(most))) > 0 {
		return Head{}, api.ErrSnap
	}
	return h, api.OK
}

func checkOpen(t *testing.T, b []byte) {
	t.Helper()
	want, wantNo := opened(b)
	if got, no := Open(b); got != want || no != wantNo {
		t.Errorf("Open(% x): got %+v, %d, want %+v, %d", b, got, no, want, wantNo)
	}
}

func checkMagic(t *testing.T, b []byte) {
	t.Helper()
	want, wantIs := told(b)
	if got, is := Magic(b); got != want || is != wantIs {
		t.Errorf("Magic(% x): got %+v, %v, want %+v, %v", b, got, is, want, wantIs)
	}
}

func checkHead(t *testing.T, f File, b []byte, most int) {
	t.Helper()
	want, wantNo := headed(f, b, most)
	if got, no := f.Head(b, most); got != want || no != wantNo {
		t.Errorf("%+v: Head(% x, %d): got %+v, %d, want %+v, %d", f, b, most, got, no, want, wantNo)
	}
}

// P8.1, P8.3: the rows of the chapter's table.
func TestExamples(t *testing.T) {
	f := File{Little: true, Link: 1, Snap: 262144}
	if got, want := f.Bytes(), unhex("d4c3b2a1 0200 0400 00000000 00000000 00000400 01000000"); !bytes.Equal(got, want) {
		t.Errorf("Bytes of %+v: % x", f, got)
	}
	if got, no := Open(unhex("d4c3")); no != api.ErrShort || got != (File{}) {
		t.Errorf("Open of d4c3: %+v, %d", got, no)
	}
	if got, no := Open(unhex("d4c4")); no != api.ErrMagic || got != (File{}) {
		t.Errorf("Open of d4c4: %+v, %d", got, no)
	}
	half := api.Wide{Lo: 2208988800<<32 + 1<<31}
	if got := (File{}).At(Head{Part: 500000}); got != half {
		t.Errorf("At of half a second: %+v", got)
	}
	if got := (File{Nano: true}).At(Head{Part: 500000000}); got != half {
		t.Errorf("At of half a second, Nano: %+v", got)
	}
}

// P8.1: the constants are those of the chapter.
func TestConstants(t *testing.T) {
	if FileBytes != 24 || HeadBytes != 16 || Micro != 0xa1b2c3d4 || Nano != 0xa1b23c4d {
		t.Errorf("%d, %d, %x, %x", FileBytes, HeadBytes, Micro, Nano)
	}
}

// P8.1: each magic number is told, whatever is behind it.
func TestMagic(t *testing.T) {
	s := steps(4)
	for _, m := range starts() {
		for n := range 40 {
			b := append([]byte(m.magic), s.bytes(n)...)
			if got, is := Magic(b); got != m.file || !is {
				t.Errorf("Magic(% x): %+v, %v", b, got, is)
			}
		}
		for _, f := range files() {
			checkMagic(t, append([]byte(m.magic), f.Bytes()...))
		}
	}
}

// P8.1: what is too short, or differs in any byte, is no magic number.
func TestMagicWrong(t *testing.T) {
	checkMagic(t, nil)
	for _, m := range starts() {
		for n := range 4 {
			own := spare([]byte(m.magic[:n]), m.magic[n:])
			if got, is := Magic(own); got != (File{}) || is {
				t.Errorf("Magic(% x): %+v, %v", own, got, is)
			}
		}
		for i := range 4 {
			for c := range 256 {
				b := append([]byte(m.magic), 2, 0)
				b[i] = byte(c)
				checkMagic(t, b)
			}
		}
		for i := range 4 {
			for j := range 4 {
				b := []byte(m.magic)
				b[i], b[j] = b[j], b[i]
				checkMagic(t, b)
			}
		}
		checkMagic(t, append([]byte{0}, m.magic...))
	}
}

// P8.1: a file header is opened, whatever is behind it, and as long as it is cut off, bytes are missing.
func TestOpen(t *testing.T) {
	s := steps(5)
	for _, f := range files() {
		b := f.Bytes()
		for n := range len(b) {
			if got, no := Open(spare(b[:n], string(b[n:]))); no != api.ErrShort || got != (File{}) {
				t.Errorf("Open of %d bytes of %+v: %+v, %d", n, f, got, no)
			}
		}
		for _, n := range []int{0, 1, 16, 100} {
			whole := append(slices.Clone(b), s.bytes(n)...)
			if got, no := Open(whole); no != api.OK || got != f {
				t.Errorf("Open of %+v and %d bytes: %+v, %d", f, n, got, no)
			}
		}
	}
}

// P8.1: of a file header only what File names is told; the rest, but for the major version, may be anything.
func TestOpenRest(t *testing.T) {
	s := steps(6)
	for _, f := range files() {
		for range 4 {
			b := f.Bytes()
			copy(b[6:16], s.bytes(10))
			order(f).PutUint32(b[20:], uint32(s.next())<<16|uint32(f.Link))
			if got, no := Open(b); no != api.OK || got != f {
				t.Errorf("Open(% x): got %+v, %d, want %+v", b, got, no, f)
			}
		}
	}
}

// P8.1: a header with any byte changed, whole or cut off anywhere.
func TestOpenSpoilt(t *testing.T) {
	for _, m := range starts() {
		f := m.file
		f.Link, f.Snap = 101, 0x01020304
		for i := range FileBytes {
			for c := range 256 {
				b := f.Bytes()
				b[i] = byte(c)
				checkOpen(t, b)
				checkOpen(t, append(b, 1, 2, 3))
			}
			b := f.Bytes()
			b[i] ^= 0x80
			for n := range len(b) + 1 {
				checkOpen(t, b[:n])
			}
			want := api.OK
			switch {
			case i < 4:
				want = api.ErrMagic
			case i < 6:
				want = api.ErrOther
			}
			if _, no := Open(b); no != want {
				t.Errorf("Open of %+v, spoilt at %d: %d", f, i, no)
			}
		}
	}
}

// P8.1: whatever begins like no magic number is none, be it short or long; the beginnings of all four are those of a file.
func TestOpenBegins(t *testing.T) {
	checkOpen(t, nil)
	checkOpen(t, []byte{})
	short := 0
	for a := range 256 {
		checkOpen(t, []byte{byte(a)})
		for b := range 256 {
			two := []byte{byte(a), byte(b)}
			checkOpen(t, two)
			if _, no := Open(two); no == api.ErrShort {
				short++
			}
		}
	}
	if short != 3 {
		t.Errorf("%d beginnings of two bytes", short)
	}
	for _, m := range starts() {
		for n := range 4 {
			for c := range 256 {
				b := append([]byte(m.magic[:n]), byte(c))
				checkOpen(t, b)
				checkOpen(t, append(b, make([]byte, 30)...))
				checkOpen(t, append(b, m.file.Bytes()...))
			}
		}
	}
}

// P8.1: only the major version 2 is opened, as the file's byte order tells it.
func TestOpenVersion(t *testing.T) {
	for _, m := range starts() {
		for _, major := range []uint16{0, 1, 2, 3, 4, 255, 256, 258, 0x0200, 0x0202, 65535} {
			for _, minor := range []uint16{0, 2, 4, 5, 0x0400, 65535} {
				b := m.file.Bytes()
				order(m.file).PutUint16(b[4:], major)
				order(m.file).PutUint16(b[6:], minor)
				want, wantFile := api.ErrOther, File{}
				if major == 2 {
					want, wantFile = api.OK, m.file
				}
				if got, no := Open(b); no != want || got != wantFile {
					t.Errorf("Open of %+v, version %d.%d: %+v, %d", m.file, major, minor, got, no)
				}
				// What is cut off behind its version is still short.
				if got, no := Open(b[:23]); no != api.ErrShort || got != (File{}) {
					t.Errorf("Open of 23 bytes of %+v, version %d.%d: %+v, %d", m.file, major, minor, got, no)
				}
			}
		}
	}
}

// P8.1: the bytes of a file header, each where it belongs, in new memory.
func TestBytes(t *testing.T) {
	for _, f := range files() {
		want := make([]byte, 24)
		o := order(f)
		o.PutUint32(want, 0xa1b2c3d4)
		if f.Nano {
			o.PutUint32(want, 0xa1b23c4d)
		}
		o.PutUint16(want[4:], 2)
		o.PutUint16(want[6:], 4)
		o.PutUint32(want[16:], f.Snap)
		o.PutUint32(want[20:], uint32(f.Link))
		got := f.Bytes()
		if !bytes.Equal(got, want) {
			t.Errorf("Bytes of %+v: got % x, want % x", f, got, want)
		}
		clear(got[:cap(got)])
		if again := f.Bytes(); !bytes.Equal(again, want) {
			t.Errorf("Bytes of %+v, a second time: % x", f, again)
		}
	}
}

// P8.1: how many fractions a second has depends on Nano alone.
func TestDen(t *testing.T) {
	for _, f := range files() {
		if got := f.Den(); got != uint64(den(f)) {
			t.Errorf("Den of %+v: %d", f, got)
		}
	}
}

// P8.1, P8.2: no call changes its argument, or what is behind it.
func TestUnchanged(t *testing.T) {
	const behind = "\xa5\xa5\xa5\xa5\xa5"
	s := steps(7)
	for _, f := range kinds() {
		for _, b := range [][]byte{f.Bytes(), f.Put(Head{1, 2, 3, 4}), s.bytes(24), []byte(f.Bytes()[:3]), nil} {
			own := spare(b, behind)
			Magic(own)
			Open(own)
			f.Head(own, 100)
			if !unchanged(own, b, behind) {
				t.Errorf("% x became % x", b, own)
			}
		}
	}
}

// P8.2: a record header is read, whatever is behind it, and as long as it is cut off, bytes are missing.
func TestHead(t *testing.T) {
	s := steps(8)
	for _, f := range kinds() {
		checkHead(t, f, nil, 0)
		checkHead(t, f, nil, -1)
		for _, h := range heads() {
			b := written(f, h)
			for n := range len(b) {
				// Missing bytes come before all that the others may tell.
				for _, most := range []int{math.MinInt, -1, 0, math.MaxInt} {
					if got, no := f.Head(spare(b[:n], string(b[n:])), most); no != api.ErrShort || got != (Head{}) {
						t.Errorf("%+v: Head of %d bytes of %+v: %+v, %d", f, n, h, got, no)
					}
				}
			}
			for _, n := range []int{0, 1, 90} {
				checkHead(t, f, append(slices.Clone(b), s.bytes(n)...), math.MaxInt)
			}
			h.Part %= den(f)
			if got, no := f.Head(written(f, h), math.MaxInt); no != api.OK || got != h {
				t.Errorf("%+v: Head of %+v: %+v, %d", f, h, got, no)
			}
		}
	}
}

// P8.2: a fraction is less than a second, whatever the number of captured bytes is.
func TestHeadPart(t *testing.T) {
	for _, f := range kinds() {
		d := den(f)
		for _, part := range []uint32{0, 1, d - 2, d - 1, d, d + 1, 2 * d, 1<<31 - 1, 1 << 31, math.MaxUint32} {
			for _, many := range []uint32{0, 89, 90, 91, math.MaxUint32} {
				h := Head{1700000000, part, many, 90}
				want := api.OK
				switch {
				case part >= d:
					want = api.ErrBytes
				case many > 90:
					want = api.ErrSnap
				}
				wantHead := h
				if want != api.OK {
					wantHead = Head{}
				}
				if got, no := f.Head(written(f, h), 90); no != want || got != wantHead {
					t.Errorf("%+v: Head of %+v: %+v, %d", f, h, got, no)
				}
			}
		}
	}
}

// P8.2: as many bytes as most may be captured, but no more; how many the packet had does not count.
func TestHeadSnap(t *testing.T) {
	for _, f := range kinds() {
		for _, h := range heads() {
			b := written(f, h)
			c := int(h.Cap)
			for _, most := range []int{math.MinInt, math.MinInt32, -c, -1, 0, 1, c - 1, c, c + 1, 48, 1<<20 - 16, math.MaxInt32, math.MaxUint32, math.MaxInt} {
				checkHead(t, f, b, most)
			}
			h.Part = 0
			if got, no := f.Head(written(f, h), c); no != api.OK || got != h {
				t.Errorf("%+v: Head of %+v, at most %d: %+v, %d", f, h, c, got, no)
			}
			if got, no := f.Head(written(f, h), c-1); no != api.ErrSnap || got != (Head{}) {
				t.Errorf("%+v: Head of %+v, at most %d: %+v, %d", f, h, c-1, got, no)
			}
		}
	}
}

// P8.2: a record header with any byte changed.
func TestHeadSpoilt(t *testing.T) {
	for _, f := range kinds() {
		for i := range HeadBytes {
			for c := range 256 {
				b := written(f, Head{1700000000, 123456, 90, 1500})
				b[i] = byte(c)
				checkHead(t, f, b, 90)
				checkHead(t, f, b, 1<<20-16)
			}
		}
	}
}

// P8.2: the bytes of a record header, whatever its numbers are, in new memory.
func TestPut(t *testing.T) {
	for _, f := range kinds() {
		for _, h := range heads() {
			want := written(f, h)
			got := f.Put(h)
			if !bytes.Equal(got, want) {
				t.Errorf("%+v: Put(%+v): got % x, want % x", f, h, got, want)
			}
			clear(got[:cap(got)])
			if again := f.Put(h); !bytes.Equal(again, want) {
				t.Errorf("%+v: Put(%+v), a second time: % x", f, h, again)
			}
		}
	}
}

// exact returns the number that w stands for.
func exact(w api.Wide) *big.Int {
	x := new(big.Int).Lsh(big.NewInt(w.Hi), 64)
	return x.Add(x, new(big.Int).SetUint64(w.Lo))
}

// made returns the wide number x, which is one.
func made(x *big.Int) api.Wide {
	low := new(big.Int).And(x, new(big.Int).SetUint64(math.MaxUint64))
	// big.Int's Rsh rounds down.
	return api.Wide{Hi: new(big.Int).Rsh(x, 64).Int64(), Lo: low.Uint64()}
}

// since1970 returns the moment so many seconds and units after 1970.
func since1970(sec, units int64) api.Wide {
	x := new(big.Int).Add(big.NewInt(2208988800), big.NewInt(sec))
	x.Lsh(x, 32)
	return made(x.Add(x, big.NewInt(units)))
}

// at returns what At should: a whole number of units that is not shorter than the fraction, and the least one.
func at(f File, h Head) api.Wide {
	if h.Part >= den(f) {
		return since1970(int64(h.Sec), 1<<32-1)
	}
	d := big.NewInt(int64(den(f)))
	x := new(big.Int).Lsh(big.NewInt(int64(h.Part)), 32)
	q, r := new(big.Int).QuoRem(x, d, new(big.Int))
	if r.Sign() > 0 {
		q.Add(q, big.NewInt(1))
	}
	return since1970(int64(h.Sec), q.Int64())
}

// when returns what When should.
func when(f File, w api.Wide) (sec, part uint32, ok bool) {
	x := new(big.Int).Sub(exact(w), exact(since1970(0, 0)))
	if x.Sign() < 0 || x.BitLen() > 64 {
		return 0, 0, false
	}
	u := x.Uint64()
	p := new(big.Int).Mul(big.NewInt(int64(u&0xffffffff)), big.NewInt(int64(den(f))))
	return uint32(u >> 32), uint32(p.Rsh(p, 32).Uint64()), true
}

// moments returns the moments around the bounds of When, around those of wide numbers, around fractions, and others of all lengths.
func moments() []api.Wide {
	l := []api.Wide{{}, {Lo: 1}, {Hi: -1, Lo: math.MaxUint64}, {Hi: math.MinInt64}, {Hi: math.MinInt64, Lo: 1}, {Hi: math.MinInt64, Lo: 2208988800 << 32}, {Hi: math.MinInt64, Lo: math.MaxUint64}, {Hi: math.MaxInt64}, {Hi: math.MaxInt64, Lo: math.MaxUint64}, {Hi: 1}, {Hi: 1, Lo: math.MaxUint64}, {Hi: 1 << 32}, {Hi: -1 << 32}}
	for _, sec := range []int64{-2208988800, -1 << 32, -1 << 31, -2, -1, 0, 1, 2, 1700000000, 2085978495, 2085978496, 1<<31 - 1, 1 << 31, 1<<32 - 2, 1<<32 - 1, 1 << 32, 1<<32 + 1, 1 << 33, 1 << 40, 1<<63 - 1, -1 << 63} {
		for _, units := range []int64{0, 1, 2, 4, 5, 4294, 4295, 1 << 30, 1<<31 - 1, 1 << 31, 1<<31 + 1, 1<<32 - 4295, 1<<32 - 5, 1<<32 - 2, 1<<32 - 1} {
			l = append(l, since1970(sec, units))
		}
	}
	s := steps(9)
	for n := range uint(128) {
		l = append(l, made(new(big.Int).Rsh(exact(api.Wide{Hi: int64(s.next()), Lo: s.next()}), n)))
	}
	for range 200 {
		l = append(l, since1970(int64(uint32(s.next())), int64(uint32(s.next()))))
	}
	return l
}

// P8.3: the moment of a record, whose fraction is rounded up, and is the last unit if it is no fraction.
func TestAt(t *testing.T) {
	for _, f := range kinds() {
		for _, sec := range numbers() {
			for _, part := range append(numbers(), den(f)-1, den(f), den(f)+1) {
				h := Head{sec, part, 90, 91}
				if got, want := f.At(h), at(f, h); got != want {
					t.Errorf("%+v: At(%+v): got %+v, want %+v", f, h, got, want)
				}
			}
		}
	}
}

// P8.3: fractions that are rounded up or not, and those that are a second or more.
func TestAtParts(t *testing.T) {
	for _, c := range []struct {
		nano  bool
		part  uint32
		units int64
	}{
		{false, 0, 0}, {false, 1, 4295}, {false, 250000, 1 << 30}, {false, 999999, 4294963002}, {false, 1000000, 4294967295}, {false, 999999999, 4294967295}, {false, math.MaxUint32, 4294967295},
		{true, 0, 0}, {true, 1, 5}, {true, 250000000, 1 << 30}, {true, 1000000, 4294968}, {true, 999999999, 4294967292}, {true, 1000000000, 4294967295}, {true, math.MaxUint32, 4294967295},
	} {
		for _, little := range []bool{false, true} {
			f := File{Little: little, Nano: c.nano}
			for _, sec := range []uint32{0, 1700000000, math.MaxUint32} {
				if got, want := f.At(Head{Sec: sec, Part: c.part}), since1970(int64(sec), c.units); got != want {
					t.Errorf("%+v: At of %d, %d: got %+v, want %+v", f, sec, c.part, got, want)
				}
			}
		}
	}
}

// P8.3: the seconds and the fractions of a moment, rounded down, and none of those before 1970, or too long after it.
func TestWhen(t *testing.T) {
	for _, f := range kinds() {
		for _, w := range moments() {
			sec, part, ok := when(f, w)
			if gotSec, gotPart, gotOk := f.When(w); gotSec != sec || gotPart != part || gotOk != ok {
				t.Errorf("%+v: When(%+v): got %d, %d, %v, want %d, %d, %v", f, w, gotSec, gotPart, gotOk, sec, part, ok)
			}
		}
	}
}

// P8.3: the first and the last moment that there is.
func TestWhenBounds(t *testing.T) {
	for _, f := range kinds() {
		last := den(f) - 1
		for _, c := range []struct {
			w         api.Wide
			sec, part uint32
			ok        bool
		}{
			{since1970(-1, 1<<32-1), 0, 0, false},
			{since1970(0, 0), 0, 0, true},
			{since1970(0, 1<<32-1), 0, last, true},
			{since1970(1<<32-1, 0), math.MaxUint32, 0, true},
			{since1970(1<<32-1, 1<<32-1), math.MaxUint32, last, true},
			{since1970(1<<32, 0), 0, 0, false},
			{since1970(1<<32, 1<<31), 0, 0, false},
			{api.Wide{}, 0, 0, false},
			{api.Wide{Hi: math.MinInt64}, 0, 0, false},
			{api.Wide{Hi: math.MaxInt64, Lo: math.MaxUint64}, 0, 0, false},
		} {
			if sec, part, ok := f.When(c.w); sec != c.sec || part != c.part || ok != c.ok {
				t.Errorf("%+v: When(%+v): %d, %d, %v", f, c.w, sec, part, ok)
			}
		}
	}
}

// P8.4: Open of Bytes, and Head of Put, with the file and the header that they were made of.
func TestRoundTrip(t *testing.T) {
	for _, f := range files() {
		got, no := Open(f.Bytes())
		if no != api.OK || got != f {
			t.Errorf("Open of Bytes of %+v: %+v, %d", f, got, no)
		}
		if !bytes.Equal(got.Bytes(), f.Bytes()) {
			t.Errorf("Bytes of Open of %+v: % x", f, got.Bytes())
		}
	}
	for _, f := range kinds() {
		for _, h := range heads() {
			want, wantNo := h, api.OK
			if h.Part >= den(f) {
				want, wantNo = Head{}, api.ErrBytes
			}
			if got, no := f.Head(f.Put(h), math.MaxInt); no != wantNo || got != want {
				t.Errorf("%+v: Head of Put(%+v): %+v, %d", f, h, got, no)
			}
		}
	}
}

// P8.4: When of At has the seconds and the fraction of the record, and At of When is never later than the moment.
func TestMoments(t *testing.T) {
	for _, f := range kinds() {
		for _, h := range heads() {
			h.Part %= den(f)
			if sec, part, ok := f.When(f.At(h)); sec != h.Sec || part != h.Part || !ok {
				t.Errorf("%+v: When of At(%+v): %d, %d, %v", f, h, sec, part, ok)
			}
		}
		// One fraction after another, up to the last one.
		for part := range uint32(20000) {
			for _, p := range []uint32{part, den(f) - 1 - part, part * (den(f) / 20000)} {
				if _, got, _ := f.When(f.At(Head{Sec: 1, Part: p})); got != p {
					t.Errorf("%+v: When of At of %d: %d", f, p, got)
				}
			}
		}
		for _, w := range moments() {
			sec, part, ok := f.When(w)
			if ok && exact(f.At(Head{Sec: sec, Part: part})).Cmp(exact(w)) > 0 {
				t.Errorf("%+v: At of When(%+v) is later", f, w)
			}
		}
	}
}
