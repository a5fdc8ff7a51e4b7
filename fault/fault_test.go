package fault

import (
	"errors"
	"fmt"
	"math"
	"regexp"
	"slices"
	"strconv"
	"strings"
	"testing"

	"horologe/api"
)

// steps is a fixed sequence of numbers that look like chance.
type steps uint64

func (s *steps) next() uint64 {
	*s += 0x9e3779b97f4a7c15
	x := uint64(*s)
	x = (x ^ x>>30) * 0xbf58476d1ce4e5b9
	x = (x ^ x>>27) * 0x94d049bb133111eb
	return x ^ x>>31
}

// below returns a number from 0 to n-1.
func (s *steps) below(n int) int {
	return int(s.next() % uint64(n))
}

// kinds is all that have names but OK, some that have none, and the edges.
var kinds = []api.Errno{
	api.ErrNil, api.ErrArg, api.ErrLong, api.ErrNone, api.ErrRange, api.ErrState, api.ErrFull, api.ErrBytes, api.ErrText,
	api.ErrMagic, api.ErrShort, api.ErrSnap, api.ErrBlock, api.ErrOrder, api.ErrOther,
	10, 99, 126, 1000, -1, -2, -122, math.MaxInt32, math.MinInt32, math.MaxInt, math.MinInt,
}

// offs is offsets, with the edges.
var offs = []int64{0, 1, -1, 9, 10, 24, -24, 100, 4095, 1 << 31, -1 << 31, 1 << 32, 1 << 62, math.MaxInt64 - 1, math.MaxInt64, math.MinInt64 + 1, math.MinInt64}

// good is words that a note may have.
var good = []string{"a", "z", "0", "9", "-", "--", "x1", "file", "block", "kind", "at", "0-9", "-a-", "pcap-ng-2", "abcdefghijklmnopqrstuvwxyz", "0123456789-", strings.Repeat("w", 31), strings.Repeat("w", 32), strings.Repeat("-", 32)}

// bad is words that no note may have.
var bad = []string{"", "?", "??", "A", "File", "filE", "a b", " a", "a ", " ", "a:", ":", "a_b", "a.b", "a/b", "a\n", "\n", "\x00", "a\x00", "\xff", "a\xe1", "é", "naïve", "١", "a\u0301", "Great Word", strings.Repeat("w", 33), strings.Repeat("w", 34), strings.Repeat("w", 1<<18), strings.Repeat("-", 31) + "é", "file: block"}

// opaque is an error of another package that does not tell what it wraps.
type opaque struct{ error }

// outer is one that wraps another error.
type outer struct {
	s   string
	err error
}

func (o *outer) Error() string { return o.s }
func (o *outer) Unwrap() error { return o.err }

// several is one that wraps several, of which some may be nil, and that cannot be compared.
type several []error

func (l several) Error() string   { return "several" }
func (l several) Unwrap() []error { return l }

// posing is one that is taken for a sort, by a method of its own.
type posing struct{ sort Sort }

func (p posing) Error() string { return "posing" }

func (p posing) Is(target error) bool { return target == p.sort }

func (p posing) As(target any) bool {
	s, ok := target.(*Sort)
	if ok {
		*s = p.sort
	}
	return ok
}

// agreeing is one that says yes whatever it is asked, and sets nothing.
type agreeing struct{}

func (agreeing) Error() string { return "agreeing" }
func (agreeing) Is(error) bool { return true }
func (agreeing) As(any) bool   { return true }

// plain returns an error of another package.
func plain(s string) error {
	return errors.New(s)
}

// under returns an error of another package around err.
func under(err error) *outer {
	return &outer{"outer", err}
}

// wraps returns err with notes of words, the outermost first.
func wraps(err error, words ...string) error {
	for _, word := range slices.Backward(words) {
		err = Wrap(err, word)
	}
	return err
}

// known is an error, and what this package must tell of it.
type known struct {
	err    error
	s      string // its Error string
	sorts  []api.Errno
	offs   []int64
	notes  []string
	line   bool
	length int // how many notes its chain has
}

func ofFault(kind api.Errno, off int64) known {
	s := fmt.Sprintf("kind %d at %d", kind, off)
	return known{err: New(kind, off), s: s, sorts: []api.Errno{kind}, offs: []int64{off}, line: true}
}

func ofSort(kind api.Errno) known {
	return known{err: Sort(kind), s: fmt.Sprintf("kind %d", kind), sorts: []api.Errno{kind}}
}

func ofPlain(s string) known {
	return known{err: plain(s), s: s}
}

// noted returns what is known of k with a note of word, which shows as shown.
func noted(k known, word, shown string) known {
	err := Wrap(k.err, word)
	if k.length >= MaxNotes {
		k.err = err
		return k
	}
	k.err, k.s, k.length = err, shown+": "+k.s, k.length+1
	k.notes = append([]string{shown}, k.notes...)
	return k
}

// covered returns what is known of an error of another package, whose string is s, around k.
func covered(k known, err error, s string) known {
	k.err, k.s, k.notes, k.line = err, s, nil, false
	return k
}

// together returns what is known of an error of another package, whose string is s, around several.
func together(l []known, err error, s string) known {
	all := known{err: err, s: s}
	for _, k := range l {
		all.sorts = append(all.sorts, k.sorts...)
		all.offs = append(all.offs, k.offs...)
	}
	return all
}

// errs returns the errors of l.
func errs(l []known) []error {
	var all []error
	for _, k := range l {
		all = append(all, k.err)
	}
	return all
}

// lines returns the strings of l, joined as errors.Join does it.
func lines(l []known) string {
	var all []string
	for _, k := range l {
		all = append(all, k.s)
	}
	return strings.Join(all, "\n")
}

// check holds all that is told of an error against what is known of it.
func check(t *testing.T, k known) {
	t.Helper()
	if k.err.Error() != k.s {
		t.Errorf("Error: got %.200q, want %.200q", k.err.Error(), k.s)
	}
	kind, ok := Kind(k.err)
	if len(k.sorts) == 0 && (kind != api.OK || ok) || len(k.sorts) > 0 && (kind != k.sorts[0] || !ok) {
		t.Errorf("Kind of %.200q: got %d, %v, want the first of %v", k.s, kind, ok, k.sorts)
	}
	off, ok := Off(k.err)
	if len(k.offs) == 0 && (off != 0 || ok) || len(k.offs) > 0 && (off != k.offs[0] || !ok) {
		t.Errorf("Off of %.200q: got %d, %v, want the first of %v", k.s, off, ok, k.offs)
	}
	for _, kind := range slices.Concat(kinds, k.sorts, []api.Errno{api.OK}) {
		want := slices.Contains(k.sorts, kind)
		if Is(k.err, kind) != want || errors.Is(k.err, Sort(kind)) != want {
			t.Errorf("Is(%.200q, %d): got %v, errors.Is %v, want %v", k.s, kind, Is(k.err, kind), errors.Is(k.err, Sort(kind)), want)
		}
	}
	if notes := Notes(k.err); !slices.Equal(notes, k.notes) {
		t.Errorf("Notes of %.200q: got %.200q, want %.200q", k.s, notes, k.notes)
	}
	line, ok := Line(k.err)
	if k.line && (line != k.s || !ok) || !k.line && (line != "" || ok) {
		t.Errorf("Line of %.200q: got %.200q, %v, want %v", k.s, line, ok, k.line)
	}
	checkSame(t, k)
	if k.line {
		checkParsed(t, k)
	}
}

// checkSame holds a further note of an error against what is known of it.
func checkSame(t *testing.T, k known) {
	t.Helper()
	more := Wrap(k.err, "more")
	if k.length >= MaxNotes && more != k.err {
		t.Errorf("Wrap of %.200q, which has %d notes: got %.200q", k.s, k.length, more)
	}
	if k.length < MaxNotes && (more.Error() != "more: "+k.s || len(Notes(more)) != len(k.notes)+1 || errors.Unwrap(more) == nil) {
		t.Errorf("Wrap of %.200q, which has %d notes: got %.200q, notes %.200q", k.s, k.length, more, Notes(more))
	}
}

// checkParsed holds Parse of the line of an error against what is known of it.
func checkParsed(t *testing.T, k known) {
	t.Helper()
	back, ok := Parse(k.s)
	if !ok || back == nil {
		t.Errorf("Parse(%.400q): got %.200v, %v", k.s, back, ok)
		return
	}
	line, lineOk := Line(back)
	kind, kindOk := Kind(back)
	off, offOk := Off(back)
	if line != k.s || !lineOk || back.Error() != k.s || kind != k.sorts[0] || !kindOk || off != k.offs[0] || !offOk || !Is(back, kind) || !slices.Equal(Notes(back), k.notes) {
		t.Errorf("Parse(%.400q): got %.200q, %v, %d, %v, %d, %v, %.200q", k.s, line, lineOk, kind, kindOk, off, offOk, Notes(back))
	}
}

// checkRefused holds Parse of a string that is the line of no error.
func checkRefused(t *testing.T, s string) {
	t.Helper()
	if err, ok := Parse(s); ok || err != nil {
		t.Errorf("Parse(%.200q): got %v, %v", s, err, ok)
	}
}

// form is what the lines of errors look like; their numbers have bounds, too.
var form = regexp.MustCompile(`^(?:(?:[a-z0-9-]{1,32}|\?): ){0,8}kind (-?[1-9][0-9]*) at (0|-?[1-9][0-9]*)$`)

// isLine reports whether s is the line of an error, in a plainer way.
func isLine(s string) bool {
	m := form.FindStringSubmatch(s)
	if m == nil || len(s) > 400 {
		return false
	}
	_, err := strconv.Atoi(m[1])
	_, offErr := strconv.ParseInt(m[2], 10, 64)
	return err == nil && offErr == nil
}

// checkParse holds Parse of s against isLine.
func checkParse(t *testing.T, s string) {
	t.Helper()
	if !isLine(s) {
		checkRefused(t, s)
		return
	}
	err, ok := Parse(s)
	if line, is := Line(err); !ok || !is || line != s {
		t.Errorf("Parse(%q): got %v, %v", s, err, ok)
	}
}

// P6.1, P6.2, P6.3: the rows of the chapter's table.
func TestExamples(t *testing.T) {
	err := Wrap(Wrap(New(api.ErrSnap, 24), "block"), "file")
	if s, ok := Line(err); s != "file: block: kind 122 at 24" || !ok {
		t.Errorf("Line: %q, %v", s, ok)
	}
	if kind, ok := Kind(err); kind != 122 || !ok {
		t.Errorf("Kind: %d, %v", kind, ok)
	}
	if off, ok := Off(err); off != 24 || !ok {
		t.Errorf("Off: %d, %v", off, ok)
	}
	if !Is(err, api.ErrSnap) || Is(err, api.ErrBlock) {
		t.Errorf("Is: %v, %v", Is(err, api.ErrSnap), Is(err, api.ErrBlock))
	}
	if err := Wrap(nil, "x"); err != nil {
		t.Errorf("Wrap(nil): %v", err)
	}
	if err := New(api.OK, 5); err != nil {
		t.Errorf("New(OK): %v", err)
	}
}

// P6.1: an error has at most eight notes.
func TestMaxNotes(t *testing.T) {
	if MaxNotes != 8 {
		t.Errorf("MaxNotes: %d", MaxNotes)
	}
}

// P6.1, P6.2, P6.3: faults of all kinds, at all offsets, alone and with up to MaxNotes notes.
func TestFaults(t *testing.T) {
	for _, kind := range kinds {
		for _, off := range offs {
			k := ofFault(kind, off)
			check(t, k)
			if s, ok := errors.Unwrap(k.err).(Sort); !ok || s != Sort(kind) {
				t.Errorf("a fault of kind %d wraps %v", kind, errors.Unwrap(k.err))
			}
		}
	}
	for _, word := range good {
		k := ofFault(api.ErrBlock, 7)
		for range MaxNotes + 3 {
			k = noted(k, word, word)
			check(t, k)
		}
	}
}

// P6.1: New of the kind OK returns nil, whatever the offset.
func TestNewOfOK(t *testing.T) {
	for _, off := range offs {
		if err := New(api.OK, off); err != nil {
			t.Errorf("New(OK, %d): %v", off, err)
		}
	}
}

// P6.1, P6.2, P6.3: a sort, alone and under notes, has a kind, and neither an offset nor a line.
func TestSorts(t *testing.T) {
	for _, kind := range append(kinds, api.OK) {
		if s := Sort(kind).Error(); s != "kind "+strconv.Itoa(int(kind)) {
			t.Errorf("Error of Sort(%d): %q", kind, s)
		}
		k := ofSort(kind)
		check(t, k)
		for range MaxNotes + 1 {
			k = noted(k, "word", "word")
			check(t, k)
		}
		check(t, covered(ofSort(kind), under(Sort(kind)), "outer"))
	}
}

// P6.1: Wrap of nil returns nil, whatever the word.
func TestWrapOfNil(t *testing.T) {
	for _, word := range slices.Concat(good, bad) {
		if err := Wrap(nil, word); err != nil {
			t.Errorf("Wrap(nil, %.50q): not nil", word)
		}
	}
}

// P6.1, P6.2, P6.3: a word that no note may have shows as a question mark, and no other does.
func TestWords(t *testing.T) {
	inner := noted(ofFault(api.ErrMagic, 3), "in", "in")
	for _, word := range good {
		check(t, noted(inner, word, word))
	}
	for _, word := range bad {
		check(t, noted(inner, word, "?"))
	}
	for n := range 100 {
		word := strings.Repeat("n", n)
		if n >= 1 && n <= 32 {
			check(t, noted(inner, word, word))
		} else {
			check(t, noted(inner, word, "?"))
		}
	}
}

// P6.1: each byte, at each place of a word, is one that it may or may not hold.
func TestEveryByteInAWord(t *testing.T) {
	for n := range 256 {
		c := string([]byte{byte(n)})
		may := strings.Contains("abcdefghijklmnopqrstuvwxyz0123456789-", c)
		for _, word := range []string{c, c + "word", "word" + c, "wo" + c + "rd", c + c, strings.Repeat("w", 31) + c, c + strings.Repeat("w", 31)} {
			shown := word
			if !may {
				shown = "?"
			}
			check(t, noted(ofFault(api.ErrText, 0), word, shown))
		}
	}
}

// P6.1: an error that has MaxNotes notes is not wrapped any more, also if other errors lie around and between them; what several errors wrap is not in the chain.
func TestWrapOfMaxNotes(t *testing.T) {
	for n := range 12 {
		for _, inner := range []known{ofFault(api.ErrSnap, 5), ofSort(api.ErrSnap), ofPlain("x")} {
			k := inner
			for i := range n {
				k = noted(k, "n"+strconv.Itoa(i), "n"+strconv.Itoa(i))
			}
			check(t, k)
			around := covered(k, under(k.err), "outer")
			check(t, around)
			check(t, covered(k, fmt.Errorf("x: %w", k.err), "x: "+k.s))
			for range MaxNotes + 2 {
				around = noted(around, "again", "again")
				check(t, around)
			}
			joined := together([]known{k}, errors.Join(k.err), k.s)
			for range MaxNotes + 2 {
				check(t, joined)
				joined = noted(joined, "again", "again")
			}
		}
	}
	err := wraps(New(api.ErrSnap, 1), "a", "b", "c", "d")
	err = wraps(&outer{"outer", err}, "e", "f", "g", "h")
	if more := Wrap(err, "i"); more != err || Wrap(under(err), "i").Error() != "outer" {
		t.Errorf("Wrap of four notes around an error around four: %v", more)
	}
	if notes := Notes(err); !slices.Equal(notes, []string{"e", "f", "g", "h"}) {
		t.Errorf("Notes: %q", notes)
	}
}

// P6.1: what Wrap leaves as it is, is the same error, and what it wraps is, too.
func TestWrapKeepsTheError(t *testing.T) {
	inner := plain("x")
	err := Wrap(inner, "word")
	if errors.Unwrap(err) != inner || !errors.Is(err, inner) {
		t.Errorf("Unwrap: %v", errors.Unwrap(err))
	}
	o := under(New(api.ErrArg, 2))
	err = wraps(o, "a", "b", "c")
	var found *outer
	if !errors.As(err, &found) || found != o {
		t.Errorf("As: %v", found)
	}
}

// P6.2, P6.3: of nil nothing is told.
func TestNil(t *testing.T) {
	if kind, ok := Kind(nil); kind != api.OK || ok {
		t.Errorf("Kind: %d, %v", kind, ok)
	}
	if off, ok := Off(nil); off != 0 || ok {
		t.Errorf("Off: %d, %v", off, ok)
	}
	for _, kind := range append(kinds, api.OK) {
		if Is(nil, kind) {
			t.Errorf("Is(nil, %d)", kind)
		}
	}
	if notes := Notes(nil); len(notes) != 0 {
		t.Errorf("Notes: %q", notes)
	}
	if s, ok := Line(nil); s != "" || ok {
		t.Errorf("Line: %q, %v", s, ok)
	}
}

// P6.2, P6.3: errors of other packages, alone, around errors of this one, and under notes.
func TestOtherErrors(t *testing.T) {
	f := noted(ofFault(api.ErrSnap, 24), "block", "block")
	s := ofSort(api.ErrFull)
	for _, k := range []known{
		ofPlain(""),
		ofPlain("x"),
		// a string that looks like a line is none
		ofPlain("kind 122 at 24"),
		ofPlain("file: kind 122 at 24"),
		{err: several{}, s: "several"},
		{err: several{nil}, s: "several"},
		{err: under(nil), s: "outer"},
		// what does not tell what it wraps
		{err: opaque{f.err}, s: f.s},
		{err: opaque{s.err}, s: s.s},
		{err: fmt.Errorf("x: %v", f.err), s: "x: " + f.s},
		// one within
		covered(f, under(f.err), "outer"),
		covered(f, under(under(under(f.err))), "outer"),
		covered(f, fmt.Errorf("%w", f.err), f.s),
		covered(f, fmt.Errorf("x: %w", f.err), "x: "+f.s),
		covered(s, fmt.Errorf("%w at 24", s.err), s.s+" at 24"),
		// several within, and the error at any place
		together([]known{f}, errors.Join(f.err), f.s),
		together([]known{f}, errors.Join(nil, f.err, nil), f.s),
		together([]known{f}, errors.Join(plain("x"), f.err), "x\n"+f.s),
		together([]known{f}, errors.Join(f.err, plain("x")), f.s+"\nx"),
		together([]known{f}, errors.Join(plain("x"), f.err, plain("y")), "x\n"+f.s+"\ny"),
		together([]known{f}, errors.Join(plain("x"), errors.Join(plain("y"), f.err)), "x\ny\n"+f.s),
		together([]known{f}, fmt.Errorf("%w and %w", plain("x"), f.err), "x and "+f.s),
		together([]known{f}, fmt.Errorf("%w and %w", f.err, plain("x")), f.s+" and x"),
		together([]known{f}, several{nil, plain("x"), f.err}, "several"),
		together(nil, errors.Join(plain("x"), plain("y")), "x\ny"),
		together(nil, fmt.Errorf("%w and %w", plain("x"), plain("y")), "x and y"),
		// a sort before a fault: its kind, but the fault's offset
		together([]known{s, f}, errors.Join(s.err, f.err), s.s+"\n"+f.s),
		together([]known{f, s}, errors.Join(f.err, s.err), f.s+"\n"+s.s),
		together([]known{s, f}, fmt.Errorf("%w, %w", wraps(s.err, "a", "b"), under(f.err)), "a: b: "+s.s+", outer"),
	} {
		for range MaxNotes + 1 {
			check(t, k)
			k = noted(k, "note", "note")
		}
	}
}

// P6.2: of two faults in one error the first one counts.
func TestTwoFaults(t *testing.T) {
	for _, c := range []error{
		errors.Join(New(3, 30), New(4, 40)),
		errors.Join(plain("x"), wraps(New(3, 30), "a"), wraps(New(4, 40), "b", "c")),
		fmt.Errorf("%w and %w", under(New(3, 30)), New(4, 40)),
		errors.Join(errors.Join(plain("x"), errors.Join(plain("y"), New(3, 30))), New(4, 40)),
		Wrap(several{nil, under(errors.Join(New(3, 30))), New(4, 40)}, "a"),
	} {
		kind, kindOk := Kind(c)
		off, offOk := Off(c)
		if kind != 3 || !kindOk || off != 30 || !offOk || !Is(c, 3) || !Is(c, 4) || Is(c, 5) {
			t.Errorf("%q: got %d, %v, %d, %v, %v, %v, %v", c, kind, kindOk, off, offOk, Is(c, 3), Is(c, 4), Is(c, 5))
		}
		if s, ok := Line(c); s != "" || ok {
			t.Errorf("Line(%q): %q, %v", c, s, ok)
		}
	}
}

// P6.2: what errors of other packages say themselves, when errors.As and errors.Is ask them, is what is told.
func TestErrorsThatAnswer(t *testing.T) {
	for _, err := range []error{posing{7}, Wrap(posing{7}, "a"), under(posing{7}), errors.Join(posing{7}, New(8, 80))} {
		if kind, ok := Kind(err); kind != 7 || !ok || !Is(err, 7) {
			t.Errorf("%q: got %d, %v, %v", err, kind, ok, Is(err, 7))
		}
	}
	if off, ok := Off(posing{7}); off != 0 || ok {
		t.Errorf("Off: %d, %v", off, ok)
	}
	err := Wrap(agreeing{}, "a")
	kind, kindOk := Kind(err)
	off, offOk := Off(err)
	if kind != 0 || !kindOk || off != 0 || !offOk || !Is(err, 99) {
		t.Errorf("an error that agrees: got %d, %v, %d, %v, %v", kind, kindOk, off, offOk, Is(err, 99))
	}
	if s, ok := Line(err); s != "" || ok {
		t.Errorf("Line: %q, %v", s, ok)
	}
}

// P6.1, P6.2: errors that cannot be compared do no harm under notes.
func TestErrorsThatCannotBeCompared(t *testing.T) {
	inner := several{New(api.ErrFull, 6)}
	err := Wrap(inner, "a")
	same := Wrap(inner, "a")
	if !errors.Is(err, err) || errors.Is(err, same) || errors.Is(err, plain("x")) {
		t.Error("errors.Is of notes around errors that cannot be compared")
	}
	if off, ok := Off(err); off != 6 || !ok || !Is(err, api.ErrFull) {
		t.Errorf("Off: %d, %v", off, ok)
	}
}

// P6.2: the words that Notes returns are the caller's own.
func TestNotesAreNew(t *testing.T) {
	err := wraps(New(api.ErrArg, 1), "a", "b", "c")
	l := Notes(err)
	l[0], l[1] = "x", "y"
	_ = append(l[:1], "z")
	if notes := Notes(err); !slices.Equal(notes, []string{"a", "b", "c"}) {
		t.Errorf("Notes: %q", notes)
	}
	if err.Error() != "a: b: c: kind 2 at 1" {
		t.Errorf("Error: %q", err)
	}
}

// random returns an error, of at most depth levels, and what is known of it.
func random(by *steps, depth int) known {
	kind, off := kinds[by.below(len(kinds))], offs[by.below(len(offs))]
	if depth == 0 {
		return []known{ofFault(kind, off), ofFault(kind, int64(by.next())), ofSort(kind), ofPlain("x")}[by.below(4)]
	}
	k := random(by, depth-1)
	switch by.below(8) {
	case 0:
		return covered(k, under(k.err), "outer")
	case 1:
		return covered(k, fmt.Errorf("<%w>", k.err), "<"+k.s+">")
	case 2:
		l := []known{k, random(by, by.below(depth)), random(by, by.below(depth))}
		return together(l, errors.Join(errs(l)...), lines(l))
	case 3:
		l := []known{random(by, by.below(depth)), k}
		return together(l, fmt.Errorf("%w; %w", l[0].err, l[1].err), l[0].s+"; "+l[1].s)
	case 4:
		word := bad[by.below(len(bad))]
		return noted(k, word, "?")
	}
	word := good[by.below(len(good))]
	return noted(k, word, word)
}

// P6.1, P6.2, P6.3, P6.4: errors of all shapes, held against what is known of their parts.
func TestErrorsOfAllShapes(t *testing.T) {
	by := steps(1)
	for i := 0; i < 20000 && !t.Failed(); i++ {
		check(t, random(&by, i%14))
	}
}

// P6.3, P6.4: each line is parsed as an error of that line, and of the same kind, offset and notes.
func TestParse(t *testing.T) {
	by := steps(2)
	for i := 0; i < 20000 && !t.Failed(); i++ {
		k := ofFault(kinds[by.below(len(kinds))], offs[by.below(len(offs))])
		if i%2 == 0 {
			k = ofFault(api.Errno(by.next()>>by.below(64))|1, int64(by.next())>>by.below(64))
		}
		for range by.below(MaxNotes + 1) {
			word := good[by.below(len(good))]
			if by.below(4) == 0 {
				k = noted(k, "?", "?")
			} else {
				k = noted(k, word, word)
			}
		}
		check(t, k)
	}
}

// P6.3: lines written out.
func TestParseAtTheEdges(t *testing.T) {
	longest := strings.Repeat(strings.Repeat("w", 32)+": ", 8) + "kind -9223372036854775808 at -9223372036854775808"
	for _, s := range []string{
		"kind 1 at 0", "kind 122 at 24", "kind -1 at -1", "kind 125 at 9223372036854775807", "kind 16 at -9223372036854775808", "kind -7 at 10", "kind 10 at 100",
		"kind 9223372036854775807 at 0", "kind -9223372036854775808 at 0",
		"a: kind 1 at 0", "?: kind 1 at 0", "-: kind 1 at 0", "0: kind 1 at 0", "?: ?: ?: ?: ?: ?: ?: ?: kind 1 at 0",
		"kind: at: kind 1 at 2", "kind: 1: at: 0: kind 1 at 0", "file: block: kind 122 at 24", "a: b: c: d: e: f: g: h: kind 1 at 1",
		longest,
	} {
		if !isLine(s) {
			t.Errorf("isLine(%q)", s)
		}
		checkParse(t, s)
	}
	if len(longest) > 400 {
		t.Errorf("the longest line has %d bytes", len(longest))
	}
}

// wrong is strings that are the line of no error.
var wrong = []string{
	"", " ", "  ", "   ", "    ", ":", "?", "a", "a:", "a: ", "?: ", "kind", "at", "kind 1", "kind 1 ", "kind 1 at", "kind 1 at ", "1 at 1", "at 1", "kind at", "kind at 1", "kind  at 1", "kind 1 1", "1 1",
	// other words, and words at other places
	"Kind 1 at 1", "KIND 1 at 1", "sort 1 at 1", "kinds 1 at 1", "kin 1 at 1", "kind: 1 at 1", "? 1 at 1", " 1 at 1", "kind 1 At 1", "kind 1 in 1", "kind 1 at: 1", "kind 1 a 1", "kind 1 att 1", "kind 1 ? 1", "kind 1  1", "at 1 kind 1", "kind 1 at 1 kind 1 at 1", "kind 1 at 1: kind 1 at 1", "kind 1 at 1 a", "kind 1 at 1: a", "kind 1 at 1:", "kind 1 at 1 :", "kind 1: a: at 1", "kind a: 1 at 1", "a kind 1 at 1",
	// colons and blanks
	"a:kind 1 at 1", "a kind 1 at 1", "a :kind 1 at 1", "a : kind 1 at 1", "a:: kind 1 at 1", ":a: kind 1 at 1", "a:  kind 1 at 1", ": kind 1 at 1", ":: kind 1 at 1", "a; kind 1 at 1", "a: b kind 1 at 1", "a:b: kind 1 at 1", "a b: kind 1 at 1", "a:  b: kind 1 at 1", "a: : kind 1 at 1", "a:\tkind 1 at 1", "a:\nkind 1 at 1", "a:\u00a0kind 1 at 1",
	"kind  1 at 1", "kind 1  at 1", "kind 1 at  1", "kind\t1 at 1", "kind 1\nat 1", "kind1 at 1", "kind 1at 1", "kind 1 at1", "kind1at1", "kind_1_at_1",
	" kind 1 at 1", "kind 1 at 1 ", "\nkind 1 at 1", "kind 1 at 1\n", "kind 1 at 1\r\n", "\tkind 1 at 1", "kind 1 at 1\x00", "\x00kind 1 at 1", " a: kind 1 at 1", "\na: kind 1 at 1", "a: kind 1 at 1 ", "a: kind 1 at 1\n", "\ufeffkind 1 at 1",
	// numbers
	"kind 0 at 1", "kind 0 at 0", "a: kind 0 at 1", "kind -0 at 1", "kind 00 at 1", "kind 01 at 1", "kind -01 at 1", "kind +1 at 1", "kind - at 1", "kind + at 1", "kind --1 at 1", "kind 1. at 1", "kind 1.0 at 1", "kind 1e2 at 1", "kind 0x1 at 1", "kind 1_0 at 1", "kind a at 1", "kind 1a at 1", "kind ١ at 1", "kind １ at 1", "kind ErrNil at 1", "kind \u22121 at 1",
	"kind 1 at 01", "kind 1 at 00", "kind 1 at -0", "kind 1 at -01", "kind 1 at +1", "kind 1 at +0", "kind 1 at -", "kind 1 at --1", "kind 1 at 1.", "kind 1 at 1.0", "kind 1 at 1e2", "kind 1 at 0x1", "kind 1 at 1_0", "kind 1 at a", "kind 1 at 1a", "kind 1 at ١", "kind 1 at １", "kind 1 at \u22121",
	"kind 9223372036854775808 at 1", "kind -9223372036854775809 at 1", "kind 18446744073709551616 at 1", "kind 18446744073709551617 at 1", "kind 99999999999999999999 at 1", "kind 340282366920938463463374607431768211457 at 1",
	"kind 1 at 9223372036854775808", "kind 1 at -9223372036854775809", "kind 1 at 18446744073709551615", "kind 1 at 18446744073709551616", "kind 1 at 99999999999999999999", "kind 1 at 340282366920938463463374607431768211456",
	// words that no note has
	"A: kind 1 at 1", "aB: kind 1 at 1", "??: kind 1 at 1", "a?: kind 1 at 1", "?a: kind 1 at 1", "a_b: kind 1 at 1", "a.b: kind 1 at 1", "é: kind 1 at 1", "\xff: kind 1 at 1", "\x80\x80: kind 1 at 1", "١: kind 1 at 1", "a\x00: kind 1 at 1", "ok: A: kind 1 at 1", "A: ok: kind 1 at 1", "!: kind 1 at 1",
	"wwwwwwwwwwwwwwwwwwwwwwwwwwwwwwwww: kind 1 at 1",
	// too many of them
	"a: b: c: d: e: f: g: h: i: kind 1 at 1", "?: ?: ?: ?: ?: ?: ?: ?: ?: kind 1 at 1", "a: a: a: a: a: a: a: a: a: a: a: a: a: a: a: a: kind 1 at 1",
	// what sorts and other errors say
	"kind 122", "file: kind 122", "outer: x", "file: block: x",
	// bytes beyond 127
	"k\xefnd 1 at 1", "kind\xa01 at 1", "kind \xb1 at 1", "kind 1 at \xb1", "kind 1 at 1\xff", "\xffkind 1 at 1",
}

// P6.3: what is the line of no error is refused, and nothing is returned with it.
func TestStringsOfNoError(t *testing.T) {
	for _, s := range wrong {
		if isLine(s) {
			t.Errorf("isLine(%q)", s)
		}
		checkRefused(t, s)
	}
}

// P6.3: long strings are refused, also those of which an end is a line.
func TestLongStrings(t *testing.T) {
	for _, c := range []string{"a", " ", ":", "a: ", "?: ", "0", "9", "-", "\n", "\x00", "\xff", "é", "kind 1 at 1", "kind 1 at 1 "} {
		for _, n := range []int{380, 389, 390, 399, 400, 401, 402, 500, 1 << 18} {
			s := strings.Repeat(c, n/len(c)+1)[:n]
			for _, s := range []string{s, s + "kind 1 at 1", s + ": kind 1 at 1", "kind 1 at 1" + s, "a: " + s + "kind 1 at 1", "kind " + s + " at 1", "kind 1 at " + s, "kind 1" + s + " at 1"} {
				checkRefused(t, s)
			}
		}
	}
	for n := range 40 {
		s := strings.Repeat(strings.Repeat("w", n)+": ", 8) + "kind 1 at 1"
		checkParse(t, s)
		checkParse(t, "w: "+s)
	}
}

// samples is lines whose parts are changed.
var samples = []string{"kind 1 at 0", "kind -12 at -34", "a: kind 10 at 100", "?: kind 122 at 24", "file: block: kind 122 at 24", "a: b: c: d: e: f: g: h: kind 1 at 1", strings.Repeat("w", 32) + ": kind 9223372036854775807 at -9223372036854775808"}

// P6.3: each byte, before, after, within and in place of a part of a line, is accepted only where the line is that of an error.
func TestEveryByteInALine(t *testing.T) {
	for n := range 256 {
		c := string([]byte{byte(n)})
		for _, s := range samples {
			for at := 0; at <= len(s); at++ {
				checkParse(t, s[:at]+c+s[at:])
				if at < len(s) {
					checkParse(t, s[:at]+c+s[at+1:])
				}
			}
		}
	}
}

// P6.3: no part of a line but its end, from a note on, is a line, and neither is what is left without a part.
func TestPartsOfLines(t *testing.T) {
	for _, s := range samples {
		for at := range len(s) + 1 {
			for end := at; end <= len(s); end++ {
				checkParse(t, s[at:end])
				checkParse(t, s[:at]+s[end:])
			}
		}
	}
}

// P6.3: lines that are changed at some places are accepted where they are those of errors.
func TestChangedLines(t *testing.T) {
	by := steps(3)
	pieces := []string{"", " ", ":", ": ", "kind", "at", "kind 1 at 1", " at ", "a", "a: ", "?", "?: ", "0", "1", "-", "+", "A", "\n", "\xff", "99999999999", "é"}
	for range 100000 {
		s := samples[by.below(len(samples))]
		for range 1 + by.below(3) {
			at := by.below(len(s) + 1)
			end := min(len(s), at+by.below(5))
			s = s[:at] + pieces[by.below(len(pieces))] + s[end:]
		}
		checkParse(t, s)
	}
}
