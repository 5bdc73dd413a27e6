package entry_test

import (
	"bytes"
	"encoding/binary"
	"fmt"
	"math"
	"slices"
	"strings"
	"testing"
	"unicode/utf8"

	"loggia/api"
	"loggia/entry"
)

// row: a row of entries, by a shorter name.
type row = []entry.Entry

// of is an entry.
func of(name string, inode uint32) entry.Entry { return entry.Entry{Name: name, Inode: inode} }

// long: n bytes of a name.
func long(n int) string { return strings.Repeat("n", n) }

// wrongNames: names that are none, each with the error that tells it.
func wrongNames() map[string]api.Errno {
	l := map[string]api.Errno{
		"": api.ErrName, ".": api.ErrName, "..": api.ErrName,
		"/": api.ErrName, "a/": api.ErrName, "/a": api.ErrName, "a/b": api.ErrName,
		"\x00": api.ErrName, "\x00a": api.ErrName, "a\x00": api.ErrName, "a\x00b": api.ErrName,
		"\x80": api.ErrName, "\xff": api.ErrName, "a\xc3": api.ErrName, "\xc0\xaf": api.ErrName, "\xed\xa0\x80": api.ErrName, "\xf4\x90\x80\x80": api.ErrName, "\xe2\x82": api.ErrName,
		long(65): api.ErrName, long(1000): api.ErrName, long(28) + "/": api.ErrName, long(28) + "\x00": api.ErrName, long(30) + "\xff": api.ErrName, long(28) + "\n": api.ErrName,
		long(29): api.ErrLong, long(30): api.ErrLong, long(32): api.ErrLong, long(64): api.ErrLong,
		strings.Repeat("\u00e9", 15): api.ErrLong, long(26) + "\u20ac": api.ErrLong, strings.Repeat(".", 29): api.ErrLong,
	}
	for c := range rune(0x20) {
		l[string(c)], l["a"+string(c)] = api.ErrName, api.ErrName
	}
	return l
}

// goodNames: names that may be, in their order; some are the beginning of others, some have several bytes a code point.
func goodNames() []string {
	l := []string{
		" ", " a", "...", "..a", ".a", "0", "00", "A", "B", "Z", "a", "a ", "a a", "a.", "a0", "aa", "aaa", "aaaa", "aab", "ab", "b", "ba", "z", "zz", "~", "\x7f",
		"\u0080", "\u00e9", "\u00e9a", "\u07ff", "\u0800", "\u20ac", "\ud7ff", "\ue000", "\ufffd", "\uffff", "\U00010000", "\U0001F600", "\U0010FFFF",
		long(1), long(2), long(26), long(27), long(28), strings.Repeat("\u00e9", 14), "b" + strings.Repeat("\u20ac", 9), strings.Repeat("\U0001F600", 7), strings.Repeat("\u20ac", 8) + "abcd", long(27) + "o", long(27) + "m",
	}
	slices.Sort(l)
	return l
}

// many: a row of n entries, each inode another one, with names of each length.
func many(n int) row {
	l := row{}
	for k := range n {
		l = append(l, of(fmt.Sprintf("f%04d", k)+strings.Repeat("x", k%24), uint32(k)*0x01010101+1))
	}
	return l
}

// nameError: what keeps s from being a name, the plain way.
func nameError(s string) api.Errno {
	if s == "" || s == "." || s == ".." || len(s) > 64 || !utf8.ValidString(s) {
		return api.ErrName
	}
	for k := range len(s) {
		if s[k] < 0x20 || s[k] == '/' {
			return api.ErrName
		}
	}
	if len(s) > 28 {
		return api.ErrLong
	}
	return api.OK
}

// entryError: what is wrong with e alone, the plain way.
func entryError(e entry.Entry) api.Errno {
	if err := nameError(e.Name); err != api.OK {
		return err
	}
	if e.Inode == 0 {
		return api.ErrArg
	}
	return api.OK
}

// rowError: what is wrong with l, the plain way.
func rowError(l row) api.Errno {
	last := ""
	for _, e := range l {
		if err := entryError(e); err != api.OK {
			return err
		}
		if e.Name <= last {
			return api.ErrTwice
		}
		last = e.Name
	}
	return api.OK
}

// written: a row in bytes, the plain way, whatever its names (of 28 bytes at most) and inodes are.
func written(l row) []byte {
	b := make([]byte, 32*len(l))
	for k, e := range l {
		binary.LittleEndian.PutUint32(b[32*k:], e.Inode)
		if copy(b[32*k+4:32*k+32], e.Name) != len(e.Name) {
			panic("a name that has no room")
		}
	}
	return b
}

// told: the row that b tells, read the plain way, and whether it is one.
func told(b []byte) (row, bool) {
	var l row
	for k := 0; k < len(b); k += 32 {
		if len(b) < k+32 {
			return nil, false
		}
		name, behind, _ := strings.Cut(string(b[k+4:k+32]), "\x00")
		if strings.Trim(behind, "\x00") != "" {
			return nil, false
		}
		l = append(l, of(name, binary.LittleEndian.Uint32(b[k:])))
	}
	if rowError(l) != api.OK {
		return nil, false
	}
	return l, true
}

// kept asks that l, which is a row, be in its bytes and back.
func kept(t testing.TB, l row) {
	t.Helper()
	b, err := entry.Encode(l)
	if !bytes.Equal(b, written(l)) || err != api.OK {
		t.Errorf("P1301: Encode(%#v): %#v, %v", l, b, err)
	}
	if x, err := entry.Decode(written(l)); !slices.Equal(x, l) || err != api.OK {
		t.Errorf("P1301: Decode of %#v: %#v, %v", l, x, err)
	}
}

// refused asks that l be refused with want.
func refused(t testing.TB, l row, want api.Errno) {
	t.Helper()
	if b, err := entry.Encode(l); len(b) != 0 || err != want {
		t.Errorf("P1301: Encode(%#v): %#v, %v, not %v", l, b, err, want)
	}
}

// asked asks for l as it may be or not, and tells whether it may.
func asked(t testing.TB, l row) bool {
	t.Helper()
	if err := rowError(l); err != api.OK {
		refused(t, l, err)
		return false
	}
	kept(t, l)
	return true
}

// none asks that b be no row's.
func none(t testing.TB, what string, b []byte) {
	t.Helper()
	if l, err := entry.Decode(b); len(l) != 0 || err != api.ErrForm {
		t.Errorf("P1301: Decode of %s: %#v, %v", what, l, err)
	}
}

// decoded asks that Decode tell b as the plain way does, and tells whether it is a row's.
func decoded(t testing.TB, b []byte) bool {
	t.Helper()
	want, is := told(b)
	wantError := api.OK
	if !is {
		wantError = api.ErrForm
	}
	if l, err := entry.Decode(b); !slices.Equal(l, want) || err != wantError {
		t.Errorf("P1301: Decode of %#v: %#v, %v, not %#v, %v", b, l, err, want, wantError)
	}
	return is
}

// where: at which entry of l the name is, the plain way; -1: at none.
func where(l row, name string) int {
	for k, e := range l {
		if e.Name == name {
			return k
		}
	}
	return -1
}

// with: what Put answers, the plain way.
func with(l row, e entry.Entry) (row, api.Errno) {
	if err := entryError(e); err != api.OK {
		return nil, err
	}
	if where(l, e.Name) >= 0 {
		return nil, api.ErrTwice
	}
	var x row
	for _, o := range l {
		if o.Name < e.Name {
			x = append(x, o)
		}
	}
	return append(append(x, e), l[len(x):]...), api.OK
}

// without: what Cut answers, the plain way.
func without(l row, name string) (row, api.Errno) {
	if where(l, name) < 0 {
		return nil, api.ErrName
	}
	var x row
	for _, e := range l {
		if e.Name != name {
			x = append(x, e)
		}
	}
	return x, api.OK
}

// found asks that Find, in l, tell what the plain way does.
func found(t testing.TB, l row, name string) {
	t.Helper()
	k, want := where(l, name), uint32(0)
	if k >= 0 {
		want = l[k].Inode
	}
	if n, ok := entry.Find(l, name); n != want || ok != (k >= 0) {
		t.Errorf("P1301: Find(%#v, %#v): %d, %v", l, name, n, ok)
	}
}

// put asks that Put, to l, tell what the plain way does; it tells the row that comes of it.
func put(t testing.TB, l row, e entry.Entry) (row, api.Errno) {
	t.Helper()
	want, wantError := with(l, e)
	old := slices.Clone(l)
	x, err := entry.Put(l, e)
	if !slices.Equal(x, want) || err != wantError {
		t.Errorf("P1301: Put(%#v, %#v): %#v, %v, not %#v, %v", l, e, x, err, want, wantError)
	}
	if !slices.Equal(l, old) {
		t.Errorf("P2: Put turned %#v into %#v", old, l)
	}
	return x, err
}

// cut asks that Cut, of l, tell what the plain way does; it tells the row that comes of it.
func cut(t testing.TB, l row, name string) (row, api.Errno) {
	t.Helper()
	want, wantError := without(l, name)
	old := slices.Clone(l)
	x, err := entry.Cut(l, name)
	if !slices.Equal(x, want) || err != wantError {
		t.Errorf("P1301: Cut(%#v, %#v): %#v, %v, not %#v, %v", l, name, x, err, want, wantError)
	}
	if !slices.Equal(l, old) {
		t.Errorf("P2: Cut turned %#v into %#v", old, l)
	}
	return x, err
}

func TestWrittenOut(t *testing.T) {
	zeros := func(n int) string { return strings.Repeat("\x00", n) }
	for _, c := range []struct {
		l    row
		want string
	}{
		{nil, ""},
		{row{}, ""},
		{row{of("a", 1)}, "\x01\x00\x00\x00a" + zeros(27)},
		{row{of("a", 0x04030201)}, "\x01\x02\x03\x04a" + zeros(27)},
		{row{of("~", math.MaxUint32)}, "\xff\xff\xff\xff~" + zeros(27)},
		{row{of("abc", 0x80000000)}, "\x00\x00\x00\x80abc" + zeros(25)},
		{row{of("abcdefghijklmnopqrstuvwxyz0", 0x100)}, "\x00\x01\x00\x00abcdefghijklmnopqrstuvwxyz0" + zeros(1)},
		{row{of("abcdefghijklmnopqrstuvwxyz01", 0x10000)}, "\x00\x00\x01\x00abcdefghijklmnopqrstuvwxyz01"},
		{row{of("\u00e9\u20ac\U0001F600", 7)}, "\x07\x00\x00\x00\xc3\xa9\xe2\x82\xac\xf0\x9f\x98\x80" + zeros(19)},
		{row{of("a", 2), of("b", 1)}, "\x02\x00\x00\x00a" + zeros(27) + "\x01\x00\x00\x00b" + zeros(27)},
		{row{of("a", 5), of("aa", 5), of("ab", 5)}, "\x05\x00\x00\x00a" + zeros(27) + "\x05\x00\x00\x00aa" + zeros(26) + "\x05\x00\x00\x00ab" + zeros(26)},
		{row{of("B", 0x0a0b0c0d), of("abcdefghijklmnopqrstuvwxyz01", 300), of("\u00e9", 9)}, "\x0d\x0c\x0b\x0aB" + zeros(27) + "\x2c\x01\x00\x00abcdefghijklmnopqrstuvwxyz01" + "\x09\x00\x00\x00\xc3\xa9" + zeros(26)},
	} {
		if b, err := entry.Encode(c.l); string(b) != c.want || err != api.OK {
			t.Errorf("P1301: Encode(%#v): %#v, %v", c.l, b, err)
		}
		if l, err := entry.Decode([]byte(c.want)); !slices.Equal(l, c.l) || err != api.OK {
			t.Errorf("P1301: Decode of %#v: %#v, %v", c.want, l, err)
		}
		if string(written(c.l)) != c.want {
			t.Errorf("the plain way writes %#v as %#v", c.l, written(c.l))
		}
		if l, is := told([]byte(c.want)); !slices.Equal(l, c.l) || !is {
			t.Errorf("the plain way tells %#v as %#v, %v", c.want, l, is)
		}
	}
}

func TestErrorsWrittenOut(t *testing.T) {
	for _, c := range []struct {
		l    row
		want api.Errno
	}{
		{row{of("", 1)}, api.ErrName}, {row{of("", 0)}, api.ErrName}, {row{of("..", 0)}, api.ErrName}, {row{of("a/b", 1)}, api.ErrName}, {row{{}}, api.ErrName},
		{row{of(long(29), 1)}, api.ErrLong}, {row{of(long(29), 0)}, api.ErrLong}, {row{of(long(65), 0)}, api.ErrName},
		{row{of("a", 0)}, api.ErrArg}, {row{of("a", 1), of("b", 0)}, api.ErrArg}, {row{of("a", 0), of("b", 1)}, api.ErrArg},
		{row{of("b", 1), of("a", 1)}, api.ErrTwice}, {row{of("a", 1), of("a", 1)}, api.ErrTwice}, {row{of("a", 1), of("a", 2)}, api.ErrTwice}, {row{of("aa", 1), of("a", 2)}, api.ErrTwice}, {row{of("a", 1), of("B", 2)}, api.ErrTwice}, {row{of("\u00e9", 1), of("z", 2)}, api.ErrTwice},
		{row{of("a", 1), of("b", 1), of("a", 1)}, api.ErrTwice}, {row{of("a", 1), of("b", 1), of("b", 1), of("c", 1)}, api.ErrTwice}, {row{of("a", 1), of("c", 1), of("b", 1), of("d", 1)}, api.ErrTwice},
		{row{of("b", 1), of("a", 0)}, api.ErrArg}, {row{of("b", 1), of("", 0)}, api.ErrName}, {row{of("b", 1), of(".", 1)}, api.ErrName}, {row{of("z", 1), of(long(29), 0)}, api.ErrLong},
		{row{of("b", 0), of("a", 1)}, api.ErrArg}, {row{of("b", 1), of("a", 1), of("", 1)}, api.ErrTwice}, {row{of("b", 1), of("a", 1), of("c", 0)}, api.ErrTwice}, {row{of("a", 0), of("", 1)}, api.ErrArg}, {row{of("", 1), of("a", 0)}, api.ErrName}, {row{of(long(29), 1), of("", 1)}, api.ErrLong}, {row{of("", 1), of(long(29), 1)}, api.ErrName},
	} {
		refused(t, c.l, c.want)
		if err := rowError(c.l); err != c.want {
			t.Errorf("the plain way tells %#v as %v", c.l, err)
		}
	}
}

func TestRowsWrittenOut(t *testing.T) {
	l := row{of("b", 1), of("d", 2), of("da", 3)}
	for _, c := range []struct {
		e    entry.Entry
		want row
		err  api.Errno
	}{
		{of("a", 9), row{of("a", 9), of("b", 1), of("d", 2), of("da", 3)}, api.OK},
		{of("ba", 9), row{of("b", 1), of("ba", 9), of("d", 2), of("da", 3)}, api.OK},
		{of("d ", math.MaxUint32), row{of("b", 1), of("d", 2), of("d ", math.MaxUint32), of("da", 3)}, api.OK},
		{of("e", 1), row{of("b", 1), of("d", 2), of("da", 3), of("e", 1)}, api.OK},
		{of("b", 9), nil, api.ErrTwice}, {of("d", 2), nil, api.ErrTwice}, {of("da", 9), nil, api.ErrTwice},
		{of("a", 0), nil, api.ErrArg}, {of("b", 0), nil, api.ErrArg}, {of("", 0), nil, api.ErrName}, {of("/", 1), nil, api.ErrName}, {of(long(29), 0), nil, api.ErrLong}, {of(long(65), 0), nil, api.ErrName},
	} {
		if x, err := entry.Put(l, c.e); !slices.Equal(x, c.want) || err != c.err {
			t.Errorf("P1301: Put of %#v: %#v, %v", c.e, x, err)
		}
	}
	for _, c := range []struct {
		name  string
		want  row
		err   api.Errno
		inode uint32
	}{
		{"b", row{of("d", 2), of("da", 3)}, api.OK, 1}, {"d", row{of("b", 1), of("da", 3)}, api.OK, 2}, {"da", row{of("b", 1), of("d", 2)}, api.OK, 3},
		{"a", nil, api.ErrName, 0}, {"c", nil, api.ErrName, 0}, {"e", nil, api.ErrName, 0}, {"D", nil, api.ErrName, 0}, {"daa", nil, api.ErrName, 0}, {"", nil, api.ErrName, 0}, {".", nil, api.ErrName, 0}, {"b\x00", nil, api.ErrName, 0}, {long(29), nil, api.ErrName, 0}, {long(1000), nil, api.ErrName, 0},
	} {
		if x, err := entry.Cut(l, c.name); !slices.Equal(x, c.want) || err != c.err {
			t.Errorf("P1301: Cut of %#v: %#v, %v", c.name, x, err)
		}
		if n, ok := entry.Find(l, c.name); n != c.inode || ok != (c.err == api.OK) {
			t.Errorf("P1301: Find of %q: %d, %v", c.name, n, ok)
		}
	}
	if !slices.Equal(l, row{of("b", 1), of("d", 2), of("da", 3)}) {
		t.Errorf("P2: %#v", l)
	}
}

// No entries, handed in as nil and as an empty list.
func TestNoEntries(t *testing.T) {
	for _, l := range []row{nil, {}, make(row, 0, 8)} {
		kept(t, l)
		for _, name := range append(goodNames(), "", ".", "..", "/", "\x00", long(29), long(65)) {
			found(t, l, name)
			cut(t, l, name)
			put(t, l, of(name, 0))
			put(t, l, of(name, 3))
		}
	}
	for _, b := range [][]byte{nil, {}, make([]byte, 0, 64)} {
		if l, err := entry.Decode(b); len(l) != 0 || err != api.OK {
			t.Errorf("P1301: Decode of no bytes: %#v, %v", l, err)
		}
	}
}

// Cutting the only entry leaves none, and one can be put there again.
func TestTheOnlyEntry(t *testing.T) {
	for _, name := range goodNames() {
		l := row{of(name, 8)}
		x, _ := cut(t, l, name)
		kept(t, x)
		y, _ := put(t, x, of(name, 8))
		if !slices.Equal(y, l) {
			t.Errorf("P1301: %#v cut and put again: %#v", l, y)
		}
	}
}

// Each name that may be, alone, beside each other one, and all of them in one row.
func TestEachName(t *testing.T) {
	var all row
	for k, name := range goodNames() {
		if nameError(name) != api.OK {
			t.Fatalf("%q is no name", name)
		}
		kept(t, row{of(name, 1)})
		kept(t, row{of(name, math.MaxUint32)})
		for _, other := range goodNames() {
			asked(t, row{of(name, 5), of(other, 6)})
			found(t, row{of(name, 5)}, other)
			put(t, row{of(name, 5)}, of(other, 6))
			cut(t, row{of(name, 5)}, other)
		}
		if k == 0 || goodNames()[k-1] != name {
			all = append(all, of(name, uint32(k+1)))
		}
	}
	kept(t, all)
	for k, e := range all {
		found(t, all, e.Name)
		rest, _ := cut(t, all, e.Name)
		kept(t, rest)
		found(t, rest, e.Name)
		put(t, rest, of(e.Name, 0))
		if back, _ := put(t, rest, e); !slices.Equal(back, all) {
			t.Errorf("P1301: entry %d cut and put again: %#v", k, back)
		}
		put(t, all, e)
		put(t, all, of(e.Name, 0))
		for name := range wrongNames() {
			found(t, all, name)
		}
	}
}

// A name of each length, of one byte a code point and of several.
func TestEachLength(t *testing.T) {
	for _, c := range []string{"a", "~", "\x7f", "\u00e9", "\u20ac", "\U0001F600"} {
		for n := 1; n <= 40; n++ {
			for _, ahead := range []string{"", "b", "bc", "bcd"} {
				name := ahead + strings.Repeat(c, n)
				asked(t, row{of(name, 77)})
				asked(t, row{of("A", 76), of(name, 77)})
				asked(t, row{of(name, 77), of("\U0010FFFF", 78)})
				put(t, row{of("A", 76), of("\U0010FFFF", 78)}, of(name, 77))
			}
		}
	}
	for n, want := range map[int]api.Errno{1: api.OK, 27: api.OK, 28: api.OK, 29: api.ErrLong, 64: api.ErrLong, 65: api.ErrName} {
		if _, err := entry.Encode(row{of(long(n), 1)}); err != want {
			t.Errorf("P1301: a name of %d bytes: %v", n, err)
		}
		if _, err := entry.Put(nil, of(long(n), 1)); err != want {
			t.Errorf("P1301: Put of a name of %d bytes: %v", n, err)
		}
	}
}

// Names that are the beginning of one another rise with their length, and none hides another.
func TestBeginnings(t *testing.T) {
	var l row
	for n := 1; n <= 28; n++ {
		l = append(l, of(long(n), uint32(n)))
	}
	kept(t, l)
	for n := range 31 {
		found(t, l, long(n))
		cut(t, l, long(n))
		put(t, l, of(long(n), 9))
		put(t, l, of(long(n)+"m", 9))
		put(t, l, of(long(n)+"o", 9))
		found(t, l, long(n)+"m")
		if n >= 2 && n <= 28 {
			refused(t, row{l[n-1], l[n-2]}, api.ErrTwice)
			none(t, "names that fall by their length", written(row{l[n-1], l[n-2]}))
		}
	}
}

func TestInodes(t *testing.T) {
	l := []uint32{1, 2, 127, 128, 255, 256, 65535, 65536, 1<<24 - 1, 1 << 24, 1<<31 - 1, 1 << 31, 1<<31 + 1, 1<<32 - 2, 1<<32 - 1}
	for n := range 32 {
		l = append(l, 1<<n)
	}
	for k := range 4 {
		for v := range uint32(255) {
			l = append(l, (v+1)<<(8*k))
		}
	}
	for _, n := range l {
		for _, x := range []row{{of("a", n)}, {of("a", 1), of("b", n)}, {of("a", n), of("b", n)}, {of("a", math.MaxUint32), of(long(28), n), of("o", 1)}} {
			kept(t, x)
			for _, e := range x {
				found(t, x, e.Name)
			}
		}
		put(t, row{of("a", 1)}, of("b", n))
		put(t, row{of("a", n)}, of("A", n))
		cut(t, row{of("a", n), of("b", 3), of("c", n)}, "b")
	}
}

// Rows of each length: each entry found, one put at each place, each one cut.
func TestRowsOfEachLength(t *testing.T) {
	for n := range 70 {
		l := many(n)
		kept(t, l)
		for k, e := range l {
			found(t, l, e.Name)
			found(t, l, e.Name[:len(e.Name)-1])
			found(t, l, e.Name+"y")
			cut(t, l, e.Name)
			cut(t, l, e.Name+"y")
			put(t, l, e)
			put(t, l, of(e.Name, uint32(k)))
		}
		for k := range n + 1 {
			at := fmt.Sprintf("f%04d", k-1) + "zz"
			if k == 0 {
				at = "a"
			}
			x, err := put(t, l, of(at, 1234567))
			if err != api.OK || len(x) != n+1 || where(x, at) != k {
				t.Errorf("P1301: put %#v at %d of %d: %#v, %v", at, k, n, x, err)
			}
			if back, err := cut(t, x, at); !slices.Equal(back, l) || err != api.OK {
				t.Errorf("P1301: put and cut again at %d of %d: %#v, %v", k, n, back, err)
			}
		}
	}
}

// Each row of up to three of a few entries, good and wrong, as rows and as bytes.
func TestEachShortRow(t *testing.T) {
	var all row
	for _, name := range []string{"", ".", "a", "aa", "b", "b/", "\xff", long(28), long(29)} {
		for _, n := range []uint32{0, 1, math.MaxUint32} {
			all = append(all, of(name, n))
		}
	}
	ask := func(l row) {
		if asked(t, l) {
			for _, e := range all {
				found(t, l, e.Name)
				put(t, l, e)
				cut(t, l, e.Name)
			}
		}
		for _, e := range l {
			if len(e.Name) > 28 {
				return
			}
		}
		decoded(t, written(l))
	}
	for _, a := range all {
		ask(row{a})
		for _, b := range all {
			ask(row{a, b})
			for _, c := range all {
				ask(row{a, b, c})
			}
		}
	}
}

// A wrong name at each place of a row, with an inode and with none.
func TestWrongNames(t *testing.T) {
	for name, want := range wrongNames() {
		if got := nameError(name); got != want {
			t.Fatalf("the plain way tells %q as %v", name, got)
		}
		for _, n := range []uint32{0, 1, math.MaxUint32} {
			e := of(name, n)
			refused(t, row{e}, want)
			for k := range 4 {
				l := many(4)
				l[k] = e
				refused(t, l, want)
				refused(t, slices.Insert(many(3), min(k, 3), e), want)
			}
			for _, l := range []row{nil, many(1), many(5), {of("\x7f", 1)}} {
				if x, err := entry.Put(l, e); len(x) != 0 || err != want {
					t.Errorf("P1301: Put(%#v, %#v): %#v, %v, not %v", l, e, x, err, want)
				}
			}
		}
		for _, l := range []row{nil, many(1), many(5)} {
			if n, ok := entry.Find(l, name); n != 0 || ok {
				t.Errorf("P1301: Find(%#v, %#v): %d, %v", l, name, n, ok)
			}
			if x, err := entry.Cut(l, name); len(x) != 0 || err != api.ErrName {
				t.Errorf("P1301: Cut(%#v, %#v): %#v, %v", l, name, x, err)
			}
		}
	}
}

func TestInodeZero(t *testing.T) {
	for n := 1; n < 6; n++ {
		for k := range n {
			l := many(n)
			l[k].Inode = 0
			refused(t, l, api.ErrArg)
			none(t, "an inode of 0", written(l))
		}
	}
	for _, name := range goodNames() {
		refused(t, row{of(name, 0)}, api.ErrArg)
		none(t, "an inode of 0", written(row{of(name, 0)}))
		if l, err := entry.Put(row{of(name, 4)}, of(name, 0)); len(l) != 0 || err != api.ErrArg {
			t.Errorf("P1301, P6: Put of %#v that is there, of inode 0: %#v, %v", name, l, err)
		}
	}
}

// Two entries of one name, side by side and apart, and entries that fall.
func TestWrongOrder(t *testing.T) {
	for n := 2; n < 8; n++ {
		for k := range n {
			for j := range n {
				l := many(n)
				l[k], l[j] = l[j], l[k]
				asked(t, l)
				decoded(t, written(l))
				l = many(n)
				l[k].Name = l[j].Name
				asked(t, l)
				decoded(t, written(l))
				l = slices.Insert(many(n), k, many(n)[j])
				refused(t, l, api.ErrTwice)
				none(t, "an entry twice", written(l))
			}
		}
		l := many(n)
		slices.Reverse(l)
		refused(t, l, api.ErrTwice)
		none(t, "entries that fall", written(l))
	}
}

// The first entry's first error is told, whatever is wrong behind it.
func TestTheFirstErrorIsTold(t *testing.T) {
	kinds := []struct {
		change func(l row, k int)
		want   api.Errno
	}{
		{func(l row, k int) { l[k].Name = "a/b" }, api.ErrName},
		{func(l row, k int) { l[k].Name = long(29) }, api.ErrLong},
		{func(l row, k int) { l[k].Inode = 0 }, api.ErrArg},
		{func(l row, k int) { l[k].Name = "e" }, api.ErrTwice},
		{func(l row, k int) { l[k] = of("", 0) }, api.ErrName},
		{func(l row, k int) { l[k] = of(long(40), 0) }, api.ErrLong},
		{func(l row, k int) { l[k] = of("e", 0) }, api.ErrArg},
	}
	for _, a := range kinds {
		for _, b := range kinds {
			for k := 1; k < 6; k++ {
				for j := k + 1; j < 6; j++ {
					l := many(6)
					a.change(l, k)
					b.change(l, j)
					refused(t, l, a.want)
				}
			}
		}
	}
}

// Bytes of each length that is no number of entries, of rows and of zeros.
func TestDecodeOfOtherLengths(t *testing.T) {
	rows := [][]byte{written(many(5)), written(row{of(long(28), 1), of(long(27)+"o", 2), of("p", 1), of("q", 1), of("r", 1)}), make([]byte, 160), bytes.Repeat([]byte{'a'}, 160)}
	for _, b := range rows {
		for n := range 130 {
			if n%32 != 0 {
				none(t, fmt.Sprintf("%d bytes", n), b[:n])
			}
			decoded(t, b[:n])
		}
	}
	for _, b := range rows[:2] {
		for n := 1; n < 100; n++ {
			none(t, fmt.Sprintf("%d bytes of 0 behind a row", n), append(bytes.Clone(b), make([]byte, n)...))
			none(t, fmt.Sprintf("%d bytes of 0 ahead of a row", n), append(make([]byte, n), b...))
		}
		for n := 1; n < 32; n++ {
			none(t, fmt.Sprintf("a row %d bytes too late", n), b[n:])
			decoded(t, b[n:len(b)-32+n])
		}
	}
}

// What stands behind a name is 0.
func TestDecodeOfWhatIsBehindAName(t *testing.T) {
	for n := range 28 {
		for _, l := range []row{{of(long(n), 1)}, {of("A", 1), of(long(n), 2), of("o", 3)}} {
			b := written(l)
			at := 32*(len(l)/2) + 4
			if decoded(t, b) != (n > 0) {
				t.Errorf("the plain way tells a name of %d bytes", n)
			}
			for k := n + 1; k < 28; k++ {
				for v := range 256 {
					b[at+k] = byte(v)
					if v != 0 {
						none(t, fmt.Sprintf("a byte %d at %d behind a name of %d bytes", v, k, n), b)
					}
					decoded(t, b)
				}
				b[at+k] = 0
			}
		}
	}
}

// Each byte of some rows is turned into each other one.
func TestDecodeOfEachByte(t *testing.T) {
	for _, l := range []row{{of("a", 1)}, {of(long(28), math.MaxUint32)}, {of("b", 0x100), of("ba", 1), of("c", 0x10000)}, many(3), {of("\u00e9", 3), of("\u20ac", 3), of("\U0001F600", 3)}, {of("m", 1), of(long(27), 2), of(long(28), 3)}} {
		b := written(l)
		for k := range b {
			old := b[k]
			for v := range 256 {
				b[k] = byte(v)
				if is := decoded(t, b); byte(v) == old && !is {
					t.Fatalf("the plain way does not tell %#v", l)
				}
			}
			b[k] = old
		}
	}
}

func TestDecodeOfWrongNames(t *testing.T) {
	for name := range wrongNames() {
		if len(name) > 28 || strings.HasSuffix(name, "\x00") && len(name) > 1 {
			continue
		}
		for _, n := range []uint32{0, 1, math.MaxUint32} {
			none(t, fmt.Sprintf("%q", name), written(row{of(name, n)}))
			for k := range 4 {
				l := many(4)
				l[k] = of(name, n)
				none(t, fmt.Sprintf("%q at %d", name, k), written(l))
			}
		}
	}
	none(t, "an entry of zeros", make([]byte, 32))
	none(t, "ones", bytes.Repeat([]byte{0xFF}, 32))
	none(t, "a number", bytes.Repeat([]byte{1}, 64))
}

// room: l with spare room behind it, and the whole of both.
func room[T any](l []T, filler T) (list, whole []T) {
	whole = slices.Clone(l)
	for range 40 {
		whole = append(whole, filler)
	}
	return whole[:len(l)], whole
}

// spoil changes all of l, its spare room too.
func spoil(l row) {
	for k := range l[:cap(l)] {
		l[:cap(l)][k] = of("spoilt", 0xDEAD)
	}
}

// spoilBytes changes all of b, its spare room too.
func spoilBytes(b []byte) {
	for k := range b[:cap(b)] {
		b[:cap(b)][k] ^= 0xA5
	}
}

func TestDecodeChangesNothing(t *testing.T) {
	for _, b := range [][]byte{nil, written(many(1)), written(many(6)), written(many(6))[:70], written(row{of("b", 1), of("a", 1)}), make([]byte, 64), written(goodRow())} {
		list, whole := room(b, byte(0xEE))
		old := slices.Clone(whole)
		l, err := entry.Decode(list)
		if !bytes.Equal(whole, old) {
			t.Errorf("P2: Decode changed %q to %q", old, whole)
		}
		spoilBytes(list)
		want, is := told(b)
		if !slices.Equal(l, want) || (err == api.OK) != is {
			t.Errorf("P2: Decode of %#v, spoilt later: %#v, %v", b, l, err)
		}
		spoil(l)
		if !bytes.Equal(list, func() []byte { x := slices.Clone(old); spoilBytes(x); return x[:len(b)] }()) {
			t.Errorf("P2: an answer of Decode shares memory with what was handed in")
		}
	}
}

// goodRow: a row of the good names.
func goodRow() row {
	var l row
	for k, name := range slices.Compact(goodNames()) {
		l = append(l, of(name, uint32(k+1)))
	}
	return l
}

// calls: each call that takes a row, with what it answers in words; spoil: of a row that it answers, all is changed.
func calls(l row, spoilt bool) string {
	var w strings.Builder
	tell := func(x row, err api.Errno) {
		fmt.Fprintf(&w, "%#v %v\n", x, err)
		if spoilt {
			spoil(x)
		}
	}
	b, err := entry.Encode(l)
	fmt.Fprintln(&w, b, err)
	if spoilt {
		spoilBytes(b)
	}
	for _, name := range []string{"a", "f0000", "f0001x", "f0002xx", "f0003xxx", "f0004xxxx", "f0009", "n", "z", "", "/", long(29)} {
		n, ok := entry.Find(l, name)
		fmt.Fprintln(&w, n, ok)
		tell(entry.Put(l, of(name, 17)))
		tell(entry.Put(l, of(name, 0)))
		tell(entry.Cut(l, name))
	}
	return w.String()
}

// Rows that are handed in are left as they are, and no answer shares memory with them or with another answer.
func TestRowsChangeNothing(t *testing.T) {
	rows := []row{nil, {}, many(1), many(2), many(5), many(40), goodRow()}
	for _, l := range rows {
		list, whole := room(l, of("behind", 5))
		old := slices.Clone(whole)
		want := calls(slices.Clone(l), false)
		for _, spoilt := range []bool{false, true, true} {
			if got := calls(list, spoilt); got != want {
				t.Errorf("P2, P3: rows of %#v: %s, not %s", l, got, want)
			}
			if !slices.Equal(whole, old) {
				t.Errorf("P2: %#v turned into %#v", old, whole)
			}
		}
	}
	// Encode alone takes rows that are none.
	for _, l := range []row{{of("b", 1), of("a", 1)}, {of("b", 0)}, {of("b", 1), of("b", 1)}, {of("", 3)}} {
		list, whole := room(l, of("behind", 5))
		old := slices.Clone(whole)
		entry.Encode(list)
		if !slices.Equal(whole, old) {
			t.Errorf("P2: Encode turned %#v into %#v", old, whole)
		}
	}
}

func TestAnswersAreNewMemory(t *testing.T) {
	l := many(6)
	for _, ask := range []func() (row, api.Errno){
		func() (row, api.Errno) { return entry.Decode(written(l)) },
		func() (row, api.Errno) { return entry.Put(l, of("a", 1)) },
		func() (row, api.Errno) { return entry.Put(l, of("f0002z", 1)) },
		func() (row, api.Errno) { return entry.Put(l, of("z", 1)) },
		func() (row, api.Errno) { return entry.Put(l[:3], of("z", 1)) },
		func() (row, api.Errno) { return entry.Put(l[:0], of("z", 1)) },
		func() (row, api.Errno) { return entry.Cut(l, l[0].Name) },
		func() (row, api.Errno) { return entry.Cut(l, l[3].Name) },
		func() (row, api.Errno) { return entry.Cut(l, l[5].Name) },
		func() (row, api.Errno) { return entry.Cut(l[:1], l[0].Name) },
	} {
		a, err := ask()
		b, _ := ask()
		want := slices.Clone(b)
		spoil(a)
		if !slices.Equal(b, want) || err != api.OK {
			t.Errorf("P2: two answers share memory: %#v, %#v, %v", b, want, err)
		}
		if c, err := ask(); !slices.Equal(c, want) || err != api.OK {
			t.Errorf("P2: asked again, an answer spoilt: %#v, not %#v, %v", c, want, err)
		}
		if !slices.Equal(l, many(6)) {
			t.Fatalf("P2: an answer's change turned the row into %#v", l)
		}
	}
	a, _ := entry.Encode(l)
	b, _ := entry.Encode(l)
	spoilBytes(a)
	if !bytes.Equal(b, written(l)) {
		t.Errorf("P2: two answers of Encode share memory")
	}
}

// Answers stay as they are when what was handed in is changed later.
func TestAnswersAreKept(t *testing.T) {
	l := many(6)
	b, _ := entry.Encode(l)
	x, _ := entry.Put(l, of("f0003", 8))
	y, _ := entry.Cut(l, l[2].Name)
	wantX, _ := with(many(6), of("f0003", 8))
	wantY, _ := without(many(6), many(6)[2].Name)
	spoil(l)
	if !bytes.Equal(b, written(many(6))) || !slices.Equal(x, wantX) || !slices.Equal(y, wantY) {
		t.Errorf("P2: the row spoilt, answers are %#v, %#v, %#v", b, x, y)
	}
}

// Put, Cut and Find of what is no row may tell anything, but they end and change nothing.
func TestWhatIsNoRow(t *testing.T) {
	for _, l := range []row{{of("b", 1), of("a", 1)}, {of("a", 1), of("a", 2), of("a", 3)}, {of("", 0), of("", 0)}, {of("z", 0), of("..", 5), of(long(100), 0), of("a", 1)}} {
		list, whole := room(l, of("behind", 5))
		old := slices.Clone(whole)
		for _, name := range []string{"", "a", "b", "z", "..", "/", long(28), long(100)} {
			entry.Find(list, name)
			x, _ := entry.Put(list, of(name, 4))
			spoil(x)
			x, _ = entry.Cut(list, name)
			spoil(x)
		}
		if !slices.Equal(whole, old) {
			t.Errorf("P8, P2: %#v turned into %#v", old, whole)
		}
	}
}

// dice: the same numbers at each run.
type dice uint64

func (d *dice) below(n int) int {
	*d = *d*6364136223846793005 + 1442695040888963407
	return int(uint64(*d)>>33) % n
}

// name: a name of a few letters, so that many meet.
func (d *dice) name() string {
	letters := []string{"a", "b", "c", ".", " ", "\u00e9", "\U0001F600"}
	var w strings.Builder
	for range 1 + d.below(3) {
		w.WriteString(letters[d.below(len(letters))])
	}
	switch d.below(12) {
	case 0:
		w.WriteString(long(20 + d.below(12)))
	case 1:
		return []string{"", ".", "..", "/", "a/", "\n", "\xff", "a\x00b", long(28), long(29), long(65)}[d.below(11)]
	}
	return w.String()
}

// inode: a number that may be, now and then 0.
func (d *dice) inode() uint32 {
	switch d.below(8) {
	case 0:
		return 0
	case 1:
		return math.MaxUint32
	}
	return uint32(d.below(1<<16))<<16 | uint32(d.below(1<<16))
}

// row: some entries, often a row.
func (d *dice) row() row {
	var l row
	for range d.below(8) {
		l = append(l, of(d.name(), d.inode()))
	}
	if d.below(4) > 0 {
		slices.SortFunc(l, func(a, b entry.Entry) int { return strings.Compare(a.Name, b.Name) })
	}
	if d.below(3) > 0 {
		l = slices.CompactFunc(l, func(a, b entry.Entry) bool { return a.Name == b.Name })
	}
	if d.below(3) > 0 {
		l = slices.DeleteFunc(l, func(e entry.Entry) bool { return entryError(e) != api.OK })
	}
	return l
}

// A row, put to and cut at long, is what the plain way has.
func TestALongRow(t *testing.T) {
	d := dice(13)
	var l row
	kinds := map[api.Errno]int{}
	for range 20000 {
		name := d.name()
		var x row
		var err api.Errno
		if d.below(5) < 3 {
			x, err = put(t, l, of(name, d.inode()))
		} else {
			x, err = cut(t, l, name)
		}
		kinds[err]++
		if err == api.OK {
			l = x
		}
		found(t, l, name)
		if d.below(50) == 0 {
			kept(t, l)
		}
	}
	if len(l) < 30 || kinds[api.OK] < 3000 || kinds[api.ErrTwice] < 1000 || kinds[api.ErrName] < 1000 || kinds[api.ErrLong] < 200 || kinds[api.ErrArg] < 500 {
		t.Errorf("thrown %v, %d entries", kinds, len(l))
	}
}

func TestAgainstThePlainWay(t *testing.T) {
	d := dice(14)
	kinds := map[bool]int{}
	for range 60000 {
		l := d.row()
		is := asked(t, l)
		kinds[is]++
		if is {
			name := d.name()
			found(t, l, name)
			put(t, l, of(name, d.inode()))
			cut(t, l, name)
		}
	}
	if kinds[true] < 10000 || kinds[false] < 10000 {
		t.Errorf("thrown %v", kinds)
	}
}

// Bytes that are almost a row's are told as the plain way tells them.
func TestDecodeOfAnyBytes(t *testing.T) {
	d := dice(15)
	kinds := map[bool]int{}
	for range 60000 {
		l := d.row()
		for k := range l {
			l[k].Name = l[k].Name[:min(28, len(l[k].Name))]
		}
		b := written(l)
		for range d.below(3) {
			switch d.below(8) {
			case 0:
				b = b[:d.below(len(b)+1)]
			case 1:
				b = append(b, make([]byte, d.below(80))...)
			case 2:
				b = append(b, b[:min(len(b), 32)]...)
			case 3:
				b = b[:len(b)/32*32]
			default:
				if len(b) > 0 {
					b[d.below(len(b))] = []byte{0, 1, 'a', 'b', '/', 0xFF, byte(d.below(256))}[d.below(7)]
				}
			}
		}
		kinds[decoded(t, b)]++
	}
	if kinds[true] < 10000 || kinds[false] < 10000 {
		t.Errorf("thrown %v", kinds)
	}
}

func TestTheSameCallsAnswerTheSame(t *testing.T) {
	rows := [2]strings.Builder{}
	for k := range rows {
		d := dice(16)
		for range 3000 {
			l := d.row()
			b, err := entry.Encode(l)
			x, err2 := entry.Decode(b)
			fmt.Fprintln(&rows[k], b, err, x, err2)
			if err == api.OK {
				fmt.Fprintln(&rows[k], calls(l, false))
			}
		}
	}
	if rows[0].String() != rows[1].String() {
		t.Error("P3: the same calls answer otherwise")
	}
}

// Long rows, and many bytes that are none's, end in good time.
func TestMuchEnds(t *testing.T) {
	var l row
	for k := range 300000 {
		l = append(l, of(fmt.Sprintf("%08d", k), uint32(k)+1))
	}
	b, err := entry.Encode(l)
	if len(b) != 32*len(l) || err != api.OK {
		t.Fatalf("P1301: Encode of many: %d bytes, %v", len(b), err)
	}
	if x, err := entry.Decode(b); !slices.Equal(x, l) || err != api.OK {
		t.Errorf("P1301: Decode of many: %d entries, %v", len(x), err)
	}
	for k := 0; k < len(l); k += 7 {
		if n, ok := entry.Find(l, l[k].Name); n != l[k].Inode || !ok {
			t.Fatalf("P1301: Find of %q in many: %d, %v", l[k].Name, n, ok)
		}
	}
	for _, k := range []int{0, 1, 150000, 299999} {
		x, err := entry.Cut(l, l[k].Name)
		if len(x) != len(l)-1 || err != api.OK {
			t.Errorf("P1301: Cut of many: %d entries, %v", len(x), err)
		}
		if x, err = entry.Put(x, l[k]); !slices.Equal(x, l) || err != api.OK {
			t.Errorf("P1301: Put to many: %d entries, %v", len(x), err)
		}
	}
	none(t, "many bytes", make([]byte, 1<<23))
	none(t, "many bytes", b[:len(b)-1])
	refused(t, append(slices.Clip(l), of("0", 1)), api.ErrTwice)
	refused(t, row{of(strings.Repeat("a", 1<<24), 1)}, api.ErrName)
}
