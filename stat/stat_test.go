package stat_test

import (
	"bytes"
	"encoding/binary"
	"math"
	"slices"
	"strings"
	"testing"

	"loggia/api"
	"loggia/qid"
	"loggia/stat"
)

const (
	// numbers: the bytes of a record ahead of its texts, its count's too.
	numbers = 41
	// bare: the bytes of a record whose texts are empty.
	bare = 49
)

func sample() stat.Stat {
	return stat.Stat{
		Kind: 0xA2A1, Dev: 0xB4B3B2B1,
		Qid:  qid.Qid{Type: 0xC1, Vers: 0xD4D3D2D1, Path: 0xE8E7E6E5E4E3E2E1},
		Mode: 0x14131211, Atime: 0x24232221, Mtime: 0x34333231,
		Length: 0x4847464544434241,
		Name:   "name", Uid: "u", Gid: "", Muid: "\u00e9!",
	}
}

// sampleBytes: written out, so that no rule of the program is taken for granted.
func sampleBytes() []byte {
	return []byte{
		55, 0,
		0xA1, 0xA2,
		0xB1, 0xB2, 0xB3, 0xB4,
		0xC1, 0xD1, 0xD2, 0xD3, 0xD4, 0xE1, 0xE2, 0xE3, 0xE4, 0xE5, 0xE6, 0xE7, 0xE8,
		0x11, 0x12, 0x13, 0x14,
		0x21, 0x22, 0x23, 0x24,
		0x31, 0x32, 0x33, 0x34,
		0x41, 0x42, 0x43, 0x44, 0x45, 0x46, 0x47, 0x48,
		4, 0, 'n', 'a', 'm', 'e',
		1, 0, 'u',
		0, 0,
		3, 0, 0xC3, 0xA9, '!',
	}
}

// plain tells a record's bytes by another road than the program's, whatever its texts.
func plain(s stat.Stat) []byte {
	le := binary.LittleEndian
	b := le.AppendUint16(nil, s.Kind)
	b = le.AppendUint32(b, s.Dev)
	b = append(b, s.Qid.Type)
	b = le.AppendUint32(b, s.Qid.Vers)
	b = le.AppendUint64(b, s.Qid.Path)
	for _, v := range []uint32{s.Mode, s.Atime, s.Mtime} {
		b = le.AppendUint32(b, v)
	}
	b = le.AppendUint64(b, s.Length)
	for _, t := range texts(&s) {
		b = le.AppendUint16(b, uint16(len(*t)))
		b = append(b, *t...)
	}
	return counted(b)
}

// counted tells these bytes behind two that count them.
func counted(b []byte) []byte {
	return append(binary.LittleEndian.AppendUint16(nil, uint16(len(b))), b...)
}

func texts(s *stat.Stat) []*string { return []*string{&s.Name, &s.Uid, &s.Gid, &s.Muid} }

// many: each bit of each number, alone and left out; each text at its lengths.
func many() []stat.Stat {
	full := stat.Keep()
	l := []stat.Stat{sample(), {}, full}
	for k := range 64 {
		for _, d := range []stat.Stat{
			{Kind: 1 << k}, {Dev: 1 << k}, {Mode: 1 << k}, {Atime: 1 << k}, {Mtime: 1 << k}, {Length: 1 << k},
			{Qid: qid.Qid{Type: 1 << k}}, {Qid: qid.Qid{Vers: 1 << k}}, {Qid: qid.Qid{Path: 1 << k}},
		} {
			but := full
			but.Kind &^= d.Kind
			but.Dev &^= d.Dev
			but.Mode &^= d.Mode
			but.Atime &^= d.Atime
			but.Mtime &^= d.Mtime
			but.Length &^= d.Length
			but.Qid.Type &^= d.Qid.Type
			but.Qid.Vers &^= d.Qid.Vers
			but.Qid.Path &^= d.Qid.Path
			l = append(l, d, but)
		}
	}
	for k := range 4 {
		for _, t := range []string{"", "a", "/", "..", "\x01\x1f\x7f", "\u00e9\u20ac\U0001F600", "\uFFFD", strings.Repeat("b", 63), strings.Repeat("c", 64), strings.Repeat("\u00e9", 32)} {
			s := sample()
			*texts(&s)[k] = t
			l = append(l, s)
		}
	}
	longest := sample()
	for k, t := range texts(&longest) {
		*t = strings.Repeat(string(rune('a'+k)), api.MaxText)
	}
	return append(l, longest)
}

func TestEncode(t *testing.T) {
	if b, e := stat.Encode(sample()); !bytes.Equal(b, sampleBytes()) || e != api.OK {
		t.Errorf("P401: %x, %v, not %x", b, e, sampleBytes())
	}
}

func TestEachEncodedAndDecoded(t *testing.T) {
	for n, s := range many() {
		want := plain(s)
		b, e := stat.Encode(s)
		if !bytes.Equal(b, want) || e != api.OK {
			t.Errorf("P401: the record at %d: %x, %v, not %x", n, b, e, want)
		}
		if k := stat.Size(s); k != len(want) {
			t.Errorf("P401: the record at %d: size %d, not %d", n, k, len(want))
		}
		for _, behind := range [][]byte{nil, {0}, {1, 2, 3}, want} {
			x, k, e := stat.Decode(append(bytes.Clone(want), behind...))
			if x != s || k != len(want) || e != api.OK {
				t.Errorf("P401: the record at %d, ahead of %d bytes: %+v, %d, %v", n, len(behind), x, k, e)
			}
		}
	}
}

// wrongTexts: what is no text of a message, and what text.Put says of it.
func wrongTexts() map[string]api.Errno {
	return map[string]api.Errno{
		strings.Repeat("a", 65):           api.ErrLong,
		strings.Repeat("a", 65536):        api.ErrLong,
		strings.Repeat("\u00e9", 33):      api.ErrLong,
		strings.Repeat("\xff", 65):        api.ErrLong,
		strings.Repeat("a", 64) + "\x00":  api.ErrLong,
		"\x00":                            api.ErrForm,
		"a\x00b":                          api.ErrForm,
		"\xff":                            api.ErrForm,
		"\xc3":                            api.ErrForm,
		"\xc0\x80":                        api.ErrForm,
		"\xed\xa0\x80":                    api.ErrForm,
		strings.Repeat("a", 63) + "\x00":  api.ErrForm,
		strings.Repeat("a", 63) + "\xc3":  api.ErrForm,
		"a" + strings.Repeat("\x80", 63):  api.ErrForm,
		strings.Repeat("b", 62) + "\xe2€": api.ErrLong,
	}
}

func TestEncodeOfAWrongText(t *testing.T) {
	for k := range 4 {
		for w, want := range wrongTexts() {
			s := sample()
			*texts(&s)[k] = w
			if b, e := stat.Encode(s); b != nil || e != want {
				t.Errorf("P401: text %d %.8q of %d bytes: %x, %v, not %v", k, w, len(w), b, e, want)
			}
		}
	}
}

func TestEncodeTellsTheFirstWrongText(t *testing.T) {
	long, none := strings.Repeat("a", 65), "\xff"
	for of := range 81 {
		s := sample()
		want := api.OK
		for _, x := range texts(&s) {
			e := []api.Errno{api.OK, api.ErrLong, api.ErrForm}[of%3]
			of /= 3
			switch e {
			case api.ErrLong:
				*x = long
			case api.ErrForm:
				*x = none
			}
			if want == api.OK {
				want = e
			}
		}
		if b, e := stat.Encode(s); e != want || (b == nil) != (want != api.OK) {
			t.Errorf("P6: %q: %x, %v, not %v", []string{s.Name, s.Uid, s.Gid, s.Muid}, b, e, want)
		}
	}
}

func TestSizeOfWhateverTexts(t *testing.T) {
	if n := stat.Size(stat.Stat{}); n != bare {
		t.Errorf("P401: %d, not %d", n, bare)
	}
	if n := stat.Size(stat.Keep()); n != bare {
		t.Errorf("P401: %d, not %d", n, bare)
	}
	for k := range 4 {
		for w := range wrongTexts() {
			s := sample()
			was := stat.Size(s) - len(*texts(&s)[k])
			*texts(&s)[k] = w
			if n := stat.Size(s); n != was+len(w) {
				t.Errorf("P401: text %d of %d bytes: %d, not %d", k, len(w), n, was+len(w))
			}
		}
	}
	all := stat.Stat{Name: strings.Repeat("\x00", 70000), Uid: strings.Repeat("a", 600), Gid: "\xff\xff", Muid: "abc"}
	if n := stat.Size(all); n != bare+70605 {
		t.Errorf("P401: %d, not %d", n, bare+70605)
	}
}

func isShort(t *testing.T, b []byte) {
	t.Helper()
	failsAs(t, b, api.ErrShort)
}

func isNone(t *testing.T, b []byte) {
	t.Helper()
	failsAs(t, b, api.ErrForm)
}

// failsAs asks Decode of b alone, and All of b alone and behind whole records.
func failsAs(t *testing.T, b []byte, want api.Errno) {
	t.Helper()
	if s, n, e := stat.Decode(b); s != (stat.Stat{}) || n != 0 || e != want {
		t.Errorf("P401: Decode(%x): %+v, %d, %v, not %v", b, s, n, e, want)
	}
	for ahead := range 3 {
		if len(b) == 0 {
			continue
		}
		x := append(bytes.Repeat(sampleBytes(), ahead), b...)
		if l, e := stat.All(x); l != nil || e != want {
			t.Errorf("P401: All of %d and %x: %+v, %v, not %v", ahead, b, l, e, want)
		}
	}
}

func TestDecodeOfBytesThatEndWithin(t *testing.T) {
	isShort(t, nil)
	isShort(t, []byte{})
	for _, s := range []stat.Stat{sample(), {}, stat.Keep()} {
		b := plain(s)
		for n := range b {
			isShort(t, b[:n])
		}
	}
	for n := range 256 {
		isShort(t, []byte{byte(n)})
	}
}

// The bytes end ahead of what a count says, so that nothing is said of their form, be it right or wrong so far.
func TestDecodeIsShortAheadOfItsForm(t *testing.T) {
	isShort(t, []byte{1, 0})
	isShort(t, []byte{0, 1})
	isShort(t, []byte{0xFF, 0xFF})
	isShort(t, append([]byte{0xFF, 0xFF}, make([]byte, 0xFFFE)...))
	b := sampleBytes()
	b[0]++
	isShort(t, b)
	b[0], b[1] = 55, 1
	isShort(t, b)
	for k := range b[numbers:] {
		wrong := sampleBytes()
		wrong[numbers+k] = 0xFF
		isShort(t, wrong[:len(wrong)-1])
	}
}

func TestDecodeOfACountThatIsTooSmall(t *testing.T) {
	for _, s := range []stat.Stat{sample(), {}, stat.Keep()} {
		b := plain(s)
		for n := range len(b) - 2 {
			isNone(t, counted(b[2:2+n]))
			whole := bytes.Clone(b)
			binary.LittleEndian.PutUint16(whole, uint16(n))
			if x, k, e := stat.Decode(whole); x != (stat.Stat{}) || k != 0 || e != api.ErrForm {
				t.Errorf("P401: count %d of %d: %+v, %d, %v", n, len(b)-2, x, k, e)
			}
		}
	}
}

func TestDecodeOfACountThatLeavesBytesOver(t *testing.T) {
	for _, over := range []int{1, 2, 48, 256, 0xFFFF - 55} {
		isNone(t, counted(append(sampleBytes()[2:], make([]byte, over)...)))
	}
	isNone(t, counted(append(sampleBytes()[2:], sampleBytes()...)))
	isNone(t, counted(make([]byte, 0xFFFF)))
}

// A text's own count ends within what follows, or past it, or leaves some of it over.
func TestDecodeOfATextsCountThatIsWrong(t *testing.T) {
	at := numbers
	s := sample()
	for k, x := range texts(&s) {
		for n := range 70 {
			if n == len(*x) {
				continue
			}
			b := sampleBytes()
			b[at] = byte(n)
			isNone(t, b)
		}
		for _, high := range []byte{1, 0x80, 0xFF} {
			b := sampleBytes()
			b[at+1] = high
			isNone(t, b)
		}
		at += 2 + len(*x)
		if k == 3 && at != len(sampleBytes()) {
			t.Fatalf("the texts end at %d", at)
		}
	}
}

func TestDecodeOfAWrongTextWithin(t *testing.T) {
	for k := range 4 {
		for w := range wrongTexts() {
			if len(w) > math.MaxUint16-100 {
				continue
			}
			s := sample()
			*texts(&s)[k] = w
			isNone(t, plain(s))
		}
	}
	long, none := strings.Repeat("a", 65), "\xff"
	isNone(t, plain(stat.Stat{Name: long, Uid: none}))
	isNone(t, plain(stat.Stat{Name: none, Muid: long}))
	isNone(t, plain(stat.Stat{Name: long, Uid: long, Gid: long, Muid: long}))
}

func TestAll(t *testing.T) {
	for _, none := range [][]byte{nil, {}} {
		if l, e := stat.All(none); len(l) != 0 || e != api.OK {
			t.Errorf("P401: of nothing: %+v, %v", l, e)
		}
	}
	want := many()
	var b []byte
	for n, s := range want[:200] {
		b = append(b, plain(s)...)
		if l, e := stat.All(b); !slices.Equal(l, want[:n+1]) || e != api.OK {
			t.Errorf("P401: of %d: %d, %v", n+1, len(l), e)
		}
	}
}

func TestAllEndsWithinTheLastOne(t *testing.T) {
	l := []stat.Stat{{Name: "a"}, sample(), stat.Keep()}
	var b []byte
	ends := []int{0}
	for _, s := range l {
		b = append(b, plain(s)...)
		ends = append(ends, len(b))
	}
	for n := range len(b) + 1 {
		got, e := stat.All(b[:n])
		if k := slices.Index(ends, n); k >= 0 {
			if !slices.Equal(got, l[:k]) || e != api.OK {
				t.Errorf("P401: %d bytes: %+v, %v", n, got, e)
			}
		} else if got != nil || e != api.ErrShort {
			t.Errorf("P401: %d bytes: %+v, %v", n, got, e)
		}
	}
}

func TestAllTellsTheErrorOfTheFirst(t *testing.T) {
	good, form, short := sampleBytes(), []byte{1, 0, 9}, []byte{9, 0, 1}
	for _, c := range []struct {
		parts [][]byte
		want  api.Errno
	}{
		{[][]byte{good, form, good}, api.ErrForm},
		{[][]byte{good, form, short}, api.ErrForm},
		{[][]byte{form, good[:9]}, api.ErrForm},
		{[][]byte{good, {0, 0}}, api.ErrForm},
		{[][]byte{good, {0}}, api.ErrShort},
		{[][]byte{good, short}, api.ErrShort},
		{[][]byte{good, good, {0xFF, 0xFF}, form}, api.ErrShort},
	} {
		b := bytes.Join(c.parts, nil)
		if l, e := stat.All(b); l != nil || e != c.want {
			t.Errorf("P6: All(%x): %+v, %v, not %v", b, l, e, c.want)
		}
	}
}

func TestManyAtOnce(t *testing.T) {
	const n = 20000
	l, e := stat.All(bytes.Repeat(sampleBytes(), n))
	if len(l) != n || e != api.OK {
		t.Fatalf("P401: %d, %v", len(l), e)
	}
	for k, s := range l {
		if s != sample() {
			t.Fatalf("P401: the record at %d: %+v", k, s)
		}
	}
}

func TestKeep(t *testing.T) {
	want := stat.Stat{
		Kind: 0xFFFF, Dev: 0xFFFFFFFF,
		Qid:  qid.Qid{Type: 0xFF, Vers: 0xFFFFFFFF, Path: 0xFFFFFFFFFFFFFFFF},
		Mode: 0xFFFFFFFF, Atime: 0xFFFFFFFF, Mtime: 0xFFFFFFFF,
		Length: 0xFFFFFFFFFFFFFFFF,
	}
	if k := stat.Keep(); k != want {
		t.Errorf("P401: %+v", k)
	}
	raw := slices.Concat([]byte{47, 0}, bytes.Repeat([]byte{0xFF}, 39), make([]byte, 8))
	b, e := stat.Encode(stat.Keep())
	if !bytes.Equal(b, raw) || e != api.OK {
		t.Errorf("P401: %x, %v", b, e)
	}
	if s, n, e := stat.Decode(raw); s != want || n != bare || e != api.OK {
		t.Errorf("P401: %+v, %d, %v", s, n, e)
	}
}

func TestTheBytesAreLeftAndNotKept(t *testing.T) {
	whole := append(bytes.Repeat(sampleBytes(), 2), 1, 2, 3)
	was := bytes.Clone(whole)
	n := 2 * len(sampleBytes())
	s, _, _ := stat.Decode(whole[:n])
	l, _ := stat.All(whole[:n])
	for k := range whole {
		stat.Decode(whole[:k])
		stat.All(whole[:k])
	}
	if !bytes.Equal(whole, was) {
		t.Errorf("P2: %x, not %x", whole, was)
	}
	clear(whole)
	if s != sample() || !slices.Equal(l, []stat.Stat{sample(), sample()}) {
		t.Errorf("P2: %+v, %+v", s, l)
	}
}

func TestEachAnswerIsNew(t *testing.T) {
	a, _ := stat.Encode(sample())
	b, _ := stat.Encode(sample())
	clear(a[:cap(a)])
	if !bytes.Equal(b, sampleBytes()) {
		t.Errorf("P2: %x", b)
	}
	two := bytes.Repeat(sampleBytes(), 2)
	l, _ := stat.All(two)
	m, _ := stat.All(two)
	clear(l[:cap(l)])
	if !slices.Equal(m, []stat.Stat{sample(), sample()}) {
		t.Errorf("P2: %+v", m)
	}
}
