package text_test

import (
	"bytes"
	"slices"
	"strings"
	"testing"

	"loggia/api"
	"loggia/num"
	"loggia/text"
)

// borders: the bytes at which RFC 3629's forms begin, end, or are just missed.
var borders = []byte{
	0x00, 0x01, 0x1F, 0x20, 0x2F, 0x41, 0x7F, 0x80, 0x81, 0x8F, 0x90, 0x91, 0x9F, 0xA0, 0xA1, 0xBF,
	0xC0, 0xC1, 0xC2, 0xC3, 0xDF, 0xE0, 0xE1, 0xEC, 0xED, 0xEE, 0xEF, 0xF0, 0xF1, 0xF3, 0xF4, 0xF5, 0xF7, 0xF8, 0xFD, 0xFE, 0xFF,
}

// form: a line of RFC 3629's grammar, by the lowest and the highest byte at each place.
type form struct{ low, high string }

var forms = []form{
	{"\x00", "\x7F"},
	{"\xC2\x80", "\xDF\xBF"},
	{"\xE0\xA0\x80", "\xE0\xBF\xBF"},
	{"\xE1\x80\x80", "\xEC\xBF\xBF"},
	{"\xED\x80\x80", "\xED\x9F\xBF"},
	{"\xEE\x80\x80", "\xEF\xBF\xBF"},
	{"\xF0\x90\x80\x80", "\xF0\xBF\xBF\xBF"},
	{"\xF1\x80\x80\x80", "\xF3\xBF\xBF\xBF"},
	{"\xF4\x80\x80\x80", "\xF4\x8F\xBF\xBF"},
}

func (f form) begins(s string) bool {
	if len(s) < len(f.low) {
		return false
	}
	for k := range len(f.low) {
		if s[k] < f.low[k] || s[k] > f.high[k] {
			return false
		}
	}
	return true
}

// grammarRunes counts code points by RFC 3629's grammar.
func grammarRunes(s string) (int, bool) {
	n := 0
	for len(s) > 0 {
		k := slices.IndexFunc(forms, func(f form) bool { return f.begins(s) })
		if k < 0 {
			return 0, false
		}
		s = s[len(forms[k].low):]
		n++
	}
	return n, true
}

func checkAgainstGrammar(t *testing.T, s string) {
	want, wantOK := grammarRunes(s)
	if n, ok := text.Runes(s); n != want || ok != wantOK {
		t.Fatalf("P201: Runes(%q): %d, %v, not %d, %v", s, n, ok, want, wantOK)
	}
	if got, want := text.Valid(s), wantOK && !strings.Contains(s, "\x00"); got != want {
		t.Fatalf("P201: Valid(%q): %v", s, got)
	}
}

func TestRunesAndValidAtEachBorder(t *testing.T) {
	checkAgainstGrammar(t, "")
	for _, a := range borders {
		checkAgainstGrammar(t, string([]byte{a}))
		for _, b := range borders {
			checkAgainstGrammar(t, string([]byte{a, b}))
			for _, c := range borders {
				checkAgainstGrammar(t, string([]byte{a, b, c}))
				for _, d := range borders {
					checkAgainstGrammar(t, string([]byte{a, b, c, d}))
				}
			}
		}
	}
}

func TestRunesOfEachPairOfBytes(t *testing.T) {
	for a := range 256 {
		for b := range 256 {
			checkAgainstGrammar(t, string([]byte{byte(a), byte(b)}))
		}
	}
}

func TestRunesOfEachCodePoint(t *testing.T) {
	for r := rune(0); r <= 0x10FFFF; r++ {
		if r >= 0xD800 && r <= 0xDFFF {
			continue
		}
		s := string(r)
		if n, ok := text.Runes(s); n != 1 || !ok {
			t.Fatalf("P201: Runes of %U: %d, %v", r, n, ok)
		}
		if text.Valid(s) != (r != 0) {
			t.Fatalf("P201: Valid of %U: %v", r, r == 0)
		}
	}
}

func TestRunesCounts(t *testing.T) {
	for s, want := range map[string]int{
		"":                             0,
		"a":                            1,
		"abc/..\n":                     7,
		"\x00":                         1,
		"a\x00b\x00":                   4,
		"\u00e9x":                      2,
		"\u20ac\U0001F600":             2,
		"e\u0301":                      2,
		"\uFFFD":                       1,
		"a\uFFFDb":                     3,
		"\uD7FF\uE000\U0010FFFF":       3,
		strings.Repeat("a", 65):        65,
		strings.Repeat("\u20ac", 5000): 5000,
		strings.Repeat("\x00", 70000):  70000,
	} {
		if n, ok := text.Runes(s); n != want || !ok {
			t.Errorf("P201: Runes(%.20q): %d, %v, not %d", s, n, ok, want)
		}
	}
}

func TestRunesOfNoUTF8(t *testing.T) {
	for _, bad := range []string{"\x80", "\xff", "\xc0\x80", "\xc0\xaf", "\xe0\x9f\xbf", "\xed\xa0\x80", "\xed\xbf\xbf", "\xed\xa0\xbd\xed\xb8\x80", "\xf0\x8f\xbf\xbf", "\xf4\x90\x80\x80", "\xf8\x88\x80\x80\x80", "\xfc\x84\x80\x80\x80\x80", "\xc3", "\xe2\x82", "\xf0\x9f\x98"} {
		for _, s := range []string{bad, "abc" + bad, bad + "abc", "\u20ac" + bad + "\u20ac", strings.Repeat("a", 5000) + bad} {
			if n, ok := text.Runes(s); n != 0 || ok {
				t.Errorf("P201, P4: Runes of %q in %d bytes: %d, %v", bad, len(s), n, ok)
			}
			if text.Valid(s) {
				t.Errorf("P201: %q in %d bytes is Valid", bad, len(s))
			}
		}
	}
}

func TestValidHasALength(t *testing.T) {
	for s, want := range map[string]bool{
		"":                                  true,
		"a\n/..\x01\x7f":                    true,
		strings.Repeat("a", 63):             true,
		strings.Repeat("a", 64):             true,
		strings.Repeat("a", 65):             false,
		strings.Repeat("a", 320):            false,
		strings.Repeat("\u00e9", 32):        true,
		strings.Repeat("\u00e9", 33):        false,
		"a" + strings.Repeat("\u20ac", 21):  true,
		"ab" + strings.Repeat("\u20ac", 21): false,
	} {
		if got := text.Valid(s); got != want {
			t.Errorf("P201: Valid of %d bytes (%.10q): %v", len(s), s, got)
		}
	}
}

func TestValidHasNoByte0(t *testing.T) {
	for _, s := range []string{"\x00", "a\x00", "\x00a", "a\x00b", strings.Repeat("a", 63) + "\x00", "\u20ac\x00"} {
		if text.Valid(s) {
			t.Errorf("P201: Valid(%q)", s)
		}
	}
}

func TestName(t *testing.T) {
	for s, want := range map[string]api.Errno{
		"a": api.OK, "a b": api.OK, " ": api.OK, "...": api.OK, ".a": api.OK, "a.": api.OK, "..a": api.OK, ". ": api.OK,
		"\x7f": api.OK, "\u0080": api.OK, "\u00e9": api.OK, "\uFFFD": api.OK, "\u2028": api.OK, "\\": api.OK, "a0": api.OK,
		strings.Repeat("a", 27): api.OK, strings.Repeat("a", 28): api.OK, strings.Repeat("\u00e9", 14): api.OK,

		"": api.ErrName, ".": api.ErrName, "..": api.ErrName,
		"/": api.ErrName, "a/": api.ErrName, "/a": api.ErrName, "a/b": api.ErrName,
		"\x00": api.ErrName, "a\x00": api.ErrName, "\xff": api.ErrName, "a\xc3": api.ErrName, "\xed\xa0\x80": api.ErrName,

		strings.Repeat("a", 29): api.ErrLong, strings.Repeat("\u00e9", 15): api.ErrLong, strings.Repeat(".", 29): api.ErrLong, strings.Repeat("a", 64): api.ErrLong,
	} {
		if e := text.Name(s); e != want {
			t.Errorf("P201: Name(%q): %v, not %v", s, e, want)
		}
	}
}

func TestNameOfEachByte(t *testing.T) {
	for c := range 128 {
		want := api.OK
		if c < 0x20 || c == '/' {
			want = api.ErrName
		}
		for _, s := range []string{"x" + string(rune(c)), string(rune(c)) + "x", "x" + string(rune(c)) + "x"} {
			if e := text.Name(s); e != want {
				t.Errorf("P201: Name(%q): %v, not %v", s, e, want)
			}
		}
	}
}

func TestNameTellsErrNameAhead(t *testing.T) {
	long := strings.Repeat("a", 29)
	for _, s := range []string{long + "/", "/" + long, long + "\n", long + "\x1f", long + "\x00", long + "\xff", strings.Repeat("/", 29), strings.Repeat("a", 65), strings.Repeat("a", 1000)} {
		if e := text.Name(s); e != api.ErrName {
			t.Errorf("P201, P6: Name(%.40q): %v, not ErrName", s, e)
		}
	}
}

// good: texts, and badTexts: what is none, with the error that tells it.
var good = []string{"", "a", "ab", "/a/../b\n", "\x01\x7f", "\u00e9\u20ac\U0001F600", "\uFFFD", strings.Repeat("a", 63), strings.Repeat("a", 64), strings.Repeat("\u00e9", 32)}

var badTexts = map[string]api.Errno{
	"\x00": api.ErrForm, "a\x00b": api.ErrForm, "\xff": api.ErrForm, "a\xc3": api.ErrForm, "\xc0\x80": api.ErrForm, "\xed\xa0\x80": api.ErrForm, "\xf4\x90\x80\x80": api.ErrForm,
	strings.Repeat("a", 63) + "\x00": api.ErrForm, strings.Repeat("\xff", 64): api.ErrForm,

	strings.Repeat("a", 65): api.ErrLong, strings.Repeat("\u00e9", 33): api.ErrLong, strings.Repeat("a", 256): api.ErrLong, strings.Repeat("a", 65535): api.ErrLong,
	strings.Repeat("\xff", 65): api.ErrLong, strings.Repeat("\x00", 65): api.ErrLong, strings.Repeat("a", 64) + "\xff": api.ErrLong,
}

// inBytes tells s as a message has it, be it a text or not.
func inBytes(s string) []byte {
	return append([]byte{byte(len(s)), byte(len(s) >> 8)}, s...)
}

func TestPut(t *testing.T) {
	var o num.Out
	var want []byte
	for _, s := range good {
		if e := text.Put(&o, s); e != api.OK {
			t.Errorf("P201: Put(%q): %v", s, e)
		}
		want = append(want, inBytes(s)...)
		if b := o.Bytes(); !bytes.Equal(b, want) {
			t.Fatalf("P201: behind Put(%q): %x, not %x", s, b, want)
		}
	}
}

func TestPutOfWhatIsNoTextPutsNothing(t *testing.T) {
	for s, want := range badTexts {
		var o num.Out
		if e := text.Put(&o, s); e != want || len(o.Bytes()) != 0 {
			t.Errorf("P201, P5: Put(%.20q): %v, not %v; %d bytes", s, e, want, len(o.Bytes()))
		}
		o.Put(1, 9)
		if e := text.Put(&o, s); e != want || !bytes.Equal(o.Bytes(), []byte{9}) {
			t.Errorf("P201, P5: Put(%.20q) behind a byte: %v, not %v; %d bytes", s, e, want, len(o.Bytes()))
		}
	}
	var o num.Out
	s := strings.Repeat("a", 65536+3)
	if e := text.Put(&o, s); e != api.ErrLong || len(o.Bytes()) != 0 {
		t.Errorf("P201: Put of %d bytes: %v", len(s), e)
	}
}

func TestTakeGivesBack(t *testing.T) {
	var o num.Out
	for _, s := range good {
		text.Put(&o, s)
	}
	o.Put(1, 7)
	i := num.Of(o.Bytes())
	for _, s := range good {
		if x, e := text.Take(i); x != s || e != api.OK {
			t.Errorf("P201: Take: %q, %v, not %q", x, e, s)
		}
	}
	if i.Left() != 1 || i.Take(1) != 7 || i.Err() != api.OK {
		t.Errorf("P201: behind the texts: %d left, %v", i.Left(), i.Err())
	}
}

func TestTakeOfWhatIsNoText(t *testing.T) {
	for s, want := range badTexts {
		i := num.Of(append(inBytes(s), inBytes("next")...))
		if x, e := text.Take(i); x != "" || e != want {
			t.Errorf("P201, P4: Take of %.20q: %.20q, %v, not %v", s, x, e, want)
		}
		if e := i.Err(); e != api.OK {
			t.Errorf("P201: Take of %.20q: the In has %v", s, e)
		}
		if x, e := text.Take(i); x != "next" || e != api.OK {
			t.Errorf("P201: Take behind %.20q: %q, %v", s, x, e)
		}
	}
}

func TestTakeTellsErrShort(t *testing.T) {
	for _, b := range [][]byte{nil, {}, {0}, {1}, {1, 0}, {2, 0, 'a'}, {64, 0, 'a'}, {0, 1, 'a'}, {255, 255}, inBytes(strings.Repeat("a", 65))[:66], inBytes("a\xff\x00")[:4]} {
		i := num.Of(b)
		for range 2 {
			if s, e := text.Take(i); s != "" || e != api.ErrShort || i.Err() != api.ErrShort || i.Left() != 0 {
				t.Errorf("P201, P6: Take of %.10x: %q, %v; the In has %v", b, s, e, i.Err())
			}
		}
	}
}

func TestTakeTellsAnErrorOfBefore(t *testing.T) {
	i := num.Of(inBytes("abc"))
	i.Take(9)
	if s, e := text.Take(i); s != "" || e != api.ErrArg || i.Err() != api.ErrArg {
		t.Errorf("P201: Take behind ErrArg: %q, %v", s, e)
	}
}

func TestTakeReadsTheLengthLowestByteFirst(t *testing.T) {
	i := num.Of(append([]byte{3, 0}, "abcd"...))
	if s, e := text.Take(i); s != "abc" || e != api.OK || i.Left() != 1 {
		t.Errorf("P201, W1: Take: %q, %v", s, e)
	}
	i = num.Of(append([]byte{0, 1}, strings.Repeat("a", 257)...))
	if s, e := text.Take(i); s != "" || e != api.ErrLong || i.Left() != 1 {
		t.Errorf("P201, W1: Take of 256: %q, %v, %d left", s, e, i.Left())
	}
}

func TestWords(t *testing.T) {
	for s, want := range map[string][]string{
		"":                              nil,
		"/":                             nil,
		"///":                           nil,
		"a":                             {"a"},
		"/a":                            {"a"},
		"a/":                            {"a"},
		"a/b":                           {"a", "b"},
		"/a//b/":                        {"a", "b"},
		"a/ /..":                        {"a", " ", ".."},
		"./a b/\x00/\n":                 {".", "a b", "\x00", "\n"},
		"\u20ac/\\/\u00e9":              {"\u20ac", "\\", "\u00e9"},
		"\xff/\xaf\xc0\xaf/\xe2":        {"\xff", "\xaf\xc0\xaf", "\xe2"},
		"a/a/a":                         {"a", "a", "a"},
		strings.Repeat("a", 100) + "/b": {strings.Repeat("a", 100), "b"},
	} {
		if l := text.Words(s); !slices.Equal(l, want) {
			t.Errorf("P201: Words(%q): %q, not %q", s, l, want)
		}
	}
	if l := text.Words(strings.Repeat("/x", 3000)); len(l) != 3000 {
		t.Errorf("P201: Words of 3000: %d", len(l))
	}
}

func TestWordsAreNew(t *testing.T) {
	const s = "a/b/c"
	l := text.Words(s)
	l[0] = "other"
	l = append(l[:1], "more")
	if again := text.Words(s); !slices.Equal(again, []string{"a", "b", "c"}) || len(l) != 2 {
		t.Errorf("P2, P3: Words again: %q", again)
	}
}
