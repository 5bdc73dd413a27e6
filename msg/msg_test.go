package msg_test

import (
	"bytes"
	"encoding/binary"
	"fmt"
	"maps"
	"reflect"
	"slices"
	"strings"
	"testing"

	"loggia/api"
	"loggia/msg"
	"loggia/qid"
	"loggia/stat"
)

// names: the chapter's list of what each Type names, by its number and the fields' names.
func names() map[uint8][]string {
	l := map[uint8][]string{}
	for t, s := range map[uint8]string{
		100: "Msize Version", 101: "Msize Version",
		102: "Afid Uname Aname", 103: "Qid",
		104: "Fid Afid Uname Aname", 105: "Qid",
		107: "Ename",
		108: "Old", 109: "",
		110: "Fid New Names", 111: "Qids",
		112: "Fid Mode", 113: "Qid Iounit",
		114: "Fid Name Perm Mode", 115: "Qid Iounit",
		116: "Fid Offset Count", 117: "Data",
		118: "Fid Offset Data", 119: "Count",
		120: "Fid", 121: "",
		122: "Fid", 123: "",
		124: "Fid", 125: "Stat",
		126: "Fid Stat", 127: "",
	} {
		l[t] = strings.Fields(s)
	}
	return l
}

func types() []uint8 { return slices.Sorted(maps.Keys(names())) }

// fields: all fields of a message but Type and Tag.
func fields() []string {
	var l []string
	t := reflect.TypeFor[msg.Msg]()
	for k := range t.NumField() {
		if n := t.Field(k).Name; n != "Type" && n != "Tag" {
			l = append(l, n)
		}
	}
	return l
}

func unnamed(typ uint8) []string {
	return slices.DeleteFunc(fields(), func(f string) bool { return slices.Contains(names()[typ], f) })
}

// sample: a message that has all there is, each byte of its numbers another one.
func sample(typ uint8) msg.Msg {
	return msg.Msg{
		Type: typ, Tag: 0x0201,
		Msize: 0x14131211, Version: "9P2000",
		Fid: 0x24232221, Afid: 0x34333231, New: 0x44434241,
		Uname: "un", Aname: "\u00e9", Ename: "no way",
		Old:    0x5251,
		Names:  []string{"a", "", "bcd"},
		Qids:   []qid.Qid{{Type: 0x61, Vers: 0x65646362, Path: 0x7877767574737271}, {Type: 0x80, Path: 1}},
		Qid:    qid.Qid{Type: 0x81, Vers: 0x85848382, Path: 0x9897969594939291},
		Iounit: 0xA4A3A2A1, Mode: 0xB1, Perm: 0xC4C3C2C1,
		Name:   "new",
		Offset: 0xD8D7D6D5D4D3D2D1, Count: 0xE4E3E2E1,
		Data: []byte{0, 0xFF, 7},
		Stat: record(),
	}
}

func record() stat.Stat {
	return stat.Stat{
		Kind: 0x0302, Dev: 0x07060504,
		Qid:  qid.Qid{Type: 8, Vers: 0x0C0B0A09, Path: 0x14131211100F0E0D},
		Mode: 0x18171615, Atime: 0x1C1B1A19, Mtime: 0x201F1E1D,
		Length: 0x2827262524232221,
		Name:   "n", Uid: "us", Gid: "", Muid: "muid",
	}
}

// recordBytes: the record written out; counts of it go ahead.
func recordBytes() []byte {
	b := []byte{54, 0}
	for n := byte(2); n <= 0x28; n++ {
		b = append(b, n)
	}
	return append(b, 1, 0, 'n', 2, 0, 'u', 's', 0, 0, 4, 0, 'm', 'u', 'i', 'd')
}

// sampleBytes: the sample of each Type written out, so that no rule of the program is taken for granted.
func sampleBytes() map[uint8][]byte {
	fid := []byte{0x21, 0x22, 0x23, 0x24}
	afid := []byte{0x31, 0x32, 0x33, 0x34}
	version := []byte{0x11, 0x12, 0x13, 0x14, 6, 0, '9', 'P', '2', '0', '0', '0'}
	who := []byte{2, 0, 'u', 'n', 2, 0, 0xC3, 0xA9}
	q := []byte{0x81, 0x82, 0x83, 0x84, 0x85, 0x91, 0x92, 0x93, 0x94, 0x95, 0x96, 0x97, 0x98}
	iounit := []byte{0xA1, 0xA2, 0xA3, 0xA4}
	offset := []byte{0xD1, 0xD2, 0xD3, 0xD4, 0xD5, 0xD6, 0xD7, 0xD8}
	count := []byte{0xE1, 0xE2, 0xE3, 0xE4}
	data := []byte{3, 0, 0, 0, 0, 0xFF, 7}
	st := append([]byte{56, 0}, recordBytes()...)
	l := map[uint8][][]byte{
		100: {version}, 101: {version},
		102: {afid, who}, 103: {q},
		104: {fid, afid, who}, 105: {q},
		107: {{6, 0, 'n', 'o', ' ', 'w', 'a', 'y'}},
		108: {{0x51, 0x52}}, 109: nil,
		110: {fid, {0x41, 0x42, 0x43, 0x44}, {3, 0}, {1, 0, 'a'}, {0, 0}, {3, 0, 'b', 'c', 'd'}},
		111: {{2, 0}, {0x61, 0x62, 0x63, 0x64, 0x65, 0x71, 0x72, 0x73, 0x74, 0x75, 0x76, 0x77, 0x78}, {0x80, 0, 0, 0, 0, 1, 0, 0, 0, 0, 0, 0, 0}},
		112: {fid, {0xB1}}, 113: {q, iounit},
		114: {fid, {3, 0, 'n', 'e', 'w'}, {0xC1, 0xC2, 0xC3, 0xC4}, {0xB1}}, 115: {q, iounit},
		116: {fid, offset, count}, 117: {data},
		118: {fid, offset, data}, 119: {count},
		120: {fid}, 121: nil,
		122: {fid}, 123: nil,
		124: {fid}, 125: {st},
		126: {fid, st}, 127: nil,
	}
	all := map[uint8][]byte{}
	for t, parts := range l {
		all[t] = append([]byte{t, 1, 2}, bytes.Join(parts, nil)...)
	}
	return all
}

func field(m *msg.Msg, name string) reflect.Value {
	return reflect.ValueOf(m).Elem().FieldByName(name)
}

// only: m with what its Type does not name left out.
func only(m msg.Msg) msg.Msg {
	x := msg.Msg{Type: m.Type, Tag: m.Tag}
	for _, f := range names()[m.Type] {
		if v := field(&m, f); v.Kind() != reflect.Slice || v.Len() > 0 {
			field(&x, f).Set(v)
		}
	}
	return x
}

// told: whether x is m and has nothing that its Type does not name. No list and an empty one are the same.
func told(x, m msg.Msg) bool {
	for _, f := range fields() {
		if v := field(&x, f); v.Kind() == reflect.Slice && v.Len() == 0 {
			v.SetZero()
		}
	}
	return reflect.DeepEqual(x, only(m))
}

// plain tells a message's bytes by another road than the program's, whatever its texts and lists.
func plain(m msg.Msg) []byte {
	b := binary.LittleEndian.AppendUint16([]byte{m.Type}, m.Tag)
	for _, f := range names()[m.Type] {
		b = appended(b, field(&m, f).Interface())
	}
	return b
}

func appended(b []byte, v any) []byte {
	le := binary.LittleEndian
	switch v := v.(type) {
	case uint8:
		return append(b, v)
	case uint16:
		return le.AppendUint16(b, v)
	case uint32:
		return le.AppendUint32(b, v)
	case uint64:
		return le.AppendUint64(b, v)
	case string:
		return append(le.AppendUint16(b, uint16(len(v))), v...)
	case []byte:
		return append(le.AppendUint32(b, uint32(len(v))), v...)
	case qid.Qid:
		return appended(appended(append(b, v.Type), v.Vers), v.Path)
	case []string:
		b = le.AppendUint16(b, uint16(len(v)))
		for _, x := range v {
			b = appended(b, x)
		}
	case []qid.Qid:
		b = le.AppendUint16(b, uint16(len(v)))
		for _, x := range v {
			b = appended(b, x)
		}
	case stat.Stat:
		var r []byte
		for _, x := range []any{v.Kind, v.Dev, v.Qid, v.Mode, v.Atime, v.Mtime, v.Length, v.Name, v.Uid, v.Gid, v.Muid} {
			r = appended(r, x)
		}
		return append(le.AppendUint16(le.AppendUint16(b, uint16(len(r)+2)), uint16(len(r))), r...)
	default:
		panic(fmt.Sprintf("no such field: %T", v))
	}
	return b
}

func goes(t *testing.T, m msg.Msg) {
	t.Helper()
	want := plain(m)
	if b, e := msg.Encode(m); !bytes.Equal(b, want) || e != api.OK {
		t.Errorf("P501: Encode(%+v): %x, %v, not %x", m, b, e, want)
	}
	x, e := msg.Decode(want)
	if !told(x, m) || e != api.OK {
		t.Errorf("P501: Decode(%x): %+v, %v, not %+v", want, x, e, only(m))
	}
	if !msg.Same(x, m) || !msg.Same(m, x) {
		t.Errorf("P501: not the same: %+v and %+v", x, m)
	}
}

func refused(t *testing.T, m msg.Msg, want api.Errno) {
	t.Helper()
	if b, e := msg.Encode(m); len(b) != 0 || e != want {
		t.Errorf("P501: Encode(%.300s): %d bytes, %v, not %v", fmt.Sprintf("%+v", m), len(b), e, want)
	}
}

func isNone(t *testing.T, b []byte) {
	t.Helper()
	if m, e := msg.Decode(b); !reflect.DeepEqual(m, msg.Msg{}) || e != api.ErrForm {
		t.Errorf("P501: Decode(%.100x), %d bytes: %+v, %v", b, len(b), m, e)
	}
}

func TestEachTypeWrittenOut(t *testing.T) {
	if len(sampleBytes()) != 27 {
		t.Fatalf("%d types", len(sampleBytes()))
	}
	for typ, want := range sampleBytes() {
		m := sample(typ)
		if b, e := msg.Encode(m); !bytes.Equal(b, want) || e != api.OK {
			t.Errorf("P501: %d: %x, %v, not %x", typ, b, e, want)
		}
		if x, e := msg.Decode(want); !told(x, m) || e != api.OK {
			t.Errorf("P501: %d: %+v, %v, not %+v", typ, x, e, only(m))
		}
	}
}

func TestTypesHaveTheirNumbers(t *testing.T) {
	for want, typ := range []int{
		msg.Tversion, msg.Rversion, msg.Tauth, msg.Rauth, msg.Tattach, msg.Rattach, 106, msg.Rerror, msg.Tflush, msg.Rflush,
		msg.Twalk, msg.Rwalk, msg.Topen, msg.Ropen, msg.Tcreate, msg.Rcreate, msg.Tread, msg.Rread, msg.Twrite, msg.Rwrite,
		msg.Tclunk, msg.Rclunk, msg.Tremove, msg.Rremove, msg.Tstat, msg.Rstat, msg.Twstat, msg.Rwstat,
	} {
		if typ != 100+want {
			t.Errorf("P501: %d, not %d", typ, 100+want)
		}
	}
}

func TestKnownAndAsk(t *testing.T) {
	asks := []uint8{100, 102, 104, 108, 110, 112, 114, 116, 118, 120, 122, 124, 126}
	for typ := range 256 {
		u := uint8(typ)
		if got, want := msg.Known(u), typ >= 100 && typ <= 127 && typ != 106; got != want {
			t.Errorf("P501: Known(%d): %v", typ, got)
		}
		if got, want := msg.Ask(u), slices.Contains(asks, u); got != want {
			t.Errorf("P501: Ask(%d): %v", typ, got)
		}
	}
}

func TestEachTypeOfNothingAndOfAllOnes(t *testing.T) {
	for _, typ := range types() {
		goes(t, msg.Msg{Type: typ})
		goes(t, msg.Msg{Type: typ, Names: []string{}, Qids: []qid.Qid{}, Data: []byte{}})
		m := msg.Msg{Type: typ, Tag: 0xFFFF, Stat: stat.Keep()}
		for _, f := range fields() {
			if v := field(&m, f); v.CanUint() {
				v.SetUint(1<<v.Type().Bits() - 1)
			}
		}
		m.Qid = qid.Qid{Type: 0xFF, Vers: 0xFFFFFFFF, Path: 0xFFFFFFFFFFFFFFFF}
		m.Qids = slices.Repeat([]qid.Qid{m.Qid}, 3)
		goes(t, m)
	}
}

func TestEachBitOfEachNumber(t *testing.T) {
	for _, typ := range types() {
		for k := range 16 {
			goes(t, msg.Msg{Type: typ, Tag: 1 << k})
		}
		for _, f := range names()[typ] {
			m := sample(typ)
			v := field(&m, f)
			if !v.CanUint() {
				continue
			}
			for k := range v.Type().Bits() {
				v.SetUint(1 << k)
				goes(t, m)
			}
		}
	}
}

// textPlaces: where a message of this Type has texts, three names of a walk and a record's four among them.
func textPlaces(typ uint8) []func(*msg.Msg) *string {
	var l []func(*msg.Msg) *string
	for _, f := range names()[typ] {
		switch f {
		case "Version", "Uname", "Aname", "Ename", "Name":
			l = append(l, func(m *msg.Msg) *string { return field(m, f).Addr().Interface().(*string) })
		case "Names":
			for k := range sample(typ).Names {
				l = append(l, func(m *msg.Msg) *string { return &m.Names[k] })
			}
		case "Stat":
			for _, f := range []string{"Name", "Uid", "Gid", "Muid"} {
				l = append(l, func(m *msg.Msg) *string {
					return field(m, "Stat").FieldByName(f).Addr().Interface().(*string)
				})
			}
		}
	}
	return l
}

func TestEachTextAtItsEdges(t *testing.T) {
	places := 0
	for _, typ := range types() {
		for _, at := range textPlaces(typ) {
			places++
			for _, s := range []string{"", "a", "/", ".", "..", "\x01\x1f\x7f", "\u00e9\u20ac\U0001F600", "\uFFFD", strings.Repeat("n", 29), strings.Repeat("b", 63), strings.Repeat("c", 64), strings.Repeat("\u00e9", 32)} {
				m := sample(typ)
				*at(&m) = s
				goes(t, m)
			}
		}
	}
	if places != 2+4+1+3+1+8 {
		t.Errorf("%d places", places)
	}
}

// wrongTexts: what is no text of a message, and what text.Put says of it.
func wrongTexts() map[string]api.Errno {
	return map[string]api.Errno{
		strings.Repeat("a", 65):          api.ErrLong,
		strings.Repeat("a", 65537):       api.ErrLong,
		strings.Repeat("\u00e9", 33):     api.ErrLong,
		strings.Repeat("\xff", 65):       api.ErrLong,
		strings.Repeat("a", 64) + "\x00": api.ErrLong,
		"\x00":                           api.ErrForm,
		"a\x00b":                         api.ErrForm,
		"\xff":                           api.ErrForm,
		"\xc3":                           api.ErrForm,
		"\xc0\x80":                       api.ErrForm,
		"\xed\xa0\x80":                   api.ErrForm,
		strings.Repeat("a", 63) + "\x00": api.ErrForm,
		strings.Repeat("a", 63) + "\xc3": api.ErrForm,
	}
}

func TestEachTextThatIsTooLongOrNone(t *testing.T) {
	for _, typ := range types() {
		for _, at := range textPlaces(typ) {
			for w, want := range wrongTexts() {
				m := sample(typ)
				*at(&m) = w
				refused(t, m, want)
				isNone(t, plain(m))
			}
		}
	}
}

func TestEncodeTellsTheFirstWrongText(t *testing.T) {
	for _, typ := range types() {
		places := textPlaces(typ)
		for k, first := range places {
			for _, then := range places[k+1:] {
				for _, c := range []struct {
					a, b string
					want api.Errno
				}{{strings.Repeat("a", 65), "\xff", api.ErrLong}, {"\xff", strings.Repeat("a", 65), api.ErrForm}} {
					m := sample(typ)
					*first(&m), *then(&m) = c.a, c.b
					refused(t, m, c.want)
					isNone(t, plain(m))
				}
			}
		}
	}
}

func TestEachListAtItsBound(t *testing.T) {
	for n := range 18 {
		walk := msg.Msg{Type: msg.Twalk, Names: slices.Repeat([]string{"ab"}, n)}
		qids := msg.Msg{Type: msg.Rwalk, Qids: make([]qid.Qid, n)}
		for k := range qids.Qids {
			qids.Qids[k].Path = uint64(k)
		}
		for _, m := range []msg.Msg{walk, qids} {
			if n <= 16 {
				goes(t, m)
			} else {
				refused(t, m, api.ErrLong)
				isNone(t, plain(m))
			}
		}
	}
	longest := strings.Repeat("x", 64)
	goes(t, msg.Msg{Type: msg.Twalk, Names: slices.Repeat([]string{longest}, 16)})
	goes(t, msg.Msg{Type: msg.Twstat, Stat: stat.Stat{Name: longest, Uid: longest, Gid: longest, Muid: longest}})
	goes(t, msg.Msg{Type: msg.Rstat, Stat: stat.Stat{Name: longest, Uid: longest, Gid: longest, Muid: longest}})
}

// Lists whose count would come round to a small one in its two bytes, and ones that are far too long.
func TestListsThatAreFarTooLong(t *testing.T) {
	for _, n := range []int{18, 255, 256, 257, 65535, 65536, 65537, 65552} {
		refused(t, msg.Msg{Type: msg.Twalk, Names: make([]string, n)}, api.ErrLong)
		refused(t, msg.Msg{Type: msg.Rwalk, Qids: make([]qid.Qid, n)}, api.ErrLong)
		if n <= 65535 {
			isNone(t, plain(msg.Msg{Type: msg.Twalk, Names: make([]string, n)}))
			isNone(t, plain(msg.Msg{Type: msg.Rwalk, Qids: make([]qid.Qid, n)}))
		}
	}
}

func TestDataAtItsBound(t *testing.T) {
	whole := make([]byte, 70000)
	for k := range whole {
		whole[k] = byte(k * 7)
	}
	for _, typ := range []uint8{msg.Rread, msg.Twrite} {
		for _, n := range []int{0, 1, 255, 256, 4096, 8168, 8191, 8192} {
			goes(t, msg.Msg{Type: typ, Data: whole[:n]})
		}
		for _, n := range []int{8193, 8194, 16384, 65535, 65536, 65537} {
			refused(t, msg.Msg{Type: typ, Data: whole[:n]}, api.ErrLong)
			isNone(t, plain(msg.Msg{Type: typ, Data: whole[:n]}))
		}
	}
	for _, high := range [][]byte{{1, 0, 1, 0}, {1, 0, 0, 1}, {1, 0, 0, 0x80}, {0xFF, 0xFF, 0xFF, 0xFF}} {
		isNone(t, slices.Concat([]byte{117, 0, 0}, high, []byte{9}))
		isNone(t, slices.Concat([]byte{117, 0, 0}, high))
		isNone(t, slices.Concat([]byte{118, 0, 0}, make([]byte, 12), high, []byte{9}))
	}
}

func TestTooManyIsToldAheadOfAWrongText(t *testing.T) {
	for k := range 17 {
		m := msg.Msg{Type: msg.Twalk, Names: make([]string, 17)}
		m.Names[k] = "\xff"
		refused(t, m, api.ErrLong)
		isNone(t, plain(m))
	}
	for k := range 16 {
		m := msg.Msg{Type: msg.Twalk, Names: make([]string, 16)}
		m.Names[k] = "\xff"
		refused(t, m, api.ErrForm)
		m.Names[k] = strings.Repeat("a", 65)
		refused(t, m, api.ErrLong)
	}
}

// wrong: a message in which all is wrong that can be.
func wrong(typ uint8) msg.Msg {
	long := strings.Repeat("a", 65)
	return msg.Msg{
		Type: typ, Tag: 9, Version: long, Uname: long, Aname: "\xff", Ename: "\x00", Name: long,
		Names: append(make([]string, 20), "\xff"), Qids: make([]qid.Qid, 17), Data: make([]byte, 8193),
		Stat: stat.Stat{Name: long, Muid: "\x00"},
	}
}

func TestWhatIsNotKnown(t *testing.T) {
	for typ := range 256 {
		u := uint8(typ)
		if msg.Known(u) {
			continue
		}
		refused(t, msg.Msg{Type: u}, api.ErrForm)
		refused(t, sample(u), api.ErrForm)
		refused(t, wrong(u), api.ErrForm)
		for _, b := range sampleBytes() {
			isNone(t, append([]byte{u}, b[1:]...))
		}
		isNone(t, []byte{u})
		isNone(t, []byte{u, 0, 0})
	}
}

func TestWhatATypeDoesNotNameIsNotLookedAt(t *testing.T) {
	for typ, want := range sampleBytes() {
		all, none := sample(typ), sample(typ)
		bad := wrong(typ)
		for _, f := range unnamed(typ) {
			one := sample(typ)
			field(&one, f).Set(field(&bad, f))
			field(&all, f).Set(field(&bad, f))
			field(&none, f).SetZero()
			if b, e := msg.Encode(one); !bytes.Equal(b, want) || e != api.OK {
				t.Errorf("P501: %d with another %s: %x, %v", typ, f, b, e)
			}
			if !msg.Same(one, sample(typ)) || !msg.Same(sample(typ), one) {
				t.Errorf("P501: %d with another %s is not the same", typ, f)
			}
		}
		for _, m := range []msg.Msg{all, none} {
			if b, e := msg.Encode(m); !bytes.Equal(b, want) || e != api.OK {
				t.Errorf("P501: %d: %x, %v, not %x", typ, b, e, want)
			}
			if !msg.Same(m, sample(typ)) || !msg.Same(sample(typ), m) {
				t.Errorf("P501: %d: not the same: %+v", typ, m)
			}
		}
	}
}

func TestBytesThatEndAtEachPlaceWithin(t *testing.T) {
	isNone(t, nil)
	isNone(t, []byte{})
	for _, b := range sampleBytes() {
		for n := range b {
			isNone(t, b[:n])
		}
	}
	for _, typ := range types() {
		b := plain(msg.Msg{Type: typ})
		for n := range b {
			isNone(t, b[:n])
		}
	}
}

func TestBytesThatGoOnBehind(t *testing.T) {
	for _, b := range sampleBytes() {
		for _, behind := range [][]byte{{0}, {1}, {0xFF}, {0, 0}, make([]byte, 13), make([]byte, 8192), b} {
			isNone(t, slices.Concat(b, behind))
		}
	}
}

func TestAListsCountThatDoesNotFit(t *testing.T) {
	for typ, at := range map[uint8]int{msg.Twalk: 11, msg.Rwalk: 3, msg.Rread: 3, msg.Twrite: 15} {
		was := sampleBytes()[typ]
		for n := range 256 {
			b := bytes.Clone(was)
			if b[at] = byte(n); b[at] != was[at] {
				isNone(t, b)
			}
			b = bytes.Clone(was)
			if b[at+1] = byte(n); n > 0 {
				isNone(t, b)
			}
		}
	}
}

// framed: the bytes of an Rstat and a Twstat that say n bytes follow, and then have these.
func framed(n int, b []byte) [][]byte {
	r := append([]byte{125, 0, 0, byte(n), byte(n >> 8)}, b...)
	w := append([]byte{126, 0, 0, 5, 0, 0, 0, byte(n), byte(n >> 8)}, b...)
	return [][]byte{r, w}
}

func eachIsNone(t *testing.T, n int, b []byte) {
	t.Helper()
	for _, x := range framed(n, b) {
		isNone(t, x)
	}
}

func TestARecordWhoseCountDoesNotFit(t *testing.T) {
	r := recordBytes()
	for _, x := range framed(len(r), r) {
		if m, e := msg.Decode(x); m.Stat != record() || e != api.OK {
			t.Fatalf("P501: %x: %+v, %v", x, m, e)
		}
	}
	for n := range 400 {
		if n != len(r) {
			eachIsNone(t, n, r)
		}
		if n+2 != len(r) {
			inner := bytes.Clone(r)
			binary.LittleEndian.PutUint16(inner, uint16(n))
			eachIsNone(t, len(r), inner)
			eachIsNone(t, n+2, inner)
			eachIsNone(t, n, inner)
		}
	}
	eachIsNone(t, 0xFFFF, r)
	eachIsNone(t, len(r)+256, r)
}

func TestWhatIsJustNoRecord(t *testing.T) {
	r := recordBytes()
	for _, b := range [][]byte{nil, {0}, {0, 0}, {1, 0, 0}, r[2:], slices.Concat(r, r), append(bytes.Clone(r), 0), append(bytes.Clone(r), 0, 0), make([]byte, 49), make([]byte, 0xFFFF)} {
		eachIsNone(t, len(b), b)
	}
	for n := range r {
		eachIsNone(t, n, r[:n])
		short := bytes.Clone(r[:n])
		if n > 2 {
			binary.LittleEndian.PutUint16(short, uint16(n-2))
			eachIsNone(t, n, short)
		}
	}
	over := append(bytes.Clone(r), 0)
	over[0]++
	eachIsNone(t, len(over), over)
}

// Whatever byte stands where: what Decode takes, Encode tells again, byte by byte.
func TestEachByteSetToEachOther(t *testing.T) {
	taken := 0
	for typ, was := range sampleBytes() {
		for at := range was {
			for v := range 256 {
				b := bytes.Clone(was)
				b[at] = byte(v)
				m, e := msg.Decode(b)
				if e != api.OK {
					isNone(t, b)
					continue
				}
				taken++
				x, e := msg.Encode(m)
				if !bytes.Equal(x, b) || e != api.OK || !told(m, m) {
					t.Errorf("P501: %d: %x was %+v, and is %x, %v", typ, b, m, x, e)
				}
				if at > 0 && msg.Same(m, sample(typ)) != bytes.Equal(b, was) {
					t.Errorf("P501: %d: %x and %x: %v", typ, b, was, bytes.Equal(b, was))
				}
			}
		}
	}
	if taken < 50000 {
		t.Errorf("only %d were taken", taken)
	}
}

// others: what differs from the sample's field in one thing, however small.
func others(m msg.Msg, f string) []any {
	switch v := field(&m, f).Interface().(type) {
	case []string:
		return []any{[]string(nil), v[:2], v[1:], append(slices.Clone(v), ""), append(slices.Clone(v), "x"), []string{"", "a", "bcd"}, []string{"a", "b", "cd"}, []string{"a", "", "bce"}, []string{"\xff", "", "bcd"}}
	case []qid.Qid:
		l := []any{[]qid.Qid(nil), v[:1], v[1:], append(slices.Clone(v), qid.Qid{}), []qid.Qid{v[1], v[0]}}
		for k := range v {
			for _, q := range otherQids(v[k]) {
				x := slices.Clone(v)
				x[k] = q
				l = append(l, x)
			}
		}
		return l
	case []byte:
		return []any{[]byte(nil), v[:2], v[1:], append(bytes.Clone(v), 0), []byte{1, 0xFF, 7}, []byte{0, 0xFE, 7}, []byte{0, 0xFF, 8}}
	case qid.Qid:
		var l []any
		for _, q := range otherQids(v) {
			l = append(l, q)
		}
		return l
	case stat.Stat:
		var l []any
		for k := range reflect.TypeOf(v).NumField() {
			x := v
			if f := reflect.ValueOf(&x).Elem().Field(k); f.CanUint() {
				f.SetUint(f.Uint() + 1)
			} else if f.Kind() == reflect.String {
				f.SetString(f.String() + "\xff")
			} else {
				x.Qid.Vers++
			}
			l = append(l, x)
		}
		return append(l, stat.Stat{})
	case string:
		return []any{"", v + "a", v + "\x00", v[:len(v)-1], "\xff", strings.ToUpper(v + "z")}
	}
	var l []any
	v := field(&m, f)
	for k := range v.Type().Bits() {
		x := sample(m.Type)
		field(&x, f).SetUint(v.Uint() ^ 1<<k)
		l = append(l, field(&x, f).Interface())
	}
	return l
}

func otherQids(q qid.Qid) []qid.Qid {
	l := []qid.Qid{q, q, q}
	l[0].Type ^= 0x10
	l[1].Vers ^= 0x80000000
	l[2].Path ^= 0x8000000000000000
	return l
}

func TestSameOfTwoThatDifferInOneThing(t *testing.T) {
	for typ := range 256 {
		a := sample(uint8(typ))
		for _, f := range fields() {
			for _, v := range others(a, f) {
				b := sample(uint8(typ))
				field(&b, f).Set(reflect.ValueOf(v))
				want := !slices.Contains(names()[uint8(typ)], f)
				if msg.Same(a, b) != want || msg.Same(b, a) != want {
					t.Errorf("P501: %d with %s %v: %v, not %v", typ, f, v, !want, want)
				}
			}
		}
		for k := range 16 {
			b := sample(uint8(typ))
			if b.Tag ^= 1 << k; msg.Same(a, b) || msg.Same(b, a) {
				t.Errorf("P501: %d: Tags %x and %x are the same", typ, a.Tag, b.Tag)
			}
		}
	}
}

// Two Types that name the same, or nothing, or are not Known, are not the same for that.
func TestSameOfTwoTypes(t *testing.T) {
	for a := range 256 {
		for b := range 256 {
			if msg.Same(sample(uint8(a)), sample(uint8(b))) != (a == b) {
				t.Errorf("P501: %d and %d", a, b)
			}
			if msg.Same(msg.Msg{Type: uint8(a)}, msg.Msg{Type: uint8(b)}) != (a == b) {
				t.Errorf("P501: empty ones of %d and %d", a, b)
			}
		}
	}
}

func TestSameOfTwoThatAreNotKnown(t *testing.T) {
	for _, typ := range []uint8{0, 1, 99, 106, 128, 255} {
		if a, b := sample(typ), wrong(typ); msg.Same(a, b) {
			t.Errorf("P501: %d: Tags %d and %d", typ, a.Tag, b.Tag)
		}
		for _, m := range []msg.Msg{sample(typ), wrong(typ)} {
			if x := (msg.Msg{Type: typ, Tag: m.Tag}); !msg.Same(m, x) || !msg.Same(x, m) || !msg.Same(m, m) {
				t.Errorf("P501: %d names something", typ)
			}
		}
	}
}

func TestSameOfWhatEncodeRefuses(t *testing.T) {
	for _, typ := range types() {
		a, b := wrong(typ), wrong(typ)
		if !msg.Same(a, b) {
			t.Errorf("P501: %d is not the same as itself", typ)
		}
		b.Names[20], b.Qids[16].Vers, b.Data[8192] = "\xfe", 1, 1
		b.Version, b.Ename = a.Version+"a", "\x00\x00"
		want := !slices.Contains([]uint8{100, 101, 107, 110, 111, 117, 118}, typ)
		if msg.Same(a, b) != want || msg.Same(b, a) != want {
			t.Errorf("P501: %d: %v, not %v", typ, !want, want)
		}
	}
}

func TestSameOfNoListAndAnEmptyOne(t *testing.T) {
	for _, typ := range types() {
		a := msg.Msg{Type: typ}
		b := msg.Msg{Type: typ, Names: []string{}, Qids: []qid.Qid{}, Data: []byte{}}
		if !msg.Same(a, b) || !msg.Same(b, a) {
			t.Errorf("P2: %d", typ)
		}
	}
}

func TestErrorOfEachError(t *testing.T) {
	words := []string{
		"ok", "bad number", "bad message", "too long", "too short", "permission denied", "file does not exist", "file already exists",
		"unknown fid", "fid in use", "fid is open", "fid not open so", "is a directory", "not a directory", "no room left", "directory not empty",
		"duplicate tag", "no version yet", "no authentication required", "unknown user", "exclusive use file already open", "bad offset in directory read", "power is off",
		"error",
	}
	of := map[api.Errno]string{-1: "error", 1000: "error"}
	for e, w := range words {
		of[api.Errno(e)] = w
	}
	for e, w := range of {
		for _, tag := range []uint16{0, 7, 0x1234, api.NoTag} {
			m := msg.Error(tag, e)
			if !reflect.DeepEqual(m, msg.Msg{Type: 107, Tag: tag, Ename: w}) {
				t.Errorf("P501: %d: %+v", e, m)
			}
			goes(t, m)
		}
	}
}

// roomy: m with spare room behind each list, filled.
func roomy(m msg.Msg) msg.Msg {
	m.Names = append(slices.Clone(m.Names), "spare", "spare")[:len(m.Names)]
	m.Qids = append(slices.Clone(m.Qids), qid.Qid{Path: 77})[:len(m.Qids)]
	m.Data = append(bytes.Clone(m.Data), 77, 78)[:len(m.Data)]
	return m
}

// spread: m with its lists' spare room told, too.
func spread(m msg.Msg) msg.Msg {
	m.Names, m.Qids, m.Data = m.Names[:cap(m.Names)], m.Qids[:cap(m.Qids)], m.Data[:cap(m.Data)]
	return m
}

func TestWhatIsHandedInIsLeft(t *testing.T) {
	for typ := range 256 {
		for _, m := range []msg.Msg{roomy(sample(uint8(typ))), roomy(wrong(uint8(typ)))} {
			was := spread(m)
			was.Names, was.Qids, was.Data = slices.Clone(was.Names), slices.Clone(was.Qids), slices.Clone(was.Data)
			b, _ := msg.Encode(m)
			msg.Same(m, sample(uint8(typ)))
			clear(b[:cap(b)])
			if !reflect.DeepEqual(spread(m), was) {
				t.Errorf("P2: %d: %+v, not %+v", typ, spread(m), was)
			}
		}
	}
	for typ, b := range sampleBytes() {
		whole := append(bytes.Clone(b), 1, 2, 3)
		was := bytes.Clone(whole)
		for n := range whole {
			if m, e := msg.Decode(whole[:n]); e == api.OK {
				scribble(m)
			}
		}
		if !bytes.Equal(whole, was) {
			t.Errorf("P2: %d: %x, not %x", typ, whole, was)
		}
	}
}

func scribble(m msg.Msg) {
	m = spread(m)
	clear(m.Names)
	clear(m.Qids)
	clear(m.Data)
}

func TestWhatIsHandedInIsNotKept(t *testing.T) {
	for typ, want := range sampleBytes() {
		m := sample(typ)
		b, _ := msg.Encode(m)
		scribble(m)
		if !bytes.Equal(b, want) {
			t.Errorf("P2: %d: %x, not %x", typ, b, want)
		}
		in := bytes.Clone(want)
		x, _ := msg.Decode(in)
		clear(in)
		if !told(x, sample(typ)) {
			t.Errorf("P2: %d: %+v", typ, x)
		}
	}
}

func TestEachAnswerIsNew(t *testing.T) {
	for typ, want := range sampleBytes() {
		a, _ := msg.Encode(sample(typ))
		b, _ := msg.Encode(sample(typ))
		clear(a[:cap(a)])
		if !bytes.Equal(b, want) {
			t.Errorf("P2: %d: %x", typ, b)
		}
		x, _ := msg.Decode(want)
		y, _ := msg.Decode(want)
		scribble(x)
		if !told(y, sample(typ)) {
			t.Errorf("P2: %d: %+v", typ, y)
		}
	}
}
