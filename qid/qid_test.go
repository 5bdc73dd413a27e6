package qid_test

import (
	"bytes"
	"math"
	"testing"

	"loggia/api"
	"loggia/num"
	"loggia/qid"
)

const size = 13

var (
	sample      = qid.Qid{Type: 0xA1, Vers: 0xB4B3B2B1, Path: 0xC8C7C6C5C4C3C2C1}
	sampleBytes = []byte{0xA1, 0xB1, 0xB2, 0xB3, 0xB4, 0xC1, 0xC2, 0xC3, 0xC4, 0xC5, 0xC6, 0xC7, 0xC8}
)

// many: the edges of each field, alone and together.
func many() []qid.Qid {
	l := []qid.Qid{sample, {}, {Type: math.MaxUint8, Vers: math.MaxUint32, Path: math.MaxUint64}}
	for k := range 8 {
		l = append(l, qid.Qid{Type: 1 << k}, qid.Qid{Type: math.MaxUint8 &^ (1 << k)})
	}
	for k := range 32 {
		l = append(l, qid.Qid{Vers: 1 << k}, qid.Qid{Vers: math.MaxUint32 &^ (1 << k), Path: 1})
	}
	for k := range 64 {
		l = append(l, qid.Qid{Path: 1 << k}, qid.Qid{Path: math.MaxUint64 &^ (1 << k), Vers: 1})
	}
	return l
}

func TestPut(t *testing.T) {
	var o num.Out
	qid.Put(&o, sample)
	if b := o.Bytes(); !bytes.Equal(b, sampleBytes) {
		t.Errorf("P301: %x, not %x", b, sampleBytes)
	}
}

func TestPutGoesBehindWhatIsThere(t *testing.T) {
	var o num.Out
	o.Put(2, 0x0102)
	qid.Put(&o, sample)
	qid.Put(&o, qid.Qid{})
	o.Raw([]byte{9})
	want := append([]byte{2, 1}, sampleBytes...)
	want = append(want, make([]byte, size)...)
	want = append(want, 9)
	if b := o.Bytes(); !bytes.Equal(b, want) {
		t.Errorf("P301: %x, not %x", b, want)
	}
}

func TestTake(t *testing.T) {
	i := num.Of(append(bytes.Clone(sampleBytes), 7, 8))
	if q := qid.Take(i); q != sample {
		t.Errorf("P301: %+v, not %+v", q, sample)
	}
	if i.Err() != api.OK || i.Left() != 2 || i.Take(2) != 0x0807 {
		t.Errorf("P301: behind a qid: %v, %d left", i.Err(), i.Left())
	}
}

func TestEachTakenBack(t *testing.T) {
	var o num.Out
	l := many()
	for n, q := range l {
		qid.Put(&o, q)
		if k := len(o.Bytes()); k != (n+1)*size {
			t.Fatalf("P301: %d bytes behind %d qids", k, n+1)
		}
	}
	i := num.Of(o.Bytes())
	for n, want := range l {
		if q := qid.Take(i); q != want {
			t.Errorf("P301: the qid at %d: %+v, not %+v", n, q, want)
		}
		if left := (len(l) - n - 1) * size; i.Left() != left || i.Err() != api.OK {
			t.Errorf("P301: behind %d: %v, %d left, not %d", n, i.Err(), i.Left(), left)
		}
	}
	if q := qid.Take(i); q != (qid.Qid{}) || i.Err() != api.ErrShort {
		t.Errorf("P301: behind the last one: %+v, %v", q, i.Err())
	}
}

func TestTakeOfAnInThatEnds(t *testing.T) {
	for ahead := range 3 {
		for n := range size {
			b := append(bytes.Repeat(sampleBytes, ahead), sampleBytes[:n]...)
			i := num.Of(b)
			for k := range ahead {
				if q := qid.Take(i); q != sample {
					t.Errorf("P301: whole one %d ahead of %d bytes: %+v", k, n, q)
				}
			}
			for again := range 2 {
				if q := qid.Take(i); q != (qid.Qid{}) || i.Err() != api.ErrShort || i.Left() != 0 {
					t.Errorf("P301: %d bytes, time %d: %+v, %v, %d left", n, again, q, i.Err(), i.Left())
				}
			}
		}
	}
}

func TestTakeOfAnInWithAnError(t *testing.T) {
	spoil := map[api.Errno]func(*num.In){
		api.ErrArg:   func(i *num.In) { i.Take(9) },
		api.ErrShort: func(i *num.In) { i.Raw(2*size + 1) },
	}
	for e, do := range spoil {
		i := num.Of(bytes.Repeat(sampleBytes, 2))
		do(i)
		for range 2 {
			if q := qid.Take(i); q != (qid.Qid{}) || i.Err() != e {
				t.Errorf("P301: behind %v: %+v, %v", e, q, i.Err())
			}
		}
	}
}

func TestTakeLeavesTheBytes(t *testing.T) {
	room := append(bytes.Clone(sampleBytes), 1, 2, 3)
	was := bytes.Clone(room)
	for n := range size + 1 {
		qid.Take(num.Of(room[:n]))
	}
	if !bytes.Equal(room, was) {
		t.Errorf("P2: %x, not %x", room, was)
	}
}

// kinds: which bit of a mode is which of a type, written out, so that no rule of the program is taken for granted.
var kinds = []struct {
	mode uint32
	kind uint8
}{
	{1 << 31, 1 << 7},
	{1 << 30, 1 << 6},
	{1 << 29, 1 << 5},
}

func typeOf(mode uint32) (t uint8) {
	for _, k := range kinds {
		if mode&k.mode != 0 {
			t |= k.kind
		}
	}
	return t
}

func modeOf(t uint8) (mode uint32) {
	for _, k := range kinds {
		if t&k.kind != 0 {
			mode |= k.mode
		}
	}
	return mode
}

func TestNumbersOfTheKinds(t *testing.T) {
	told := []struct {
		mode uint32
		kind uint8
	}{{api.DMDIR, api.QTDIR}, {api.DMAPPEND, api.QTAPPEND}, {api.DMEXCL, api.QTEXCL}}
	for _, k := range told {
		if x := qid.Type(k.mode); x != k.kind {
			t.Errorf("P301: Type(%x): %x, not %x", k.mode, x, k.kind)
		}
		if x := qid.Mode(k.kind); x != k.mode {
			t.Errorf("P301: Mode(%x): %x, not %x", k.kind, x, k.mode)
		}
	}
}

func TestTypeOfEachBit(t *testing.T) {
	for k := range 32 {
		for _, mode := range []uint32{1 << k, math.MaxUint32 &^ (1 << k)} {
			if x := qid.Type(mode); x != typeOf(mode) {
				t.Errorf("P301: Type(%x): %x, not %x", mode, x, typeOf(mode))
			}
		}
	}
}

func TestTypeOfTheKindsTogether(t *testing.T) {
	for high := range uint32(256) {
		for _, low := range []uint32{0, 0o644, 0o777, 0x00FFFFFF, 0x00E00000, 0x0000E000, 0xE0} {
			mode := high<<24 | low
			if x := qid.Type(mode); x != typeOf(mode) {
				t.Errorf("P301: Type(%x): %x, not %x", mode, x, typeOf(mode))
			}
			if x := qid.Mode(qid.Type(mode)); x != mode>>29<<29 {
				t.Errorf("P301: Mode(Type(%x)): %x", mode, x)
			}
		}
	}
}

func TestModeOfEachType(t *testing.T) {
	for n := range 256 {
		kind := uint8(n)
		if x := qid.Mode(kind); x != modeOf(kind) {
			t.Errorf("P301: Mode(%x): %x, not %x", kind, x, modeOf(kind))
		}
		if x := qid.Type(qid.Mode(kind)); x != kind>>5<<5 {
			t.Errorf("P301: Type(Mode(%x)): %x", kind, x)
		}
	}
}
