package num_test

import (
	"bytes"
	"math"
	"slices"
	"testing"

	"loggia/api"
	"loggia/num"
)

const sample = 0x8877665544332211

func TestZeroOutIsEmpty(t *testing.T) {
	var o num.Out
	if b := o.Bytes(); len(b) != 0 {
		t.Errorf("P101: a zero Out has %x", b)
	}
}

func TestPut(t *testing.T) {
	low := []byte{0x11, 0x22, 0x33, 0x44, 0x55, 0x66, 0x77, 0x88}
	for n := 1; n <= 8; n++ {
		var o num.Out
		o.Put(n, sample)
		if b := o.Bytes(); !bytes.Equal(b, low[:n]) {
			t.Errorf("P101: Put(%d): %x, not %x", n, b, low[:n])
		}
	}
}

func TestPutOfNoWidthPutsNothing(t *testing.T) {
	for _, n := range []int{0, 9, -1, 16, 64, 256, 257, math.MinInt, math.MaxInt, math.MinInt32, 1 << 32, 1<<32 + 1} {
		var o num.Out
		o.Put(n, sample)
		if b := o.Bytes(); len(b) != 0 {
			t.Errorf("P101: Put(%d) of nothing: %x", n, b)
		}
		o.Put(1, 5)
		o.Put(n, sample)
		o.Put(1, 6)
		if b := o.Bytes(); !bytes.Equal(b, []byte{5, 6}) {
			t.Errorf("P101: Put(%d) between others: %x", n, b)
		}
	}
}

func TestOutKeepsOrder(t *testing.T) {
	var o num.Out
	o.Raw(nil)
	o.Put(2, 0xABCD)
	o.Raw([]byte{1, 2, 3})
	o.Raw([]byte{})
	o.Put(1, 0xFFFFFFFFFFFFFF00)
	o.Put(4, 0)
	o.Raw([]byte{0xFF})
	want := []byte{0xCD, 0xAB, 1, 2, 3, 0, 0, 0, 0, 0, 0xFF}
	if b := o.Bytes(); !bytes.Equal(b, want) {
		t.Errorf("P101: %x, not %x", b, want)
	}
	if b := o.Bytes(); !bytes.Equal(b, want) {
		t.Errorf("P101: asked again: %x, not %x", b, want)
	}
}

func TestTakeBack(t *testing.T) {
	values := []uint64{0, 1, 0x7F, 0x80, 0xFF, 0x100, 0x7FFF, 0x8000, 0xFFFFFFFF, 1 << 32, 1 << 63, sample, math.MaxUint64 - 1, math.MaxUint64}
	for n := 1; n <= 8; n++ {
		var o num.Out
		for _, v := range values {
			o.Put(n, v)
		}
		i := num.Of(o.Bytes())
		for k, v := range values {
			want := v << (64 - 8*n) >> (64 - 8*n)
			if got := i.Take(n); got != want {
				t.Errorf("P101: Take(%d) of %x: %x, not %x", n, v, got, want)
			}
			if left := (len(values) - k - 1) * n; i.Left() != left || i.Err() != api.OK {
				t.Errorf("P101: Take(%d): %d left, not %d; %v", n, i.Left(), left, i.Err())
			}
		}
	}
}

func TestRawBack(t *testing.T) {
	i := num.Of([]byte{1, 2, 3, 4, 5, 6})
	for _, c := range []struct {
		n    int
		want []byte
		left int
	}{{0, nil, 6}, {1, []byte{1}, 5}, {3, []byte{2, 3, 4}, 2}, {2, []byte{5, 6}, 0}, {0, nil, 0}} {
		if b := i.Raw(c.n); !bytes.Equal(b, c.want) || i.Left() != c.left || i.Err() != api.OK {
			t.Errorf("P101: Raw(%d): %x, %d left, %v", c.n, b, i.Left(), i.Err())
		}
	}
}

func TestOfNothing(t *testing.T) {
	for _, b := range [][]byte{nil, {}} {
		i := num.Of(b)
		if r := i.Raw(0); i.Left() != 0 || len(r) != 0 || i.Err() != api.OK {
			t.Errorf("P101: of nothing: %d left, %x, %v", i.Left(), r, i.Err())
		}
		if v := i.Take(1); v != 0 || i.Err() != api.ErrShort {
			t.Errorf("P101: Take(1) of nothing: %x, %v", v, i.Err())
		}
	}
}

// fault: a call that must answer zero, and the error that it leaves.
type fault struct {
	raw  bool
	n    int
	want api.Errno
}

func (f fault) call(i *num.In) (uint64, []byte) {
	if f.raw {
		return 0, i.Raw(f.n)
	}
	return i.Take(f.n), nil
}

// faults: all that is wrong with three bytes left. Of a width that is none, and too great as well, ErrArg is told (P6).
var faults = []fault{
	{false, 0, api.ErrArg},
	{false, 9, api.ErrArg},
	{false, -1, api.ErrArg},
	{false, math.MinInt, api.ErrArg},
	{false, math.MaxInt, api.ErrArg},
	{false, 1<<32 + 1, api.ErrArg},
	{false, 4, api.ErrShort},
	{false, 8, api.ErrShort},
	{true, -1, api.ErrArg},
	{true, math.MinInt, api.ErrArg},
	{true, 4, api.ErrShort},
	{true, 9, api.ErrShort},
	{true, 1 << 32, api.ErrShort},
	{true, math.MaxInt, api.ErrShort},
}

func TestFaults(t *testing.T) {
	for _, f := range faults {
		i := num.Of([]byte{7, 1, 2, 3})
		if v := i.Take(1); v != 7 || i.Err() != api.OK {
			t.Fatalf("P101: Take(1): %x, %v", v, i.Err())
		}
		if v, b := f.call(i); v != 0 || len(b) != 0 || i.Err() != f.want || i.Left() != 0 {
			t.Errorf("P101: %+v: %x, %x, %d left, %v", f, v, b, i.Left(), i.Err())
		}
	}
}

func TestFirstErrorStays(t *testing.T) {
	fine := []fault{{raw: false, n: 1}, {raw: true, n: 0}, {raw: true, n: 1}, {raw: true, n: 3}}
	for _, first := range faults {
		for _, then := range append(fine, faults...) {
			i := num.Of([]byte{1, 2, 3})
			first.call(i)
			if v, b := then.call(i); v != 0 || len(b) != 0 || i.Err() != first.want || i.Left() != 0 {
				t.Errorf("P101: %+v behind %+v: %x, %x, %d left, %v", then, first, v, b, i.Left(), i.Err())
			}
		}
	}
}

func TestJustEnough(t *testing.T) {
	for n := 1; n <= 8; n++ {
		full := bytes.Repeat([]byte{0xFF}, n)
		i := num.Of(full)
		if v := i.Take(n); v != math.MaxUint64>>(64-8*n) || i.Err() != api.OK {
			t.Errorf("P101: Take(%d) of as many: %x, %v", n, v, i.Err())
		}
		i = num.Of(full[1:])
		if v := i.Take(n); v != 0 || i.Err() != api.ErrShort || i.Left() != 0 {
			t.Errorf("P101: Take(%d) of one less: %x, %v", n, v, i.Err())
		}
		i = num.Of(full[1:])
		if b := i.Raw(n); len(b) != 0 || i.Err() != api.ErrShort || i.Left() != 0 {
			t.Errorf("P101: Raw(%d) of one less: %x, %v", n, b, i.Err())
		}
	}
}

// roomy answers a list with spare room behind it, and the whole of both.
func roomy() (list, whole []byte) {
	whole = []byte{1, 2, 3, 4, 5, 6, 7, 8}
	return whole[:3], whole
}

func TestOutLeavesWhatItIsGiven(t *testing.T) {
	b, whole := roomy()
	var o num.Out
	o.Raw(b)
	o.Put(4, sample)
	o.Raw([]byte{9, 9})
	if !bytes.Equal(whole, []byte{1, 2, 3, 4, 5, 6, 7, 8}) {
		t.Errorf("P2: Raw changed what it was given: %x", whole)
	}
	clear(whole)
	want := []byte{1, 2, 3, 0x11, 0x22, 0x33, 0x44, 9, 9}
	if got := o.Bytes(); !bytes.Equal(got, want) {
		t.Errorf("P2: Raw kept what it was given: %x", got)
	}
}

func TestInLeavesWhatItIsGiven(t *testing.T) {
	b, whole := roomy()
	i := num.Of(b)
	i.Take(1)
	i.Raw(1)
	if !bytes.Equal(whole, []byte{1, 2, 3, 4, 5, 6, 7, 8}) {
		t.Errorf("P2: an In changed what it was given: %x", whole)
	}
	clear(whole)
	if v := i.Take(1); v != 3 {
		t.Errorf("P2: Of kept what it was given: %x", v)
	}
}

// spoil writes over a list and all of its spare room.
func spoil(b []byte) {
	for k := range b[:cap(b)] {
		b[:cap(b)][k] = 0xEE
	}
}

func TestBytesIsNew(t *testing.T) {
	var o num.Out
	var want []byte
	for k := range 100 {
		o.Put(1, uint64(k))
		want = append(want, byte(k))
		first, second := o.Bytes(), o.Bytes()
		spoil(first)
		if !bytes.Equal(second, want) || !bytes.Equal(o.Bytes(), want) {
			t.Fatalf("P2: Bytes shares memory: %x", second)
		}
		o.Raw(nil)
		o.Put(2, 0)
		want = append(want, 0, 0)
		if !bytes.Equal(second, want[:len(want)-2]) {
			t.Fatalf("P2: a later Put changed an answer: %x", second)
		}
	}
}

func TestRawIsNew(t *testing.T) {
	i := num.Of([]byte{1, 2, 3, 4, 5, 6})
	none, first, second := i.Raw(0), i.Raw(2), i.Raw(2)
	spoil(none)
	spoil(first)
	if !bytes.Equal(second, []byte{3, 4}) {
		t.Errorf("P2: two answers share memory: %x", second)
	}
	spoil(second)
	if v := i.Take(2); v != 0x0605 {
		t.Errorf("P2: an answer shares the In's memory: %x", v)
	}
}

func TestInsStandAlone(t *testing.T) {
	b := []byte{1, 2, 3}
	i, j := num.Of(b), num.Of(b)
	i.Take(9)
	if v := j.Take(3); v != 0x030201 || j.Err() != api.OK || i.Err() != api.ErrArg {
		t.Errorf("P7: %x, %v, %v", v, j.Err(), i.Err())
	}
	var o, p num.Out
	o.Put(1, 1)
	p.Put(1, 2)
	if !bytes.Equal(o.Bytes(), []byte{1}) || !bytes.Equal(p.Bytes(), []byte{2}) {
		t.Errorf("P7: %x, %x", o.Bytes(), p.Bytes())
	}
}

// day takes n by n from b and tells all that was answered.
func day(b []byte, ns []int) []uint64 {
	i := num.Of(b)
	var told []uint64
	for _, n := range ns {
		told = append(told, i.Take(n), uint64(len(i.Raw(n-2))), uint64(i.Left()), uint64(i.Err()))
	}
	return told
}

func TestSameCallsSameAnswers(t *testing.T) {
	b := bytes.Repeat([]byte{3, 0, 0xFF, 8}, 20)
	for _, ns := range [][]int{{2, 3, 8, 4}, {8, 8, 8, 8, 8, 8, 8}, {2, 1, 2}, {5, 0, 5}} {
		if x, y := day(b, ns), day(b, ns); !slices.Equal(x, y) {
			t.Errorf("P3: %v: %v, %v", ns, x, y)
		}
	}
}
