package inode_test

import (
	"bytes"
	"encoding/binary"
	"encoding/hex"
	"fmt"
	"math"
	"math/bits"
	"strings"
	"testing"

	"loggia/api"
	"loggia/inode"
)

// count: how many numbers an inode has.
const count = 14

// most: the largest number that each may be, in their order.
var most = [count]uint32{math.MaxUint32, math.MaxUint32, 1 << 30, 1000, 65535, 65535, 65535, 65535, 65535, 65535, 65535, 65535, 65535, 65535}

// place: where each number's bytes begin.
var place = [count]int{0, 4, 8, 12, 16, 20, 24, 28, 32, 36, 40, 44, 48, 52}

// names: what each number is called.
var names = [count]string{"Mode", "Vers", "Size", "Links", "Direct[0]", "Direct[1]", "Direct[2]", "Direct[3]", "Direct[4]", "Direct[5]", "Direct[6]", "Direct[7]", "Single", "Double"}

// links: which number is the links, which have two bytes; the others have four.
const links = 3

// width: how many bytes a number has.
func width(k int) int {
	if k == links {
		return 2
	}
	return 4
}

// largest: the largest number that the bytes of one hold.
func largest(k int) uint32 { return uint32(1<<(8*width(k)) - 1) }

// of is the inode of these numbers.
func of(n [count]uint32) inode.Inode {
	return inode.Inode{
		Mode: n[0], Vers: n[1], Size: n[2], Links: uint16(n[3]),
		Direct: [8]uint32{n[4], n[5], n[6], n[7], n[8], n[9], n[10], n[11]},
		Single: n[12], Double: n[13],
	}
}

// ordinary: numbers that all may be, each of them another one.
func ordinary() [count]uint32 {
	return [count]uint32{0x81A4F00D, 0xC0FFEE02, 0x12345678, 0x0302, 0xA10B, 0xA20C, 0xA30D, 0xA40E, 0xA50F, 0xA610, 0xA711, 0xA812, 0xB113, 0xB214}
}

// allowed tells whether each number may be.
func allowed(n [count]uint32) bool {
	for k := range n {
		if n[k] > most[k] {
			return false
		}
	}
	return true
}

// written: these numbers in bytes, the plain way, whatever they are.
func written(n [count]uint32) []byte {
	b := make([]byte, 64)
	for k, v := range n {
		if k == links {
			binary.LittleEndian.PutUint16(b[place[k]:], uint16(v))
			continue
		}
		binary.LittleEndian.PutUint32(b[place[k]:], v)
	}
	return b
}

// told: the inode that b tells, read the plain way, and whether it is one.
func told(b []byte) (inode.Inode, bool) {
	if len(b) != 64 || b[14] != 0 || b[15] != 0 || !bytes.Equal(b[56:], make([]byte, 8)) {
		return inode.Inode{}, false
	}
	var n [count]uint32
	for k := range n {
		n[k] = binary.LittleEndian.Uint32(b[place[k]:])
	}
	if !allowed(n) { // the two of 0 behind the links leave them as they are
		return inode.Inode{}, false
	}
	return of(n), true
}

// kept asks that these numbers, which may all be, be in their bytes and back.
func kept(t testing.TB, n [count]uint32) {
	t.Helper()
	i := of(n)
	if e := inode.Check(i); e != api.OK {
		t.Errorf("P1101: Check(%+v): %v", i, e)
	}
	b, e := inode.Encode(i)
	if !bytes.Equal(b, written(n)) || e != api.OK {
		t.Errorf("P1101: Encode(%+v): %x, %v", i, b, e)
	}
	if x, e := inode.Decode(written(n)); x != i || e != api.OK {
		t.Errorf("P1101: Decode of %+v: %+v, %v", i, x, e)
	}
}

// refused asks that these numbers, of which one may not be, be refused, in their bytes too.
func refused(t testing.TB, n [count]uint32) {
	t.Helper()
	i := of(n)
	if e := inode.Check(i); e != api.ErrArg {
		t.Errorf("P1101: Check(%+v): %v", i, e)
	}
	if b, e := inode.Encode(i); len(b) != 0 || e != api.ErrArg {
		t.Errorf("P1101: Encode(%+v): %x, %v", i, b, e)
	}
	none(t, fmt.Sprintf("%+v", i), written(n))
}

// asked asks for these numbers as they may be or not.
func asked(t testing.TB, n [count]uint32) {
	t.Helper()
	if allowed(n) {
		kept(t, n)
		return
	}
	refused(t, n)
}

// none asks that b be no inode's.
func none(t testing.TB, what string, b []byte) {
	t.Helper()
	if i, e := inode.Decode(b); i != (inode.Inode{}) || e != api.ErrForm {
		t.Errorf("P1101: Decode of %s: %+v, %v", what, i, e)
	}
}

// decoded asks that Decode tell b as the plain way does, and tells whether it is an inode's.
func decoded(t testing.TB, b []byte) bool {
	t.Helper()
	want, is := told(b)
	wantError := api.OK
	if !is {
		wantError = api.ErrForm
	}
	if i, e := inode.Decode(b); i != want || e != wantError {
		t.Errorf("P1101: Decode of %x: %+v, %v, not %+v, %v", b, i, e, want, wantError)
	}
	return is
}

// unhex: the bytes that a text tells, blanks left out, and zeros up to 64.
func unhex(t testing.TB, s string) []byte {
	t.Helper()
	b, err := hex.DecodeString(strings.ReplaceAll(s, " ", ""))
	if err != nil {
		t.Fatal(err)
	}
	return append(b, make([]byte, 64-len(b))...)
}

func TestWrittenOut(t *testing.T) {
	for _, c := range []struct {
		i    inode.Inode
		want string
	}{
		{inode.Inode{}, ""},
		{inode.Inode{Mode: 1}, "01"},
		{inode.Inode{Mode: 0x800001ED, Vers: 7, Size: 4096, Links: 2, Direct: [8]uint32{300}}, "ed010080 07000000 00100000 0200 0000 2c010000"},
		{inode.Inode{Mode: math.MaxUint32}, "ffffffff"},
		{inode.Inode{Vers: math.MaxUint32}, "00000000 ffffffff"},
		{inode.Inode{Vers: 0x0A0B0C0D}, "00000000 0d0c0b0a"},
		{inode.Inode{Size: 1 << 30}, "00000000 00000000 00000040"},
		{inode.Inode{Size: 1<<30 - 1}, "00000000 00000000 ffffff3f"},
		{inode.Inode{Links: 1000}, "00000000 00000000 00000000 e803 0000"},
		{inode.Inode{Links: 1}, "00000000 00000000 00000000 0100 0000"},
		{inode.Inode{Direct: [8]uint32{0x0102, 0x0203, 0x0304, 0x0405, 0x0506, 0x0607, 0x0708, 0xFFFF}}, "00000000 00000000 00000000 0000 0000 02010000 03020000 04030000 05040000 06050000 07060000 08070000 ffff0000"},
		{inode.Inode{Single: 0x1234}, strings.Repeat("00", 48) + "34120000"},
		{inode.Inode{Double: 0x4321}, strings.Repeat("00", 52) + "21430000"},
		{inode.Inode{Single: 65535, Double: 65535}, strings.Repeat("00", 48) + "ffff0000 ffff0000"},
		{inode.Inode{Mode: 0x01020304, Vers: 0x05060708, Size: 0x090A0B0C, Links: 0x0304, Direct: [8]uint32{1, 2, 3, 4, 5, 6, 7, 8}, Single: 9, Double: 10}, "04030201 08070605 0c0b0a09 0403 0000 01000000 02000000 03000000 04000000 05000000 06000000 07000000 08000000 09000000 0a000000"},
	} {
		want := unhex(t, c.want)
		if e := inode.Check(c.i); e != api.OK {
			t.Errorf("P1101: Check(%+v): %v", c.i, e)
		}
		if b, e := inode.Encode(c.i); !bytes.Equal(b, want) || e != api.OK {
			t.Errorf("P1101: Encode(%+v): %x, %v", c.i, b, e)
		}
		if i, e := inode.Decode(want); i != c.i || e != api.OK {
			t.Errorf("P1101: Decode of %x: %+v, %v", want, i, e)
		}
		if i, is := told(want); i != c.i || !is {
			t.Errorf("the plain way tells %x as %+v, %v", want, i, is)
		}
	}
}

// edges: what each number is tried as.
func edges(k int) []uint32 {
	l := []uint32{0, 1, 2, 127, 128, 255, 256, 257, 999, 1000, 1001, 1002, 4096, 32767, 32768, 65534, 65535}
	if width(k) == 4 {
		l = append(l, 65536, 65537, 65536+1000, 1<<17, 1<<24, 1<<24+1, 1<<29, 1<<30-2, 1<<30-1, 1<<30, 1<<30+1, 1<<30+2, 1<<31-1, 1<<31, 1<<31+1, 1<<32-65536, 1<<32-1000, 1<<32-2, 1<<32-1)
	}
	return append(l, most[k]-1, most[k])
}

// Each number at each edge, beside zeros, beside ordinary numbers and beside the largest.
func TestEachNumberAtItsEdges(t *testing.T) {
	for k := range count {
		for _, n := range [][count]uint32{{}, ordinary(), most} {
			for _, v := range edges(k) {
				n[k] = v
				asked(t, n)
			}
		}
	}
}

func TestEdgesWrittenOut(t *testing.T) {
	blocks := map[uint32]api.Errno{0: api.OK, 65534: api.OK, 65535: api.OK, 65536: api.ErrArg, 1 << 31: api.ErrArg, math.MaxUint32: api.ErrArg}
	for v, want := range map[uint32]api.Errno{0: api.OK, 1<<30 - 1: api.OK, 1 << 30: api.OK, 1<<30 + 1: api.ErrArg, 1 << 31: api.ErrArg, math.MaxUint32: api.ErrArg} {
		if e := inode.Check(inode.Inode{Size: v}); e != want {
			t.Errorf("P1101: Size %d: %v", v, e)
		}
	}
	for v, want := range map[uint16]api.Errno{0: api.OK, 999: api.OK, 1000: api.OK, 1001: api.ErrArg, 1024: api.ErrArg, math.MaxUint16: api.ErrArg} {
		if e := inode.Check(inode.Inode{Links: v}); e != want {
			t.Errorf("P1101: Links %d: %v", v, e)
		}
	}
	for v, want := range blocks {
		for k := range 8 {
			var i inode.Inode
			i.Direct[k] = v
			if e := inode.Check(i); e != want {
				t.Errorf("P1101: Direct[%d] %d: %v", k, v, e)
			}
		}
		if e := inode.Check(inode.Inode{Single: v}); e != want {
			t.Errorf("P1101: Single %d: %v", v, e)
		}
		if e := inode.Check(inode.Inode{Double: v}); e != want {
			t.Errorf("P1101: Double %d: %v", v, e)
		}
	}
	for _, v := range []uint32{0, 1, 1 << 31, math.MaxUint32} {
		if e := inode.Check(inode.Inode{Mode: v, Vers: ^v}); e != api.OK {
			t.Errorf("P1101: Mode %d, Vers %d: %v", v, ^v, e)
		}
	}
	if e := inode.Check(of(most)); e != api.OK {
		t.Errorf("P1101: the largest numbers: %v", e)
	}
}

func TestEachNumberOfLinks(t *testing.T) {
	n := ordinary()
	for v := range uint32(1 << 16) {
		n[links] = v
		want := api.OK
		if v > 1000 {
			want = api.ErrArg
		}
		if e := inode.Check(of(n)); e != want {
			t.Fatalf("P1101: Links %d: %v", v, e)
		}
	}
}

func TestEachBlockNumber(t *testing.T) {
	for k := 4; k < count; k++ {
		n := ordinary()
		for v := range uint32(1<<16 + 1000) {
			n[k] = v
			if e := inode.Check(of(n)); (e == api.OK) != (v <= 65535) || e != api.OK && e != api.ErrArg {
				t.Fatalf("P1101: %s %d: %v", names[k], v, e)
			}
		}
	}
}

// Each bit of each number lies where the plain way has it, and nowhere else.
func TestEachBit(t *testing.T) {
	for k := range count {
		for bit := range 8 * width(k) {
			for _, n := range [][count]uint32{{}, ordinary()} {
				n[k] ^= 1 << bit
				asked(t, n)
			}
		}
	}
}

// Two numbers at their edges at once, so that one that may be hides none that may not.
func TestTwoNumbersAtOnce(t *testing.T) {
	for k := range count {
		for j := range k {
			for _, v := range []uint32{0, 1, most[k], most[k] + 1, largest(k)} {
				for _, w := range []uint32{0, 1, most[j], most[j] + 1, largest(j)} {
					n := ordinary()
					n[k], n[j] = v, w
					asked(t, n)
				}
			}
		}
	}
}

func TestAllWrongAtOnce(t *testing.T) {
	n := [count]uint32{}
	for k := range n {
		n[k] = largest(k)
	}
	refused(t, n)
	none(t, "all ones", bytes.Repeat([]byte{0xFF}, 64))
}

// A number that may not be is none's in its bytes either: none comes back as a smaller one.
func TestDecodeOfWrongNumbers(t *testing.T) {
	for k := range count {
		if most[k] == largest(k) {
			continue
		}
		for _, v := range []uint32{most[k] + 1, most[k] + 2, 2*most[k] + 1, largest(k)/2 + 1, largest(k) - 1, largest(k)} {
			n := [count]uint32{}
			n[k] = v
			none(t, fmt.Sprintf("%s %d", names[k], v), written(n))
		}
	}
}

// Bytes that are too few or too many, or none.
func TestDecodeOfOtherLengths(t *testing.T) {
	none(t, "nil", nil)
	none(t, "no bytes", []byte{})
	for _, n := range [][count]uint32{{}, ordinary(), most, {1}} {
		b := written(n)
		long := append(bytes.Clone(b), make([]byte, 300)...)
		for l := range long {
			if l != 64 {
				none(t, fmt.Sprintf("%d bytes", l), long[:l])
			}
		}
		none(t, "two inodes", append(bytes.Clone(b), b...))
		none(t, "a byte behind", append(bytes.Clone(b), 1))
		none(t, "many behind", append(bytes.Clone(b), make([]byte, 1<<16)...))
	}
	none(t, "one that is a byte too late", append([]byte{1}, written(ordinary())[:63]...))
	none(t, "one that is a byte too early", append(written(ordinary())[1:], 1))
}

// Each byte is turned into each other one: in a number it is another's, if there is one; in the two behind the links and in the rest it is none's.
func TestDecodeOfEachByte(t *testing.T) {
	for _, n := range [][count]uint32{{}, ordinary(), most, {9, 9, 9, 9, 9, 9, 9, 9, 9, 9, 9, 9, 9, 9}} {
		b := written(n)
		for k := range b {
			old := b[k]
			for v := range 256 {
				b[k] = byte(v)
				if is := decoded(t, b); (k == 14 || k == 15 || k >= 56) && is != (b[k] == old) {
					t.Fatalf("the plain way tells %x with byte %d as %d", written(n), k, v)
				}
			}
			b[k] = old
		}
	}
}

// The bytes that are always 0, each of them and two of them at once.
func TestDecodeOfWhatIsNotZero(t *testing.T) {
	zeros := []int{14, 15, 56, 57, 58, 59, 60, 61, 62, 63}
	b := written(ordinary())
	for _, k := range zeros {
		for _, j := range zeros {
			for _, v := range []byte{1, 0x10, 0x80, 0xFF} {
				b[k], b[j] = v, v
				none(t, fmt.Sprintf("bytes %d and %d as %d", k, j, v), b)
				b[k], b[j] = 1, 0xFF
				none(t, fmt.Sprintf("bytes %d and %d as 1 and 255", k, j), b)
				b[k], b[j] = 0, 0
			}
		}
	}
	if i, e := inode.Decode(b); i != of(ordinary()) || e != api.OK {
		t.Errorf("P1101: turned back: %+v, %v", i, e)
	}
}

func TestBlocksWrittenOut(t *testing.T) {
	for _, c := range []struct {
		size  uint32
		block int
		want  int
	}{
		{0, 64, 0}, {0, 65, 0}, {0, 1024, 0},
		{1, 64, 1}, {63, 64, 1}, {64, 64, 1}, {65, 64, 2}, {127, 64, 2}, {128, 64, 2}, {129, 64, 3},
		{1, 1024, 1}, {1023, 1024, 1}, {1024, 1024, 1}, {1025, 1024, 2}, {2048, 1024, 2}, {2049, 1024, 3},
		{64, 65, 1}, {65, 65, 1}, {66, 65, 2}, {999, 100, 10}, {1000, 100, 10}, {1001, 100, 11},
		{1022, 1023, 1}, {1023, 1023, 1}, {1024, 1023, 2},
		{4096, 64, 64}, {4096, 128, 32}, {4096, 256, 16}, {4096, 512, 8}, {4096, 1024, 4}, {4097, 1024, 5},
		{1 << 30, 64, 1 << 24}, {1<<30 - 1, 64, 1 << 24}, {1<<30 + 1, 64, 1<<24 + 1}, {1 << 30, 1024, 1 << 20},
		{1 << 31, 64, 1 << 25}, {1<<31 - 1, 64, 1 << 25}, {1<<31 + 1, 64, 1<<25 + 1},
		{math.MaxUint32, 64, 1 << 26}, {math.MaxUint32 - 63, 64, 1<<26 - 1}, {math.MaxUint32 - 62, 64, 1 << 26},
		{math.MaxUint32, 1024, 1 << 22}, {math.MaxUint32, 1000, 4294968}, {math.MaxUint32, 65, 66076420}, {math.MaxUint32, 255, 16843009},
	} {
		if n := inode.Blocks(c.size, c.block); n != c.want {
			t.Errorf("P1101: Blocks(%d, %d): %d, not %d", c.size, c.block, n, c.want)
		}
	}
}

func TestBlocksOfWrongBlocks(t *testing.T) {
	for _, block := range []int{63, 62, 32, 2, 1, 0, -1, -63, -64, -65, -100, -1024, 1025, 1026, 2048, 4096, 65536, 65536 + 64, 1 << 24, 1 << 30, math.MaxInt32, math.MinInt32, math.MaxInt, math.MaxInt - 1, math.MinInt, math.MinInt + 1, math.MinInt + 64, math.MinInt + 1024} {
		for _, size := range []uint32{0, 1, 63, 64, 65, 99, 1024, 1025, 1 << 30, 1 << 31, math.MaxUint32 - 1, math.MaxUint32} {
			if n := inode.Blocks(size, block); n != 0 {
				t.Errorf("P1101: Blocks(%d, %d): %d", size, block, n)
			}
		}
	}
	for bit := 11; bit < bits.UintSize; bit++ {
		if n := inode.Blocks(100, 1<<bit|128); n != 0 {
			t.Errorf("P1101: Blocks(100, %d): %d", 1<<bit|128, n)
		}
	}
	for block := -3000; block < 5000; block++ {
		if n := inode.Blocks(1<<20+1, block); (n > 0) != (block >= 64 && block <= 1024) {
			t.Errorf("P1101: Blocks(%d, %d): %d", 1<<20+1, block, n)
		}
	}
}

// Of each size of a block: the sizes that fill their last block, one less and one more, the small ones and the largest.
func TestBlocksOfEachBlock(t *testing.T) {
	for block := 64; block <= 1024; block++ {
		each := uint32(block)
		most := int(math.MaxUint32 / each)
		for _, full := range []int{1, 2, 3, 7, 8, 9, 63, 64, 65, 1000, 1 << 20 / block, 1 << 30 / block, int(1 << 31 / each), most - 1, most} {
			size := uint32(full) * each
			if n := inode.Blocks(size, block); n != full {
				t.Fatalf("P1101: Blocks(%d, %d): %d, not %d", size, block, n, full)
			}
			if n := inode.Blocks(size-1, block); n != full {
				t.Fatalf("P1101: Blocks(%d, %d): %d, not %d", size-1, block, n, full)
			}
			if full == most && size == math.MaxUint32 {
				continue
			}
			if n := inode.Blocks(size+1, block); n != full+1 {
				t.Fatalf("P1101: Blocks(%d, %d): %d, not %d", size+1, block, n, full+1)
			}
		}
		// One by one, as blocks are filled.
		want, left := 0, 0
		for size := range uint32(5000) {
			if n := inode.Blocks(size, block); n != want {
				t.Fatalf("P1101: Blocks(%d, %d): %d, not %d", size, block, n, want)
			}
			if left == 0 {
				want, left = want+1, block
			}
			left--
		}
	}
}

// room: b with spare room behind it, and the whole of both.
func room(b []byte) (list, whole []byte) {
	whole = append(bytes.Clone(b), bytes.Repeat([]byte{0xEE}, 100)...)
	return whole[:len(b)], whole
}

// spoil changes all of b, its spare room too.
func spoil(b []byte) {
	for k := range b[:cap(b)] {
		b[:cap(b)][k] ^= 0xA5
	}
}

func TestDecodeChangesNothing(t *testing.T) {
	wrong := ordinary()
	wrong[links] = 1001
	for _, b := range [][]byte{written(ordinary()), written(most), written([count]uint32{}), written(wrong), written(ordinary())[:40], {}, bytes.Repeat([]byte{7}, 64), bytes.Repeat([]byte{0}, 65)} {
		list, whole := room(b)
		old := bytes.Clone(whole)
		i, e := inode.Decode(list)
		if !bytes.Equal(whole, old) {
			t.Errorf("P2: Decode changed %x to %x", old, whole)
		}
		spoil(list)
		if want, is := told(b); i != want || (e == api.OK) != is {
			t.Errorf("P2: Decode of %x, spoilt later: %+v, %v", b, i, e)
		}
	}
}

// What is behind a list, in its spare room, is not read.
func TestDecodeOfAPiece(t *testing.T) {
	b := written(ordinary())
	for n := range b {
		none(t, fmt.Sprintf("the first %d bytes", n), b[:n])
	}
	list, _ := room(b)
	if i, e := inode.Decode(list); i != of(ordinary()) || e != api.OK {
		t.Errorf("P1101: Decode of a piece: %+v, %v", i, e)
	}
}

func TestEncodeAnswersNewMemory(t *testing.T) {
	for _, n := range [][count]uint32{{}, ordinary(), most} {
		i := of(n)
		a, _ := inode.Encode(i)
		b, _ := inode.Encode(i)
		spoil(a)
		if !bytes.Equal(b, written(n)) {
			t.Errorf("P2: two answers for %+v share memory", i)
		}
		if c, e := inode.Encode(i); !bytes.Equal(c, written(n)) || e != api.OK {
			t.Errorf("P2: Encode(%+v), its answer spoilt: %x, %v", i, c, e)
		}
		if x, e := inode.Decode(b); x != i || e != api.OK {
			t.Errorf("P2: Decode of %+v, an answer spoilt: %+v, %v", i, x, e)
		}
		spoil(b)
		if i != of(n) {
			t.Errorf("P2: an answer's change turned %+v into %+v", of(n), i)
		}
	}
}

func TestAnInodeIsAValue(t *testing.T) {
	i, _ := inode.Decode(written(ordinary()))
	j := i
	j.Direct[3], j.Size = 1, 2
	if x, e := inode.Decode(written(ordinary())); x != i || x != of(ordinary()) || e != api.OK {
		t.Errorf("P2: %+v, %v", x, e)
	}
}

// dice: the same numbers at each run.
type dice uint64

func (d *dice) below(n int) int {
	*d = *d*6364136223846793005 + 1442695040888963407
	return int(uint64(*d)>>33) % n
}

// throw: numbers that may be, and now and then one that may not.
func (d *dice) throw() [count]uint32 {
	var n [count]uint32
	for k := range n {
		n[k] = uint32(uint64(d.below(1<<30)) * (uint64(most[k]) + 1) >> 30)
		if d.below(8) == 0 {
			l := edges(k)
			n[k] = min(l[d.below(len(l))], most[k])
		}
	}
	if d.below(3) == 0 {
		k := d.below(count)
		n[k] = uint32(d.below(1<<16))<<16 | uint32(d.below(1<<16))
		n[k] &= largest(k)
	}
	return n
}

func TestAgainstThePlainWay(t *testing.T) {
	d := dice(11)
	kinds := map[bool]int{}
	for range 60000 {
		n := d.throw()
		asked(t, n)
		kinds[allowed(n)]++
	}
	if kinds[true] < 10000 || kinds[false] < 5000 {
		t.Errorf("thrown %v", kinds)
	}
}

// Bytes that are almost an inode's are told as the plain way tells them.
func TestDecodeOfAnyBytes(t *testing.T) {
	d := dice(12)
	kinds := map[bool]int{}
	for range 60000 {
		b := written(d.throw())
		for range d.below(3) {
			switch d.below(8) {
			case 0:
				b = b[:d.below(len(b)+1)]
			case 1:
				b = append(b, make([]byte, d.below(80))...)
			case 2:
				b = bytes.Repeat([]byte{byte(d.below(3))}, 62+d.below(5))
			case 3, 4:
				if len(b) > 0 {
					b[d.below(len(b))] ^= 1 << d.below(8)
				}
			default:
				if len(b) > 0 {
					b[d.below(len(b))] = byte(d.below(256))
				}
			}
		}
		kinds[decoded(t, b)]++
	}
	if kinds[true] < 10000 || kinds[false] < 10000 {
		t.Errorf("thrown %v", kinds)
	}
}

func TestTheSameCallsAnswerTheSame(t *testing.T) {
	rows := [2]strings.Builder{}
	for k := range rows {
		d := dice(13)
		for range 3000 {
			n := d.throw()
			b, e := inode.Encode(of(n))
			i, f := inode.Decode(written(n))
			fmt.Fprintln(&rows[k], inode.Check(of(n)), b, e, i, f, inode.Blocks(n[2], d.below(1100)))
		}
	}
	if rows[0].String() != rows[1].String() {
		t.Error("P3: the same calls answer otherwise")
	}
}

// Many bytes that are none's are refused in good time.
func TestMuchEnds(t *testing.T) {
	b := append(written(ordinary()), make([]byte, 1<<24)...)
	none(t, "many bytes", b)
	for k := range 16 {
		none(t, "many bytes", b[k:])
	}
}
