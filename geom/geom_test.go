package geom_test

import (
	"bytes"
	"encoding/binary"
	"encoding/hex"
	"fmt"
	"math"
	"slices"
	"strings"
	"testing"

	"loggia/api"
	"loggia/geom"
)

// sizes: what a block's bytes may be.
var sizes = []int{64, 128, 256, 512, 1024}

// wrongSizes: what they may not be.
var wrongSizes = []int{0, -1, -2, -63, -64, -65, -128, -1024, 1, 2, 8, 16, 32, 63, 65, 96, 127, 129, 192, 255, 257, 320, 384, 511, 513, 768, 960, 1000, 1023, 1025, 1088, 2048, 4096, 8192, 65536, 65600, 1 << 30, math.MaxInt, math.MinInt, math.MaxInt - 63, math.MinInt + 64}

// wrongBlocks: what the number of blocks may not be.
var wrongBlocks = []int{7, 6, 1, 0, -1, -7, -8, -9, -65536, 65537, 65538, 65544, 65536 + 4096, 131072, 1 << 30, math.MaxInt, math.MinInt, math.MaxInt - 7, math.MinInt + 8}

// wrongInodes: what the number of inodes may not be.
var wrongInodes = []int{0, -1, -2, -4096, 4097, 4098, 8192, 65536, 65537, 1 << 26, 1 << 30, math.MaxInt, math.MinInt, math.MaxInt - 1, math.MinInt + 1}

// blocks: numbers of blocks: few, many, those whose bitmap fills its last block, one less and one more.
var blocks = []int{8, 9, 10, 11, 12, 15, 16, 63, 64, 65, 100, 511, 512, 513, 514, 999, 1023, 1024, 1025, 1535, 1536, 1537, 2047, 2048, 2049, 4095, 4096, 4097, 5000, 8191, 8192, 8193, 16383, 16384, 16385, 32767, 32768, 32769, 65023, 65024, 65025, 65535, 65536}

// inodes: numbers of inodes: few, many, those whose bitmap or whose own part fills its last block, one less and one more.
var inodes = []int{1, 2, 3, 4, 5, 7, 8, 9, 15, 16, 17, 31, 32, 33, 100, 511, 512, 513, 1023, 1024, 1025, 1535, 1536, 1537, 2047, 2048, 2049, 3583, 3584, 3585, 4000, 4095, 4096}

// plain is a disk laid out the plain way, one thing behind the other.
type plain struct {
	parts [4]geom.Place
	data  int
	error api.Errno
}

// lay lays out a disk of what ErrArg does not refuse.
func lay(g geom.Geom) plain {
	var p plain
	next := 0
	for k, room := range [4]int{1, g.Blocks, g.Inodes, 64 * g.Inodes} {
		block := [4]int{1, 8 * g.Block, 8 * g.Block, g.Block}[k]
		p.parts[k].At = next
		for room > 0 {
			room -= block
			p.parts[k].N++
			next++
		}
	}
	p.data = g.Blocks - next
	if p.data <= 0 {
		p.error = api.ErrFull
	}
	return p
}

// written is a geometry's superblock, written the plain way, whatever its numbers are.
func written(size int, numbers ...uint32) []byte {
	b := []byte{'L', 'O', 'G', 'G', 'I', 'A', 1, 0}
	for _, n := range numbers {
		b = binary.LittleEndian.AppendUint32(b, n)
	}
	return append(b, make([]byte, size-len(b))...)
}

// super: g's superblock.
func super(g geom.Geom) []byte {
	return written(g.Block, uint32(g.Block), uint32(g.Blocks), uint32(g.Inodes))
}

// told: the geometry that b tells, read the plain way, and whether it is one.
func told(b []byte) (geom.Geom, bool) {
	if !slices.Contains(sizes, len(b)) || string(b[:8]) != "LOGGIA\x01\x00" || strings.Trim(string(b[20:]), "\x00") != "" {
		return geom.Geom{}, false
	}
	size, all, files := binary.LittleEndian.Uint32(b[8:]), binary.LittleEndian.Uint32(b[12:]), binary.LittleEndian.Uint32(b[16:])
	if uint64(size) != uint64(len(b)) || all < 8 || all > 65536 || files < 1 || files > 4096 {
		return geom.Geom{}, false
	}
	g := geom.Geom{Block: int(size), Blocks: int(all), Inodes: int(files)}
	if lay(g).error != api.OK {
		return geom.Geom{}, false
	}
	return g, true
}

// laid asks that all that is told of g be as laid the plain way.
func laid(t testing.TB, g geom.Geom) {
	t.Helper()
	p := lay(g)
	if e := geom.Check(g); e != p.error {
		t.Fatalf("P1001: Check(%+v): %v, not %v", g, e, p.error)
	}
	if l := geom.Parts(g); l != p.parts {
		t.Fatalf("P1001: Parts(%+v): %v, not %v", g, l, p.parts)
	}
	if n := geom.Data(g); n != p.data {
		t.Fatalf("P1001: Data(%+v): %d, not %d", g, n, p.data)
	}
}

// stored asks that g, in bytes and back, be as the plain way has it.
func stored(t testing.TB, g geom.Geom) {
	t.Helper()
	b, e := geom.Encode(g)
	if want := lay(g).error; want != api.OK {
		if e != want || len(b) != 0 {
			t.Fatalf("P1001: Encode(%+v): %x, %v, not %v", g, b, e, want)
		}
		return
	}
	if e != api.OK || !bytes.Equal(b, super(g)) {
		t.Fatalf("P1001: Encode(%+v): %x, %v", g, b, e)
	}
	if back, e := geom.Decode(b); back != g || e != api.OK {
		t.Fatalf("P1001: Decode of %+v: %+v, %v", g, back, e)
	}
}

// refused asks that g be refused with ErrArg.
func refused(t testing.TB, g geom.Geom) {
	t.Helper()
	if e := geom.Check(g); e != api.ErrArg {
		t.Errorf("P1001: Check(%+v): %v", g, e)
	}
	if b, e := geom.Encode(g); len(b) != 0 || e != api.ErrArg {
		t.Errorf("P1001: Encode(%+v): %x, %v", g, b, e)
	}
}

// none asks that b be no geometry's.
func none(t testing.TB, what string, b []byte) {
	t.Helper()
	if g, e := geom.Decode(b); g != (geom.Geom{}) || e != api.ErrForm {
		t.Errorf("P1001: Decode of %s: %+v, %v", what, g, e)
	}
}

// decoded asks that Decode tell b as the plain way does, and tells whether it is a geometry's.
func decoded(t testing.TB, b []byte) bool {
	t.Helper()
	want, is := told(b)
	wantError := api.OK
	if !is {
		wantError = api.ErrForm
	}
	if g, e := geom.Decode(b); g != want || e != wantError {
		t.Errorf("P1001: Decode of %x: %+v, %v, not %+v, %v", b, g, e, want, wantError)
	}
	return is
}

func TestWrittenOut(t *testing.T) {
	for _, c := range []struct {
		g     geom.Geom
		want  api.Errno
		parts [4]geom.Place
		data  int
	}{
		{geom.Geom{Block: 64, Blocks: 8, Inodes: 1}, api.OK, [4]geom.Place{{0, 1}, {1, 1}, {2, 1}, {3, 1}}, 4},
		{geom.Geom{Block: 64, Blocks: 8, Inodes: 4}, api.OK, [4]geom.Place{{0, 1}, {1, 1}, {2, 1}, {3, 4}}, 1},
		{geom.Geom{Block: 64, Blocks: 8, Inodes: 5}, api.ErrFull, [4]geom.Place{{0, 1}, {1, 1}, {2, 1}, {3, 5}}, 0},
		{geom.Geom{Block: 64, Blocks: 8, Inodes: 6}, api.ErrFull, [4]geom.Place{{0, 1}, {1, 1}, {2, 1}, {3, 6}}, -1},
		{geom.Geom{Block: 64, Blocks: 8, Inodes: 4096}, api.ErrFull, [4]geom.Place{{0, 1}, {1, 1}, {2, 8}, {10, 4096}}, -4098},
		{geom.Geom{Block: 64, Blocks: 512, Inodes: 508}, api.OK, [4]geom.Place{{0, 1}, {1, 1}, {2, 1}, {3, 508}}, 1},
		{geom.Geom{Block: 64, Blocks: 512, Inodes: 509}, api.ErrFull, [4]geom.Place{{0, 1}, {1, 1}, {2, 1}, {3, 509}}, 0},
		{geom.Geom{Block: 64, Blocks: 513, Inodes: 509}, api.ErrFull, [4]geom.Place{{0, 1}, {1, 2}, {3, 1}, {4, 509}}, 0},
		{geom.Geom{Block: 64, Blocks: 514, Inodes: 509}, api.OK, [4]geom.Place{{0, 1}, {1, 2}, {3, 1}, {4, 509}}, 1},
		{geom.Geom{Block: 64, Blocks: 65536, Inodes: 4096}, api.OK, [4]geom.Place{{0, 1}, {1, 128}, {129, 8}, {137, 4096}}, 61303},
		{geom.Geom{Block: 64, Blocks: 65025, Inodes: 513}, api.OK, [4]geom.Place{{0, 1}, {1, 128}, {129, 2}, {131, 513}}, 64381},
		{geom.Geom{Block: 128, Blocks: 8, Inodes: 8}, api.OK, [4]geom.Place{{0, 1}, {1, 1}, {2, 1}, {3, 4}}, 1},
		{geom.Geom{Block: 128, Blocks: 8, Inodes: 9}, api.ErrFull, [4]geom.Place{{0, 1}, {1, 1}, {2, 1}, {3, 5}}, 0},
		{geom.Geom{Block: 128, Blocks: 1025, Inodes: 1025}, api.OK, [4]geom.Place{{0, 1}, {1, 2}, {3, 2}, {5, 513}}, 507},
		{geom.Geom{Block: 256, Blocks: 2048, Inodes: 2049}, api.OK, [4]geom.Place{{0, 1}, {1, 1}, {2, 2}, {4, 513}}, 1531},
		{geom.Geom{Block: 512, Blocks: 4097, Inodes: 4096}, api.OK, [4]geom.Place{{0, 1}, {1, 2}, {3, 1}, {4, 512}}, 3581},
		{geom.Geom{Block: 1024, Blocks: 8, Inodes: 64}, api.OK, [4]geom.Place{{0, 1}, {1, 1}, {2, 1}, {3, 4}}, 1},
		{geom.Geom{Block: 1024, Blocks: 8, Inodes: 65}, api.ErrFull, [4]geom.Place{{0, 1}, {1, 1}, {2, 1}, {3, 5}}, 0},
		{geom.Geom{Block: 1024, Blocks: 65536, Inodes: 4096}, api.OK, [4]geom.Place{{0, 1}, {1, 8}, {9, 1}, {10, 256}}, 65270},
	} {
		if e := geom.Check(c.g); e != c.want {
			t.Errorf("P1001: Check(%+v): %v, not %v", c.g, e, c.want)
		}
		if p := geom.Parts(c.g); p != c.parts {
			t.Errorf("P1001: Parts(%+v): %v, not %v", c.g, p, c.parts)
		}
		if n := geom.Data(c.g); n != c.data {
			t.Errorf("P1001: Data(%+v): %d, not %d", c.g, n, c.data)
		}
		if p := (plain{c.parts, c.data, c.want}); lay(c.g) != p {
			t.Errorf("the plain way lays %+v out as %v", c.g, lay(c.g))
		}
	}
}

func TestEachSizeOfABlock(t *testing.T) {
	for _, size := range sizes {
		for _, n := range []int{8, 20000, 65536} {
			g := geom.Geom{Block: size, Blocks: n, Inodes: 4}
			if e := geom.Check(g); e != api.OK {
				t.Errorf("P1001: Check(%+v): %v", g, e)
			}
			laid(t, g)
			stored(t, g)
		}
	}
	for _, size := range wrongSizes {
		refused(t, geom.Geom{Block: size, Blocks: 20000, Inodes: 4})
	}
	for size := -3000; size <= 70000; size++ {
		if !slices.Contains(sizes, size) {
			refused(t, geom.Geom{Block: size, Blocks: 20000, Inodes: 4})
		}
	}
	// Each bit, and each bit turned of a size that may be.
	for bit := range 63 {
		for _, size := range append(slices.Clone(sizes), 0) {
			if x := size ^ 1<<bit; !slices.Contains(sizes, x) {
				refused(t, geom.Geom{Block: x, Blocks: 20000, Inodes: 4})
			}
		}
	}
}

func TestEachNumberOfBlocks(t *testing.T) {
	for _, size := range sizes {
		for n := 8; n <= 65536; n++ {
			laid(t, geom.Geom{Block: size, Blocks: n, Inodes: 1})
		}
		if e := geom.Check(geom.Geom{Block: size, Blocks: 8, Inodes: 1}); e != api.OK {
			t.Errorf("P1001: 8 blocks: %v", e)
		}
		if e := geom.Check(geom.Geom{Block: size, Blocks: 65536, Inodes: 1}); e != api.OK {
			t.Errorf("P1001: 65536 blocks: %v", e)
		}
		for _, n := range wrongBlocks {
			refused(t, geom.Geom{Block: size, Blocks: n, Inodes: 1})
			refused(t, geom.Geom{Block: size, Blocks: n, Inodes: 4096})
		}
	}
	for n := -100; n < 8; n++ {
		refused(t, geom.Geom{Block: 1024, Blocks: n, Inodes: 1})
	}
}

func TestEachNumberOfInodes(t *testing.T) {
	for _, size := range sizes {
		for n := 1; n <= 4096; n++ {
			g := geom.Geom{Block: size, Blocks: 65536, Inodes: n}
			laid(t, g)
			if e := geom.Check(g); e != api.OK {
				t.Fatalf("P1001: Check(%+v): %v", g, e)
			}
		}
		for _, n := range wrongInodes {
			refused(t, geom.Geom{Block: size, Blocks: 8, Inodes: n})
			refused(t, geom.Geom{Block: size, Blocks: 65536, Inodes: n})
		}
	}
}

func TestManyGeometries(t *testing.T) {
	for _, size := range sizes {
		for _, n := range blocks {
			for _, files := range inodes {
				g := geom.Geom{Block: size, Blocks: n, Inodes: files}
				laid(t, g)
				stored(t, g)
			}
		}
	}
}

// Each bitmap is one block more than it was as soon as its last block is full.
func TestFullBitmaps(t *testing.T) {
	for _, size := range sizes {
		bits := 8 * size
		for n := 1; n*bits <= 65536; n++ {
			for k, want := range map[int]int{n*bits - 1: n, n * bits: n, n*bits + 1: n + 1} {
				if k > 65536 {
					continue
				}
				if p := geom.Parts(geom.Geom{Block: size, Blocks: k, Inodes: 1}); p[1] != (geom.Place{At: 1, N: want}) || p[2].At != 1+want || p[2].N != 1 {
					t.Errorf("P1001: %d blocks of %d: %v", k, size, p)
				}
				if k > 4096 {
					continue
				}
				if p := geom.Parts(geom.Geom{Block: size, Blocks: 8, Inodes: k}); p[2] != (geom.Place{At: 2, N: want}) || p[3].At != 2+want {
					t.Errorf("P1001: %d inodes, blocks of %d: %v", k, size, p)
				}
			}
		}
	}
}

// Of so many inodes there is a number of blocks that leaves one for data, and one less leaves none.
func TestLeastDisk(t *testing.T) {
	for _, size := range sizes {
		for _, files := range inodes {
			g := geom.Geom{Block: size, Blocks: 8, Inodes: files}
			for lay(g).error != api.OK {
				g.Blocks++
			}
			if g.Blocks == 8 {
				laid(t, g)
				continue
			}
			if e := geom.Check(g); e != api.OK || geom.Data(g) != 1 {
				t.Errorf("P1001: %+v: %v, Data %d", g, e, geom.Data(g))
			}
			stored(t, g)
			g.Blocks--
			if e := geom.Check(g); e != api.ErrFull || geom.Data(g) != 0 {
				t.Errorf("P1001: %+v: %v, Data %d", g, e, geom.Data(g))
			}
			stored(t, g)
			if g.Blocks -= 2; g.Blocks < 8 {
				continue
			}
			if e := geom.Check(g); e != api.ErrFull || geom.Data(g) >= 0 {
				t.Errorf("P1001: %+v: %v, Data %d", g, e, geom.Data(g))
			}
			stored(t, g)
		}
	}
}

// Each number that may not be, beside numbers that leave nothing for data: ErrArg comes ahead.
func TestErrArgAheadOfErrFull(t *testing.T) {
	if e := geom.Check(geom.Geom{Block: 64, Blocks: 8, Inodes: 4096}); e != api.ErrFull {
		t.Fatalf("P1001: told %v", e)
	}
	for _, size := range wrongSizes {
		refused(t, geom.Geom{Block: size, Blocks: 8, Inodes: 4096})
	}
	for _, n := range wrongBlocks {
		refused(t, geom.Geom{Block: 64, Blocks: n, Inodes: 4096})
	}
	for _, files := range wrongInodes {
		refused(t, geom.Geom{Block: 64, Blocks: 8, Inodes: files})
	}
	refused(t, geom.Geom{})
	refused(t, geom.Geom{Block: 63, Blocks: 7, Inodes: 4097})
	refused(t, geom.Geom{Block: -64, Blocks: -8, Inodes: -1})
	refused(t, geom.Geom{Block: math.MaxInt, Blocks: math.MaxInt, Inodes: math.MaxInt})
	refused(t, geom.Geom{Block: math.MinInt, Blocks: math.MinInt, Inodes: math.MinInt})
}

func TestInodeWrittenOut(t *testing.T) {
	for _, c := range []struct {
		g        geom.Geom
		i, b, at int
	}{
		{geom.Geom{Block: 64, Blocks: 8, Inodes: 4}, 1, 3, 0},
		{geom.Geom{Block: 64, Blocks: 8, Inodes: 4}, 2, 4, 0},
		{geom.Geom{Block: 64, Blocks: 8, Inodes: 4}, 4, 6, 0},
		{geom.Geom{Block: 64, Blocks: 8, Inodes: 4}, 5, 0, 0},
		{geom.Geom{Block: 64, Blocks: 8, Inodes: 6}, 6, 8, 0},
		{geom.Geom{Block: 64, Blocks: 8, Inodes: 6}, 7, 0, 0},
		{geom.Geom{Block: 128, Blocks: 99, Inodes: 3}, 1, 3, 0},
		{geom.Geom{Block: 128, Blocks: 99, Inodes: 3}, 2, 3, 64},
		{geom.Geom{Block: 128, Blocks: 99, Inodes: 3}, 3, 4, 0},
		{geom.Geom{Block: 128, Blocks: 99, Inodes: 3}, 4, 0, 0},
		{geom.Geom{Block: 512, Blocks: 4097, Inodes: 40}, 8, 4, 448},
		{geom.Geom{Block: 512, Blocks: 4097, Inodes: 40}, 9, 5, 0},
		{geom.Geom{Block: 512, Blocks: 4097, Inodes: 40}, 40, 8, 448},
		{geom.Geom{Block: 1024, Blocks: 65536, Inodes: 4096}, 16, 10, 960},
		{geom.Geom{Block: 1024, Blocks: 65536, Inodes: 4096}, 17, 11, 0},
		{geom.Geom{Block: 1024, Blocks: 65536, Inodes: 4096}, 4096, 265, 960},
		{geom.Geom{Block: 1024, Blocks: 65536, Inodes: 4096}, 4097, 0, 0},
	} {
		if b, at := geom.Inode(c.g, c.i); b != c.b || at != c.at {
			t.Errorf("P1001: Inode(%+v, %d): %d, %d, not %d, %d", c.g, c.i, b, at, c.b, c.at)
		}
	}
}

// Each inode lies 64 bytes behind the one ahead of it, in the inodes' part, whether there is room for data or not.
func TestInodesOneByOne(t *testing.T) {
	for _, size := range sizes {
		for _, n := range []int{8, 513, 5000, 65536} {
			for _, files := range []int{1, 2, 3, 8, 9, 17, 513, 4096} {
				g := geom.Geom{Block: size, Blocks: n, Inodes: files}
				p := lay(g).parts[3]
				wantB, wantAt := p.At, 0
				for i := 1; i <= files; i++ {
					b, at := geom.Inode(g, i)
					if b != wantB || at != wantAt {
						t.Fatalf("P1001: Inode(%+v, %d): %d, %d, not %d, %d", g, i, b, at, wantB, wantAt)
					}
					if wantAt += 64; wantAt == size {
						wantB, wantAt = wantB+1, 0
					}
				}
				if wantAt == 0 {
					wantB--
				}
				if wantB != p.At+p.N-1 {
					t.Fatalf("P1001: the last of %+v is in %d, the part ends ahead of %d", g, wantB, p.At+p.N)
				}
			}
		}
	}
}

func TestNoInode(t *testing.T) {
	for _, size := range sizes {
		for _, n := range []int{8, 5000, 65536} {
			for _, files := range inodes {
				g := geom.Geom{Block: size, Blocks: n, Inodes: files}
				for _, i := range []int{0, -1, -2, -63, -64, -files, files + 1, files + 2, files + 63, files + 64, 2*files + 1, 4097, 1 << 30, 1<<26 + 1, math.MaxInt, math.MinInt, math.MaxInt - 1, math.MinInt + 1, math.MinInt + 2} {
					if b, at := geom.Inode(g, i); b != 0 || at != 0 {
						t.Errorf("P1001: Inode(%+v, %d): %d, %d", g, i, b, at)
					}
				}
			}
		}
	}
}

func TestEncodeWrittenOut(t *testing.T) {
	for _, c := range []struct {
		g    geom.Geom
		want string
	}{
		{geom.Geom{Block: 64, Blocks: 8, Inodes: 1}, "4c4f47474941 0100 40000000 08000000 01000000"},
		{geom.Geom{Block: 64, Blocks: 300, Inodes: 4}, "4c4f47474941 0100 40000000 2c010000 04000000"},
		{geom.Geom{Block: 128, Blocks: 65535, Inodes: 4095}, "4c4f47474941 0100 80000000 ffff0000 ff0f0000"},
		{geom.Geom{Block: 256, Blocks: 0x1234, Inodes: 0x0567}, "4c4f47474941 0100 00010000 34120000 67050000"},
		{geom.Geom{Block: 512, Blocks: 0xABCD, Inodes: 256}, "4c4f47474941 0100 00020000 cdab0000 00010000"},
		{geom.Geom{Block: 1024, Blocks: 65536, Inodes: 4096}, "4c4f47474941 0100 00040000 00000100 00100000"},
	} {
		want, err := hex.DecodeString(strings.ReplaceAll(c.want, " ", ""))
		if err != nil {
			t.Fatal(err)
		}
		want = append(want, make([]byte, c.g.Block-20)...)
		if b, e := geom.Encode(c.g); !bytes.Equal(b, want) || e != api.OK {
			t.Errorf("P1001: Encode(%+v): %x, %v", c.g, b, e)
		}
		if g, e := geom.Decode(want); g != c.g || e != api.OK {
			t.Errorf("P1001: Decode of %s: %+v, %v", c.want, g, e)
		}
		if !bytes.Equal(super(c.g), want) {
			t.Errorf("the plain way writes %+v as %x", c.g, super(c.g))
		}
	}
}

// Bytes that are too few or too many, or none.
func TestDecodeOfOtherLengths(t *testing.T) {
	none(t, "nil", nil)
	none(t, "no bytes", []byte{})
	for _, size := range sizes {
		b := super(geom.Geom{Block: size, Blocks: 8, Inodes: 1})
		long := append(bytes.Clone(b), make([]byte, 2*size)...)
		for n := range long {
			if n != size {
				none(t, fmt.Sprintf("%d bytes for %d", n, size), long[:n])
			}
		}
		none(t, "two superblocks", slices.Concat(b, b))
		none(t, "one that is a byte too late", append([]byte{0}, b[:size-1]...))
		for _, n := range []int{4096, 65536, 65600} {
			none(t, fmt.Sprintf("%d bytes for %d", n, size), append(bytes.Clone(b), make([]byte, n-size)...))
		}
	}
}

// A block's bytes are as many as its number says, be both of them what may be.
func TestDecodeOfOtherSizes(t *testing.T) {
	for _, is := range sizes {
		for _, says := range sizes {
			if is != says {
				none(t, fmt.Sprintf("%d bytes that say %d", is, says), written(is, uint32(says), 100, 4))
			}
		}
		for _, says := range wrongSizes {
			if uint32(says) != uint32(is) {
				none(t, fmt.Sprintf("%d bytes that say %d", is, says), written(is, uint32(says), 100, 4))
			}
		}
	}
	for _, n := range []int{20, 21, 32, 63, 65, 96, 192, 1025, 2048} {
		none(t, fmt.Sprintf("%d bytes that say so", n), written(n, uint32(n), 100, 4))
	}
}

// Each byte is turned into each other one: in the word and in the two behind it and in the rest it is none's, in a number it is another's, if there is one.
func TestDecodeOfEachByte(t *testing.T) {
	for _, g := range []geom.Geom{{Block: 64, Blocks: 8, Inodes: 4}, {Block: 64, Blocks: 300, Inodes: 200}, {Block: 128, Blocks: 65536, Inodes: 1}, {Block: 256, Blocks: 600, Inodes: 2049}, {Block: 512, Blocks: 4097, Inodes: 4095}, {Block: 1024, Blocks: 65536, Inodes: 4096}} {
		b := super(g)
		for k := range b {
			old := b[k]
			for v := range 256 {
				b[k] = byte(v)
				if is := decoded(t, b); (k < 12 || k >= 20) && is != (b[k] == old) {
					t.Fatalf("the plain way tells %+v with byte %d as %d", g, k, v)
				}
			}
			b[k] = old
		}
	}
}

// Two bytes turned at once do not undo each other.
func TestDecodeOfTwoBytes(t *testing.T) {
	b := super(geom.Geom{Block: 64, Blocks: 300, Inodes: 4})
	for k := range b {
		for j := range k {
			if k >= 8 && k < 20 && j >= 8 {
				continue
			}
			b[j], b[k] = b[j]^0x80, b[k]^0x80
			none(t, fmt.Sprintf("bytes %d and %d turned", j, k), b)
			b[j], b[k] = b[j]^0x80, b[k]^0x80
		}
	}
	if _, e := geom.Decode(b); e != api.OK {
		t.Errorf("P1001: turned back: %v", e)
	}
}

// Numbers in bytes that Check would refuse, with either error, and some that no int of 32 bits holds.
func TestDecodeOfWrongNumbers(t *testing.T) {
	large := []uint32{1 << 16, 1 << 17, 1 << 24, 1<<31 - 1, 1 << 31, 1<<31 + 8, 1<<31 + 64, 1<<32 - 4096, 1<<32 - 64, 1<<32 - 8, 1<<32 - 1}
	for _, size := range sizes {
		s := uint32(size)
		for _, n := range append([]uint32{0, 1, 6, 7, 65537, 65538}, large[1:]...) {
			none(t, fmt.Sprintf("%d blocks of %d", n, size), written(size, s, n, 1))
		}
		for _, n := range append([]uint32{0, 4097, 4098, 8192}, large...) {
			none(t, fmt.Sprintf("%d inodes, blocks of %d", n, size), written(size, s, 65536, n))
			none(t, fmt.Sprintf("%d inodes, 8 blocks of %d", n, size), written(size, s, 8, n))
		}
		for _, n := range append([]uint32{0, 1, 32, s - 1, s + 1, s + 1<<16, s + 1<<31, -s}, large...) {
			none(t, fmt.Sprintf("%d bytes that say %d", size, n), written(size, n, 100, 4))
		}
		none(t, "all zeros", make([]byte, size))
		none(t, "all ones", bytes.Repeat([]byte{0xFF}, size))
		none(t, "no numbers", written(size))
		none(t, "one number", written(size, s))
		none(t, "two numbers", written(size, s, 8))
		none(t, "numbers the highest byte first", written(size, s<<24|s<<8&0xFF0000, 8<<24, 1<<24))
		none(t, "numbers in another order", written(size, 8, s, 1))
	}
	for _, c := range []geom.Geom{{Block: 64, Blocks: 8, Inodes: 5}, {Block: 64, Blocks: 8, Inodes: 4096}, {Block: 128, Blocks: 8, Inodes: 9}, {Block: 64, Blocks: 513, Inodes: 509}, {Block: 1024, Blocks: 8, Inodes: 65}, {Block: 256, Blocks: 517, Inodes: 2049}} {
		if e := geom.Check(c); e != api.ErrFull {
			t.Fatalf("P1001: Check(%+v): %v", c, e)
		}
		none(t, fmt.Sprintf("%+v", c), super(c))
	}
}

// room: b with spare room behind it, and the whole of both.
func room(b []byte) (list, whole []byte) {
	whole = append(bytes.Clone(b), bytes.Repeat([]byte{0xEE}, 100)...)
	return whole[:len(b)], whole
}

// spoil changes all of b, its spare room too.
func spoil(b []byte) {
	for k := range b[:cap(b)] {
		b[:cap(b)][k] ^= 0xA5
	}
}

func TestDecodeChangesNothing(t *testing.T) {
	for _, b := range [][]byte{super(geom.Geom{Block: 64, Blocks: 8, Inodes: 4}), super(geom.Geom{Block: 1024, Blocks: 999, Inodes: 40}), super(geom.Geom{Block: 64, Blocks: 8, Inodes: 5}), []byte("LOGGIA"), {}, bytes.Repeat([]byte{7}, 64)} {
		list, whole := room(b)
		old := bytes.Clone(whole)
		g, e := geom.Decode(list)
		if !bytes.Equal(whole, old) {
			t.Errorf("P2: Decode changed %x to %x", old, whole)
		}
		spoil(list)
		if want, is := told(b); g != want || (e == api.OK) != is {
			t.Errorf("P2: Decode of %x: %+v, %v", b, g, e)
		}
	}
}

// What is behind a list, in its spare room, is not read.
func TestDecodeOfAPiece(t *testing.T) {
	b := super(geom.Geom{Block: 128, Blocks: 99, Inodes: 4})
	for n := range b {
		none(t, fmt.Sprintf("the first %d bytes", n), b[:n])
	}
	whole := append(bytes.Clone(b), bytes.Repeat([]byte{0xEE}, 128)...)
	if g, e := geom.Decode(whole[:128]); g.Blocks != 99 || e != api.OK {
		t.Errorf("P1001: Decode of a piece: %+v, %v", g, e)
	}
}

func TestEncodeAnswersNewMemory(t *testing.T) {
	for _, size := range sizes {
		g := geom.Geom{Block: size, Blocks: 1234, Inodes: 56}
		a, _ := geom.Encode(g)
		b, _ := geom.Encode(g)
		spoil(a)
		if !bytes.Equal(b, super(g)) {
			t.Errorf("P2: two answers for %+v share memory", g)
		}
		if c, e := geom.Encode(g); !bytes.Equal(c, super(g)) || e != api.OK {
			t.Errorf("P2: Encode(%+v), its answer spoilt: %x, %v", g, c, e)
		}
		if x, e := geom.Decode(b); x != g || e != api.OK {
			t.Errorf("P2: Decode of %+v, an answer spoilt: %+v, %v", g, x, e)
		}
	}
}

func TestPartsAnswersItsOwn(t *testing.T) {
	g := geom.Geom{Block: 64, Blocks: 1234, Inodes: 56}
	p := geom.Parts(g)
	p[0], p[3] = geom.Place{At: 9, N: 9}, geom.Place{}
	laid(t, g)
}

// Of what may not be, they only have to end, and Check tells later what it told ahead.
func TestWrongGeometriesEnd(t *testing.T) {
	for _, size := range append(slices.Clone(wrongSizes), 64, 1024) {
		for _, n := range append(slices.Clone(wrongBlocks), 8, 65536) {
			for _, files := range append(slices.Clone(wrongInodes), 1, 4096) {
				g := geom.Geom{Block: size, Blocks: n, Inodes: files}
				e := geom.Check(g)
				geom.Parts(g)
				geom.Data(g)
				for _, i := range []int{0, 1, 2, -1, files, files - 1, math.MaxInt, math.MinInt} {
					geom.Inode(g, i)
				}
				if geom.Check(g) != e {
					t.Fatalf("P3: Check(%+v) told %v, and then %v", g, e, geom.Check(g))
				}
			}
		}
	}
}

// dice: the same numbers at each run.
type dice uint64

func (d *dice) below(n int) int {
	*d = *d*6364136223846793005 + 1442695040888963407
	return int(uint64(*d)>>33) % n
}

// throw: a geometry, more often of few blocks and of what the edges are.
func (d *dice) throw() geom.Geom {
	g := geom.Geom{Block: sizes[d.below(5)], Blocks: 8 + d.below(65529), Inodes: 1 + d.below(4096)}
	switch d.below(4) {
	case 0:
		g.Blocks = 8 + d.below(600)
	case 1:
		g.Blocks = min(max(8, g.Inodes*64/g.Block+d.below(24)), 65536)
	case 2:
		g.Inodes = 1 + d.below(40)
	}
	return g
}

func TestAgainstThePlainWay(t *testing.T) {
	d := dice(10)
	kinds := map[api.Errno]int{}
	for range 100000 {
		g := d.throw()
		laid(t, g)
		kinds[lay(g).error]++
		if i := d.below(g.Inodes) + 1; d.below(20) == 0 {
			b, at := geom.Inode(g, i)
			if off := (b-lay(g).parts[3].At)*g.Block + at; off != 64*(i-1) || at >= g.Block {
				t.Fatalf("P1001: Inode(%+v, %d): %d, %d", g, i, b, at)
			}
		}
		if d.below(20) == 0 {
			stored(t, g)
		}
	}
	if kinds[api.OK] < 10000 || kinds[api.ErrFull] < 10000 {
		t.Errorf("thrown %v", kinds)
	}
}

// Bytes that are almost a geometry's are told as the plain way tells them.
func TestDecodeOfAnyBytes(t *testing.T) {
	d := dice(11)
	kinds := map[bool]int{}
	for range 60000 {
		g := d.throw()
		b := super(g)
		for range d.below(3) {
			switch d.below(8) {
			case 0:
				b = b[:d.below(len(b)+1)]
			case 1:
				b = append(b, make([]byte, d.below(2*g.Block))...)
			case 2:
				b = append(b[:min(len(b), 8)], bytes.Repeat([]byte{byte(d.below(256))}, d.below(100))...)
			case 3, 4:
				if len(b) > 0 {
					b[d.below(len(b))] ^= 1 << d.below(8)
				}
			default:
				if len(b) >= 20 {
					b[8+d.below(12)] = byte(d.below(256))
				}
			}
		}
		kinds[decoded(t, b)]++
	}
	if kinds[true] < 10000 || kinds[false] < 10000 {
		t.Errorf("thrown %v", kinds)
	}
}

func TestTheSameCallsAnswerTheSame(t *testing.T) {
	rows := [2]strings.Builder{}
	for k := range rows {
		d := dice(12)
		for range 3000 {
			g := d.throw()
			b, e := geom.Encode(g)
			at, off := geom.Inode(g, d.below(g.Inodes+2))
			fmt.Fprintln(&rows[k], geom.Check(g), geom.Parts(g), geom.Data(g), at, off, b, e)
		}
	}
	if rows[0].String() != rows[1].String() {
		t.Error("P3: the same calls answer otherwise")
	}
}

// Many bytes that are none's are refused in good time.
func TestMuchEnds(t *testing.T) {
	b := append(super(geom.Geom{Block: 1024, Blocks: 65536, Inodes: 4096}), make([]byte, 1<<24)...)
	none(t, "many bytes", b)
	for k := range 16 {
		none(t, "many bytes", b[k:])
	}
}
