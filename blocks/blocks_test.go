package blocks_test

import (
	"fmt"
	"math"
	"math/bits"
	"strings"
	"testing"

	"loggia/api"
	"loggia/blocks"
)

// sizes: how many bytes a block may have, and what the chapter says follows from each, worked out by hand.
var sizes = []struct {
	block  int
	names  int    // how many blocks a table names
	single uint64 // the first byte that Single reaches
	double uint64 // the first byte that Double reaches
	most   uint64 // the first byte that nothing reaches
	tables int    // how many tables there are at most
}{
	{64, 16, 512, 1536, 17920, 18},
	{128, 32, 1024, 5120, 136192, 34},
	{256, 64, 2048, 18432, 1067008, 66},
	{512, 128, 4096, 69632, 8458240, 130},
	{1024, 256, 8192, 270336, 67379200, 258},
}

// wrongBlocks: what no block has.
func wrongBlocks() []int {
	l := []int{
		0, -1, -2, -63, -64, -65, -128, -256, -512, -1024, -2048,
		1, 2, 3, 4, 8, 16, 32, 48, 60, 62, 63, 65, 66, 68, 72, 80, 96, 100, 127, 129, 192, 255, 257, 320, 384, 448, 511, 513, 640, 768, 896, 960, 1000, 1020, 1023, 1025, 1026, 1028, 1088, 1536, 2047, 2049, 3072,
		2048, 4096, 8192, 16384, 32768, 65536, 1 << 20, 1 << 24, 1 << 30,
		math.MaxInt32, math.MinInt32, math.MaxInt, math.MaxInt - 1, math.MinInt, math.MinInt + 1, math.MinInt + 64, math.MinInt + 1024,
	}
	for bit := range bits.UintSize {
		if bit < 6 || bit > 10 {
			l = append(l, 1<<bit, -(1 << bit))
		}
		if bit > 10 { // what is a block's in its lower bits
			l = append(l, 1<<bit|64, 1<<bit|256, 1<<bit|1024)
		}
	}
	return l
}

// edgesOf: off, those one less and one more, if there are such.
func edgesOf(off uint64) []uint64 {
	l := []uint64{off}
	if off > 0 {
		l = append(l, off-1)
	}
	if off < math.MaxUint64 {
		l = append(l, off+1)
	}
	return l
}

// walk: a road, led on byte by byte in the order in which a file's bytes lie. It counts alone; it divides nothing.
type walk struct {
	block, names int
	off          uint64
	at           blocks.Road
	tables       int // how many tables the bytes up to this one want
	end          bool
}

func newWalk(block, names int) *walk {
	return &walk{block: block, names: names, at: blocks.Road{Kind: 1}}
}

// next goes on by n bytes of the same block, or past its end to the next one.
func (w *walk) next(n int) {
	w.off += uint64(n)
	w.at.At += n
	if w.at.At == w.block {
		w.at.At = 0
		w.nextBlock()
	}
}

func (w *walk) nextBlock() {
	switch w.at.Kind {
	case 1:
		w.at.A++
		if w.at.A == 8 {
			w.at = blocks.Road{Kind: 2}
			w.tables = 1
		}
	case 2:
		w.at.A++
		if w.at.A == w.names {
			w.at = blocks.Road{Kind: 3}
			w.tables = 3
		}
	default:
		w.at.B++
		if w.at.B < w.names {
			return
		}
		w.at.A, w.at.B = w.at.A+1, 0
		if w.at.A == w.names {
			w.end = true
			return
		}
		w.tables++
	}
}

// there asks that r lead to off, and that nothing else be told of off.
func there(t testing.TB, off uint64, block int, r blocks.Road) {
	t.Helper()
	if x, e := blocks.Find(off, block); x != r || e != api.OK {
		t.Fatalf("P1201: Find(%d, %d): %+v, %v, not %+v", off, block, x, e, r)
	}
	if x, e := blocks.Back(r, block); x != off || e != api.OK {
		t.Fatalf("P1201: Back(%+v, %d): %d, %v, not %d", r, block, x, e, off)
	}
}

// unreached asks that off be refused.
func unreached(t testing.TB, off uint64, block int, want api.Errno) {
	t.Helper()
	if r, e := blocks.Find(off, block); r != (blocks.Road{}) || e != want {
		t.Errorf("P1201: Find(%d, %d): %+v, %v, not %v", off, block, r, e, want)
	}
}

// none asks that r be no road.
func none(t testing.TB, r blocks.Road, block int) {
	t.Helper()
	if off, e := blocks.Back(r, block); off != 0 || e != api.ErrArg {
		t.Errorf("P1201: Back(%+v, %d): %d, %v", r, block, off, e)
	}
}

// counted asks that a file of size have so many tables.
func counted(t testing.TB, size uint64, block, want int) {
	t.Helper()
	if n := blocks.Tables(size, block); n != want {
		t.Errorf("P1201: Tables(%d, %d): %d, not %d", size, block, n, want)
	}
}

func TestKinds(t *testing.T) {
	if blocks.Direct != 1 || blocks.Single != 2 || blocks.Double != 3 {
		t.Errorf("P1201: kinds %d, %d, %d", blocks.Direct, blocks.Single, blocks.Double)
	}
}

func TestWrittenOut(t *testing.T) {
	for _, c := range []struct {
		off   uint64
		block int
		want  blocks.Road
	}{
		{0, 64, blocks.Road{Kind: blocks.Direct}},
		{1, 64, blocks.Road{Kind: blocks.Direct, At: 1}},
		{63, 64, blocks.Road{Kind: blocks.Direct, At: 63}},
		{64, 64, blocks.Road{Kind: blocks.Direct, A: 1}},
		{200, 64, blocks.Road{Kind: blocks.Direct, A: 3, At: 8}},
		{511, 64, blocks.Road{Kind: blocks.Direct, A: 7, At: 63}},
		{512, 64, blocks.Road{Kind: blocks.Single}},
		{1535, 64, blocks.Road{Kind: blocks.Single, A: 15, At: 63}},
		{1536, 64, blocks.Road{Kind: blocks.Double}},
		{1536 + 64, 64, blocks.Road{Kind: blocks.Double, B: 1}},
		{1536 + 1023, 64, blocks.Road{Kind: blocks.Double, B: 15, At: 63}},
		{1536 + 1024, 64, blocks.Road{Kind: blocks.Double, A: 1}},
		{10000, 64, blocks.Road{Kind: blocks.Double, A: 8, B: 4, At: 16}},
		{17919, 64, blocks.Road{Kind: blocks.Double, A: 15, B: 15, At: 63}},
		{300, 128, blocks.Road{Kind: blocks.Direct, A: 2, At: 44}},
		{1024 + 300, 128, blocks.Road{Kind: blocks.Single, A: 2, At: 44}},
		{5120 + 4096*3 + 300, 128, blocks.Road{Kind: blocks.Double, A: 3, B: 2, At: 44}},
		{136191, 128, blocks.Road{Kind: blocks.Double, A: 31, B: 31, At: 127}},
		{1000, 256, blocks.Road{Kind: blocks.Direct, A: 3, At: 232}},
		{4096, 256, blocks.Road{Kind: blocks.Single, A: 8}},
		{18431, 256, blocks.Road{Kind: blocks.Single, A: 63, At: 255}},
		{18432 + 16384*63 + 16383, 256, blocks.Road{Kind: blocks.Double, A: 63, B: 63, At: 255}},
		{4095, 512, blocks.Road{Kind: blocks.Direct, A: 7, At: 511}},
		{5000, 512, blocks.Road{Kind: blocks.Single, A: 1, At: 392}},
		{69632 + 65536*100 + 512*99 + 98, 512, blocks.Road{Kind: blocks.Double, A: 100, B: 99, At: 98}},
		{8191, 1024, blocks.Road{Kind: blocks.Direct, A: 7, At: 1023}},
		{8192, 1024, blocks.Road{Kind: blocks.Single}},
		{270335, 1024, blocks.Road{Kind: blocks.Single, A: 255, At: 1023}},
		{270336, 1024, blocks.Road{Kind: blocks.Double}},
		{270336 + 262144*200 + 1024*100 + 50, 1024, blocks.Road{Kind: blocks.Double, A: 200, B: 100, At: 50}},
		{67379199, 1024, blocks.Road{Kind: blocks.Double, A: 255, B: 255, At: 1023}},
	} {
		there(t, c.off, c.block, c.want)
	}
}

// The first and the last byte of each block, and of what each kind reaches, and those one less and one more.
func TestEdgesWrittenOut(t *testing.T) {
	for _, s := range sizes {
		last := s.block - 1
		for a := range 8 {
			first := uint64(a * s.block)
			there(t, first, s.block, blocks.Road{Kind: blocks.Direct, A: a})
			there(t, first+1, s.block, blocks.Road{Kind: blocks.Direct, A: a, At: 1})
			there(t, first+uint64(last), s.block, blocks.Road{Kind: blocks.Direct, A: a, At: last})
			there(t, first+uint64(last-1), s.block, blocks.Road{Kind: blocks.Direct, A: a, At: last - 1})
		}
		there(t, s.single-1, s.block, blocks.Road{Kind: blocks.Direct, A: 7, At: last})
		there(t, s.single, s.block, blocks.Road{Kind: blocks.Single})
		there(t, s.single+1, s.block, blocks.Road{Kind: blocks.Single, At: 1})
		there(t, s.single+uint64(last), s.block, blocks.Road{Kind: blocks.Single, At: last})
		there(t, s.single+uint64(s.block), s.block, blocks.Road{Kind: blocks.Single, A: 1})
		there(t, s.double-2, s.block, blocks.Road{Kind: blocks.Single, A: s.names - 1, At: last - 1})
		there(t, s.double-1, s.block, blocks.Road{Kind: blocks.Single, A: s.names - 1, At: last})
		there(t, s.double-uint64(s.block), s.block, blocks.Road{Kind: blocks.Single, A: s.names - 1})
		there(t, s.double, s.block, blocks.Road{Kind: blocks.Double})
		there(t, s.double+1, s.block, blocks.Road{Kind: blocks.Double, At: 1})
		there(t, s.double+uint64(last), s.block, blocks.Road{Kind: blocks.Double, At: last})
		there(t, s.double+uint64(s.block), s.block, blocks.Road{Kind: blocks.Double, B: 1})
		there(t, s.most-uint64(s.block)-1, s.block, blocks.Road{Kind: blocks.Double, A: s.names - 1, B: s.names - 2, At: last})
		there(t, s.most-uint64(s.block), s.block, blocks.Road{Kind: blocks.Double, A: s.names - 1, B: s.names - 1})
		there(t, s.most-2, s.block, blocks.Road{Kind: blocks.Double, A: s.names - 1, B: s.names - 1, At: last - 1})
		there(t, s.most-1, s.block, blocks.Road{Kind: blocks.Double, A: s.names - 1, B: s.names - 1, At: last})
		unreached(t, s.most, s.block, api.ErrLong)
		unreached(t, s.most+1, s.block, api.ErrLong)
	}
}

// farOffs: large offsets, among them those that are a small one in their lower bits, or in an int.
func farOffs() []uint64 {
	l := []uint64{math.MaxInt32, math.MaxInt32 + 1, math.MaxUint32, math.MaxUint32 + 1, math.MaxInt64 - 1, math.MaxInt64, math.MaxInt64 + 1, math.MaxUint64 - 1, math.MaxUint64, math.MaxUint64 - 63, math.MaxUint64 - 1023}
	for bit := 27; bit < 64; bit++ {
		l = append(l, 1<<bit, 1<<bit|1, 1<<bit|100, 1<<bit-1)
	}
	return l
}

func TestMost(t *testing.T) {
	for _, s := range sizes {
		if n := blocks.Most(s.block); n != s.most {
			t.Errorf("P1201: Most(%d): %d, not %d", s.block, n, s.most)
		}
		for _, off := range farOffs() {
			unreached(t, off, s.block, api.ErrLong)
		}
		for n := range uint64(3000) {
			unreached(t, s.most+n, s.block, api.ErrLong)
		}
	}
}

// Each byte of files of small blocks, one behind the other.
func TestEachByte(t *testing.T) {
	for _, s := range sizes[:3] {
		w := newWalk(s.block, s.names)
		for ; !w.end; w.next(1) {
			there(t, w.off, s.block, w.at)
		}
		if w.off != s.most {
			t.Errorf("the plain way reaches %d, not %d", w.off, s.most)
		}
	}
}

// Some bytes of each block, one block behind the other.
func TestEachBlock(t *testing.T) {
	for _, s := range sizes {
		w := newWalk(s.block, s.names)
		for !w.end {
			for _, n := range []int{1, s.block/2 - 1, 1, s.block/2 - 2, 1} {
				there(t, w.off, s.block, w.at)
				w.next(n)
			}
		}
		if w.off != s.most {
			t.Errorf("the plain way reaches %d, not %d", w.off, s.most)
		}
	}
}

// Each small road and what is about it: it is one that some byte has, or none.
func TestEachRoad(t *testing.T) {
	s := sizes[0]
	roads := map[blocks.Road]uint64{}
	for w := newWalk(s.block, s.names); !w.end; w.next(1) {
		roads[w.at] = w.off
	}
	for kind := -1; kind <= 5; kind++ {
		for a := -2; a <= s.names+1; a++ {
			for b := -2; b <= s.names+1; b++ {
				for at := -2; at <= s.block+1; at++ {
					r := blocks.Road{Kind: kind, A: a, B: b, At: at}
					if off, is := roads[r]; is {
						there(t, off, s.block, r)
						continue
					}
					none(t, r, s.block)
				}
			}
		}
	}
}

// ends: how many A, B and At a kind has where a table names so many blocks; none if there is no such kind.
func ends(kind, names, block int) (a, b, at int) {
	switch kind {
	case 1:
		return 8, 1, block
	case 2:
		return names, 1, block
	case 3:
		return names, names, block
	}
	return 0, 0, 0
}

// numbersAt: numbers at the edges of 0 to end-1, and far from it.
func numbersAt(end int) []int {
	return []int{0, 1, end - 2, end - 1, end, end + 1, -1, -2, -end, 2 * end, math.MaxInt32, math.MinInt32, math.MaxInt, math.MaxInt - 1, math.MinInt, math.MinInt + 1}
}

func within(k, end int) bool { return 0 <= k && k < end }

// led: the byte that r leads to, told the plain way, and whether it is a road.
func led(r blocks.Road, names, block int) (uint64, bool) {
	a, b, at := ends(r.Kind, names, block)
	if !within(r.A, a) || !within(r.B, b) || !within(r.At, at) {
		return 0, false
	}
	ahead := [4]int{0, 0, 8, 8 + names}[r.Kind] + r.A
	if r.Kind == 3 {
		ahead += r.A*(names-1) + r.B
	}
	return uint64(ahead*block + r.At), true
}

// backs asks that Back tell r as the plain way does, and tells whether it is a road.
func backs(t testing.TB, r blocks.Road, names, block int) bool {
	t.Helper()
	off, is := led(r, names, block)
	if is {
		there(t, off, block, r)
	} else {
		none(t, r, block)
	}
	return is
}

// Of each kind, and of what is none, each number at each edge beside each other one at each edge.
func TestRoadsAtTheirEdges(t *testing.T) {
	kinds := []int{1, 2, 3, 0, -1, -2, -3, 4, 5, 8, 257, 1 << 16, 1<<16 + 1, math.MaxInt32, math.MinInt32, math.MaxInt, math.MaxInt - 1, math.MinInt, math.MinInt + 1, math.MinInt + 2, math.MinInt + 3}
	for _, s := range sizes {
		roads := 0
		for _, kind := range kinds {
			a, b, at := ends(kind, s.names, s.block)
			for _, x := range numbersAt(a) {
				for _, y := range append(numbersAt(b), s.names-1, s.names) {
					for _, z := range numbersAt(at) {
						if backs(t, blocks.Road{Kind: kind, A: x, B: y, At: z}, s.names, s.block) {
							roads++
						}
					}
				}
			}
		}
		if roads < 50 {
			t.Errorf("%d roads of %d", roads, s.block)
		}
	}
}

// What is no road, each for one reason alone.
func TestRoadsThatAreNone(t *testing.T) {
	for _, s := range sizes {
		none(t, blocks.Road{}, s.block)
		none(t, blocks.Road{At: 1}, s.block)
		for kind := 1; kind <= 3; kind++ {
			a, b, at := ends(kind, s.names, s.block)
			for _, wrong := range []blocks.Road{
				{Kind: kind, A: -1}, {Kind: kind, A: a}, {Kind: kind, A: math.MinInt}, {Kind: kind, A: math.MaxInt}, {Kind: kind, A: -a},
				{Kind: kind, B: -1}, {Kind: kind, B: b}, {Kind: kind, B: math.MinInt}, {Kind: kind, B: math.MaxInt}, {Kind: kind, B: -b},
				{Kind: kind, At: -1}, {Kind: kind, At: at}, {Kind: kind, At: math.MinInt}, {Kind: kind, At: math.MaxInt}, {Kind: kind, At: -at},
				// What another number would make good.
				{Kind: kind, A: 1, At: -1}, {Kind: kind, A: 1, At: -s.block}, {Kind: kind, A: 1, B: -1}, {Kind: kind, A: 1, B: -s.names}, {Kind: kind, A: 2, B: -1, At: 1}, {Kind: kind, A: -1, At: s.block}, {Kind: kind, A: -1, B: s.names}, {Kind: kind, A: -1, B: 1},
			} {
				none(t, wrong, s.block)
			}
		}
		for bit := 2; bit < bits.UintSize; bit++ {
			for kind := range 4 {
				none(t, blocks.Road{Kind: 1<<bit | kind}, s.block)
			}
			if bit > 8 {
				none(t, blocks.Road{Kind: 1, A: 1<<bit | 1}, s.block)
				none(t, blocks.Road{Kind: 2, A: 1<<bit | 1}, s.block)
				none(t, blocks.Road{Kind: 3, A: 1<<bit | 1}, s.block)
				none(t, blocks.Road{Kind: 3, B: 1<<bit | 1}, s.block)
			}
			if bit > 10 {
				none(t, blocks.Road{Kind: 1, At: 1<<bit | 1}, s.block)
			}
			none(t, blocks.Road{Kind: 1, B: 1 << bit}, s.block)
			none(t, blocks.Road{Kind: 2, B: 1 << bit}, s.block)
		}
	}
}

// A road of large blocks is none of small ones.
func TestRoadsOfOtherBlocks(t *testing.T) {
	for k, s := range sizes {
		r, _ := blocks.Find(s.most-1, s.block)
		for _, smaller := range sizes[:k] {
			none(t, r, smaller.block)
			unreached(t, s.most-1, smaller.block, api.ErrLong)
		}
		for _, larger := range sizes[k:] {
			backs(t, r, larger.names, larger.block)
		}
	}
}

func TestTablesWrittenOut(t *testing.T) {
	for _, c := range []struct {
		size  uint64
		block int
		want  int
	}{
		{0, 64, 0}, {1, 64, 0}, {64, 64, 0}, {511, 64, 0}, {512, 64, 0},
		{513, 64, 1}, {514, 64, 1}, {1535, 64, 1}, {1536, 64, 1},
		{1537, 64, 3}, {1538, 64, 3}, {2559, 64, 3}, {2560, 64, 3},
		{2561, 64, 4}, {3584, 64, 4}, {3585, 64, 5},
		{16895, 64, 17}, {16896, 64, 17}, {16897, 64, 18}, {17919, 64, 18}, {17920, 64, 18}, {17921, 64, 18}, {20000, 64, 18},
		{1024, 128, 0}, {1025, 128, 1}, {5120, 128, 1}, {5121, 128, 3}, {9216, 128, 3}, {9217, 128, 4},
		{2048, 256, 0}, {2049, 256, 1}, {18432, 256, 1}, {18433, 256, 3}, {34816, 256, 3}, {34817, 256, 4},
		{4096, 512, 0}, {4097, 512, 1}, {69632, 512, 1}, {69633, 512, 3}, {135168, 512, 3}, {135169, 512, 4},
		{8192, 1024, 0}, {8193, 1024, 1}, {270336, 1024, 1}, {270337, 1024, 3}, {532480, 1024, 3}, {532481, 1024, 4},
		{67379200 - 262144, 1024, 257}, {67379200 - 262143, 1024, 258}, {67379200, 1024, 258}, {67379201, 1024, 258}, {math.MaxUint64, 1024, 258},
	} {
		counted(t, c.size, c.block, c.want)
	}
}

// Each size of files of small blocks; of large ones each size at which another block is wanted, one less and one more.
func TestTablesOfEachSize(t *testing.T) {
	for k, s := range sizes {
		w := newWalk(s.block, s.names)
		counted(t, 0, s.block, 0)
		for !w.end {
			counted(t, w.off+1, s.block, w.tables) // this byte is the file's last one
			if k < 3 {
				w.next(1)
				continue
			}
			w.next(1)
			counted(t, w.off+1, s.block, w.tables)
			w.next(s.block - 2)
			counted(t, w.off+1, s.block, w.tables)
			w.next(1)
		}
		if w.tables != s.tables {
			t.Errorf("the plain way has %d tables of %d, not %d", w.tables, s.block, s.tables)
		}
		for n := range uint64(3000) {
			counted(t, s.most+n, s.block, s.tables)
		}
		for _, size := range farOffs() {
			counted(t, size, s.block, s.tables)
		}
	}
}

// What is no block is refused first, whatever else is wrong.
func TestWrongBlocks(t *testing.T) {
	offs := append(farOffs(), 0, 1, 63, 64, 65, 511, 512, 513, 1535, 1536, 1537, 17919, 17920, 67379199, 67379200)
	roads := []blocks.Road{{}, {Kind: 1}, {Kind: 1, A: 7}, {Kind: 1, At: 1}, {Kind: 2}, {Kind: 2, A: 1}, {Kind: 3}, {Kind: 3, A: 1, B: 1, At: 1}, {Kind: 1, A: 8}, {Kind: 4}, {Kind: 1, A: -1}, {Kind: 1, B: -1}, {Kind: 1, At: -1}, {Kind: math.MinInt, A: math.MinInt, B: math.MinInt, At: math.MinInt}, {Kind: 3, A: math.MaxInt, B: math.MaxInt, At: math.MaxInt}}
	for _, block := range wrongBlocks() {
		if n := blocks.Most(block); n != 0 {
			t.Errorf("P1201: Most(%d): %d", block, n)
		}
		for _, off := range offs {
			unreached(t, off, block, api.ErrArg)
			counted(t, off, block, 0)
		}
		for _, r := range roads {
			none(t, r, block)
		}
	}
}

func TestEachNumberAsABlock(t *testing.T) {
	is := map[int]uint64{}
	for _, s := range sizes {
		is[s.block] = s.most
	}
	for block := -5000; block < 70000; block++ {
		most, may := is[block]
		if n := blocks.Most(block); n != most {
			t.Errorf("P1201: Most(%d): %d", block, n)
		}
		if n := blocks.Tables(20000, block); (n > 0) != may {
			t.Errorf("P1201: Tables(20000, %d): %d", block, n)
		}
		if may {
			there(t, 5, block, blocks.Road{Kind: 1, At: 5})
			continue
		}
		unreached(t, 5, block, api.ErrArg)
		unreached(t, 1<<62, block, api.ErrArg)
		none(t, blocks.Road{Kind: 1, At: 5}, block)
	}
}

func TestARoadIsAValue(t *testing.T) {
	a, _ := blocks.Find(2000, 64)
	b := a
	b.Kind, b.A, b.B, b.At = 9, 9, 9, 9
	there(t, 2000, 64, a)
	if a != (blocks.Road{Kind: 3, B: 7, At: 16}) {
		t.Errorf("P2: %+v", a)
	}
}

// dice: the same numbers at each run.
type dice uint64

func (d *dice) below(n int) int {
	*d = *d*6364136223846793005 + 1442695040888963407
	return int(uint64(*d)>>33) % n
}

// off: an offset of any length, up to a uint64's.
func (d *dice) off() uint64 {
	n := uint64(d.below(1<<30))<<34 | uint64(d.below(1<<30))<<4 | uint64(d.below(16))
	return n >> d.below(64)
}

// number: one that may be below end, and now and then any.
func (d *dice) number(end int) int {
	switch d.below(12) {
	case 0:
		l := numbersAt(end)
		return l[d.below(len(l))]
	case 1:
		return int(d.off())
	}
	return d.below(max(end, 1))
}

func TestAgainstThePlainWay(t *testing.T) {
	d := dice(12)
	kinds := map[bool]int{}
	for range 200000 {
		s := sizes[d.below(len(sizes))]
		kind := d.below(4)
		if d.below(10) == 0 {
			kind = d.number(5)
		}
		a, b, at := ends(kind, s.names, s.block)
		r := blocks.Road{Kind: kind, A: d.number(a), B: d.number(b), At: d.number(at)}
		kinds[backs(t, r, s.names, s.block)]++
	}
	if kinds[true] < 50000 || kinds[false] < 50000 {
		t.Errorf("thrown %v", kinds)
	}
}

// Any offset has a road that leads there, or none; and the tables of a file that ends there are those that its last byte wants.
func TestOfAnyOffset(t *testing.T) {
	d := dice(13)
	kinds := map[int]int{}
	for range 200000 {
		s := sizes[d.below(len(sizes))]
		off := d.off()
		if off >= s.most {
			unreached(t, off, s.block, api.ErrLong)
			counted(t, off, s.block, s.tables)
			kinds[0]++
			continue
		}
		r, e := blocks.Find(off, s.block)
		if x, is := led(r, s.names, s.block); x != off || !is || e != api.OK {
			t.Errorf("P1201: Find(%d, %d): %+v, %v", off, s.block, r, e)
		}
		there(t, off, s.block, r)
		counted(t, off+1, s.block, [4]int{0, 0, 1, 3 + r.A}[r.Kind])
		kinds[r.Kind]++
	}
	for kind := range 4 {
		if kinds[kind] < 3000 {
			t.Errorf("found %v", kinds)
		}
	}
}

// The edges of what each kind reaches, of each size of a block, beside each other size.
func TestEdgesOfOtherBlocks(t *testing.T) {
	for _, s := range sizes {
		for _, x := range sizes {
			for _, edge := range []uint64{0, uint64(x.block), x.single, x.double, x.most} {
				for _, off := range edgesOf(edge) {
					r, e := blocks.Find(off, s.block)
					want, is := led(r, s.names, s.block)
					if off < s.most && (want != off || !is || e != api.OK) || off >= s.most && (r != (blocks.Road{}) || e != api.ErrLong) {
						t.Errorf("P1201: Find(%d, %d): %+v, %v", off, s.block, r, e)
					}
				}
			}
		}
	}
}

func TestTheSameCallsAnswerTheSame(t *testing.T) {
	rows := [2]strings.Builder{}
	for k := range rows {
		d := dice(14)
		for range 5000 {
			block := []int{64, 128, 256, 512, 1024, 0, 65}[d.below(7)]
			off := d.off()
			r, e := blocks.Find(off, block)
			x := blocks.Road{Kind: d.number(4), A: d.number(8), B: d.number(1), At: d.number(64)}
			back, f := blocks.Back(x, block)
			fmt.Fprintln(&rows[k], r, e, back, f, blocks.Most(block), blocks.Tables(off, block))
		}
	}
	if rows[0].String() != rows[1].String() {
		t.Error("P3: the same calls answer otherwise")
	}
}

// A call takes no longer for far bytes than for near ones.
func TestMuchEnds(t *testing.T) {
	for range 100000 {
		counted(t, math.MaxUint64, 1024, 258)
		there(t, 67379199, 1024, blocks.Road{Kind: 3, A: 255, B: 255, At: 1023})
		unreached(t, math.MaxUint64, 1024, api.ErrLong)
	}
}
