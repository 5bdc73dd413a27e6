package frame_test

import (
	"bytes"
	"encoding/binary"
	"fmt"
	"math"
	"slices"
	"testing"

	"loggia/api"
	"loggia/frame"
	"loggia/msg"
)

// road: four messages one behind the other, of sizes 7, 9, 8 and 7.
var road = []byte{
	7, 0, 0, 0, 1, 2, 3,
	9, 0, 0, 0, 4, 5, 6, 7, 8,
	8, 0, 0, 0, 9, 10, 11, 12,
	7, 0, 0, 0, 13, 14, 15,
}

var roadBodies = [][]byte{{1, 2, 3}, {4, 5, 6, 7, 8}, {9, 10, 11, 12}, {13, 14, 15}}

// wrongSizes: such as may not be, where most is 9.
var wrongSizes = [][]byte{{0, 0, 0, 0}, {1, 0, 0, 0}, {6, 0, 0, 0}, {10, 0, 0, 0}, {7, 1, 0, 0}, {7, 0, 1, 0}, {7, 0, 0, 1}, {7, 0, 0, 0x80}, {0xFF, 0xFF, 0xFF, 0xFF}}

func sameBodies(a, b [][]byte) bool { return slices.EqualFunc(a, b, bytes.Equal) }

// count: n bytes, such that no two neighbours are the same.
func count(n int) []byte {
	b := make([]byte, n)
	for k := range b {
		b[k] = byte(k%251 + 1)
	}
	return b
}

// sized: a size, and n bytes behind it.
func sized(size uint32, n int) []byte {
	return append(binary.LittleEndian.AppendUint32(nil, size), count(n)...)
}

func join(l ...[]byte) []byte { return bytes.Join(l, nil) }

// plain is a stream told the plain way: all that came since it was last cut, gone over from its first byte on.
type plain struct {
	came []byte
	dead bool
}

func (p *plain) feed(b []byte, most int) [][]byte {
	var l [][]byte
	if p.dead {
		return nil
	}
	p.came = join(p.came, b)
	for len(p.came) >= 4 {
		size := int(binary.LittleEndian.Uint32(p.came))
		if size < 7 || size > most {
			p.came, p.dead = nil, true
			return l
		}
		if len(p.came) < size {
			return l
		}
		l = append(l, bytes.Clone(p.came[4:size]))
		p.came = p.came[size:]
	}
	return l
}

// check feeds both and holds what they tell against each other.
func check(t *testing.T, what string, s *frame.Stream, p *plain, b []byte, most int) {
	t.Helper()
	got, want := s.Feed(b, most), p.feed(b, most)
	if !sameBodies(got, want) || s.Dead() != p.dead || s.Held() != len(p.came) {
		t.Fatalf("P601: %s: Feed(%v, %d): %v, dead %v, held %d, not %v, %v, %d", what, b, most, got, s.Dead(), s.Held(), want, p.dead, len(p.came))
	}
}

func TestWrap(t *testing.T) {
	for _, c := range []struct{ body, want []byte }{
		{nil, []byte{4, 0, 0, 0}},
		{[]byte{}, []byte{4, 0, 0, 0}},
		{[]byte{9}, []byte{5, 0, 0, 0, 9}},
		{[]byte{1, 2, 3}, []byte{7, 0, 0, 0, 1, 2, 3}},
		{[]byte{7, 0, 0, 0, 1, 2, 3}, []byte{11, 0, 0, 0, 7, 0, 0, 0, 1, 2, 3}},
	} {
		if b, e := frame.Wrap(c.body); e != api.OK || !bytes.Equal(b, c.want) {
			t.Errorf("P601: Wrap(%v): %v, %v, not %v", c.body, b, e, c.want)
		}
	}
}

func TestWrapOfEachLength(t *testing.T) {
	for n := 0; n <= api.MaxMsize+300; n++ {
		b, e := frame.Wrap(count(n))
		switch {
		case n+4 > api.MaxMsize && (e != api.ErrLong || len(b) != 0):
			t.Fatalf("P601: Wrap of %d bytes: %d bytes, %v", n, len(b), e)
		case n+4 <= api.MaxMsize && (e != api.OK || !bytes.Equal(b, sized(uint32(n+4), n))):
			t.Fatalf("P601: Wrap of %d bytes: %d bytes, %v", n, len(b), e)
		}
	}
}

func TestWrapOfFarTooMuch(t *testing.T) {
	for _, n := range []int{1<<16 - 4, 1 << 16, 1<<16 + 3, 1 << 20, 1<<24 + 1} {
		if b, e := frame.Wrap(make([]byte, n)); e != api.ErrLong || len(b) != 0 {
			t.Errorf("P601: Wrap of %d bytes: %d bytes, %v", n, len(b), e)
		}
	}
}

func TestWrapLeavesAndSharesNothing(t *testing.T) {
	room := count(64)
	for _, n := range []int{0, 3, 20, 60} {
		body := room[:n]
		b, _ := frame.Wrap(body)
		again, _ := frame.Wrap(body)
		if !bytes.Equal(room, count(64)) {
			t.Fatalf("P2: Wrap of %d bytes changed them: %v", n, room)
		}
		want := bytes.Clone(b)
		for k := range b[:cap(b)] {
			b[:cap(b)][k] = 0xEE
		}
		if !bytes.Equal(room, count(64)) || !bytes.Equal(again, want) {
			t.Errorf("P2: what Wrap of %d bytes told shares memory", n)
		}
		if b, e := frame.Wrap(body); e != api.OK || !bytes.Equal(b, want) {
			t.Errorf("P3: Wrap of %d bytes, again: %v, %v", n, b, e)
		}
	}
}

func TestNewIsEmpty(t *testing.T) {
	s := frame.New()
	if s.Dead() || s.Held() != 0 {
		t.Errorf("P601: a new stream: dead %v, held %d", s.Dead(), s.Held())
	}
	for _, b := range [][]byte{nil, {}} {
		for _, most := range []int{0, 9, -1, math.MinInt, math.MaxInt} {
			if l := s.Feed(b, most); len(l) != 0 || s.Dead() || s.Held() != 0 {
				t.Errorf("P601: Feed of nothing, most %d: %v, dead %v, held %d", most, l, s.Dead(), s.Held())
			}
		}
	}
}

func TestNewIsNobodyElses(t *testing.T) {
	a, b := frame.New(), frame.New()
	a.Feed(road[:5], 9)
	if b.Held() != 0 || a.Held() != 5 {
		t.Errorf("P7: held %d and %d, not 5 and 0", a.Held(), b.Held())
	}
	a.Feed([]byte{0, 0, 9, 9, 9, 9, 9}, 9)
	if !a.Dead() || b.Dead() {
		t.Errorf("P7: dead %v and %v", a.Dead(), b.Dead())
	}
}

func TestFeedAtOnce(t *testing.T) {
	s := frame.New()
	if l := s.Feed(road, 9); !sameBodies(l, roadBodies) || s.Dead() || s.Held() != 0 {
		t.Errorf("P601: %v, dead %v, held %d", l, s.Dead(), s.Held())
	}
}

// heldAt: how many bytes of road wait behind its first n.
var heldAt = []int{
	0, 1, 2, 3, 4, 5, 6,
	0, 1, 2, 3, 4, 5, 6, 7, 8,
	0, 1, 2, 3, 4, 5, 6, 7,
	0, 1, 2, 3, 4, 5, 6, 0,
}

// wholeAt: how many bodies are whole by the first n bytes of road.
func wholeAt(n int) int {
	switch {
	case n < 7:
		return 0
	case n < 16:
		return 1
	case n < 24:
		return 2
	case n < 31:
		return 3
	}
	return 4
}

func TestFeedByteByByte(t *testing.T) {
	s := frame.New()
	for k := range road {
		l := s.Feed(road[k:k+1], 9)
		if want := roadBodies[wholeAt(k):wholeAt(k+1)]; !sameBodies(l, want) || s.Dead() || s.Held() != heldAt[k+1] {
			t.Errorf("P601: byte %d: %v, dead %v, held %d, not %v, %d", k, l, s.Dead(), s.Held(), want, heldAt[k+1])
		}
	}
}

func TestFeedCutAtEachTwoPlaces(t *testing.T) {
	for i := range len(road) + 1 {
		for j := i; j <= len(road); j++ {
			s := frame.New()
			from := 0
			for _, to := range []int{i, j, len(road)} {
				l := s.Feed(road[from:to], 9)
				if want := roadBodies[wholeAt(from):wholeAt(to)]; !sameBodies(l, want) || s.Dead() || s.Held() != heldAt[to] {
					t.Fatalf("P601: cut at %d and %d: %v, dead %v, held %d, not %v, %d", i, j, l, s.Dead(), s.Held(), want, heldAt[to])
				}
				from = to
			}
		}
	}
}

func TestFeedOfNothingBetween(t *testing.T) {
	for n := range len(road) + 1 {
		s := frame.New()
		s.Feed(road[:n], 9)
		for range 2 {
			if l := s.Feed(nil, 9); len(l) != 0 || s.Dead() || s.Held() != heldAt[n] {
				t.Errorf("P601: nothing behind %d bytes: %v, dead %v, held %d", n, l, s.Dead(), s.Held())
			}
		}
		if l := s.Feed(road[n:], 9); !sameBodies(l, roadBodies[wholeAt(n):]) {
			t.Errorf("P601: behind %d bytes and nothing: %v", n, l)
		}
	}
}

func TestFeedOfWhatWrapMade(t *testing.T) {
	var all []byte
	var want [][]byte
	for _, n := range []int{3, 4, 251, 252, 253, 508, 4092, 8187, 8188, 3} {
		b, _ := frame.Wrap(count(n))
		all = append(all, b...)
		want = append(want, count(n))
	}
	for _, step := range []int{1, 2, 3, 4, 5, 7, 100, 8192, 8193, len(all)} {
		s := frame.New()
		var got [][]byte
		for b := range slices.Chunk(all, step) {
			got = append(got, s.Feed(b, api.MaxMsize)...)
		}
		if !sameBodies(got, want) || s.Dead() || s.Held() != 0 {
			t.Errorf("P601: %d bytes at a time: %d bodies, dead %v, held %d", step, len(got), s.Dead(), s.Held())
		}
	}
}

func TestFeedOfMessages(t *testing.T) {
	sent := []msg.Msg{{Type: msg.Tversion, Tag: api.NoTag, Msize: 8192, Version: "9P2000"}, {Type: msg.Rflush, Tag: 3}, {Type: msg.Twalk, Fid: 1, New: 2, Names: []string{"a", "b"}}, {Type: msg.Rread, Data: count(8181)}}
	s := frame.New()
	for _, m := range sent {
		body, _ := msg.Encode(m)
		b, e := frame.Wrap(body)
		l := s.Feed(b, api.MaxMsize)
		if e != api.OK || len(l) != 1 {
			t.Fatalf("P601: a message of type %d: %v, %d bodies", m.Type, e, len(l))
		}
		if x, e := msg.Decode(l[0]); e != api.OK || !msg.Same(x, m) {
			t.Errorf("P601: a message of type %d came as %+v, %v", m.Type, x, e)
		}
	}
}

func TestSizesBelowTheLeast(t *testing.T) {
	for size := range uint32(7) {
		for _, most := range []int{99, api.MaxMsize, math.MaxInt} {
			s := frame.New()
			if l := s.Feed(sized(size, 0), most); len(l) != 0 || !s.Dead() || s.Held() != 0 {
				t.Errorf("P601: size %d, most %d: %v, dead %v, held %d", size, most, l, s.Dead(), s.Held())
			}
		}
	}
	for n := range 3 {
		b, _ := frame.Wrap(count(n))
		s := frame.New()
		if l := s.Feed(b, 99); len(l) != 0 || !s.Dead() {
			t.Errorf("P601: a body of %d bytes: %v, dead %v", n, l, s.Dead())
		}
	}
}

func TestSizesAtMost(t *testing.T) {
	for most := 5; most <= 300; most++ {
		for size := 0; size <= 301; size++ {
			may := size >= 7 && size <= most
			s := frame.New()
			s.Feed(sized(uint32(size), 0), most)
			if held := s.Held(); s.Dead() == may || may && held != 4 || !may && held != 0 {
				t.Fatalf("P601: size %d, most %d: dead %v, held %d", size, most, s.Dead(), held)
			}
			l := s.Feed(count(max(size-4, 0)), most)
			if may && !sameBodies(l, [][]byte{count(size - 4)}) || !may && len(l) != 0 || s.Held() != 0 {
				t.Fatalf("P601: size %d, most %d: %v, held %d", size, most, l, s.Held())
			}
		}
	}
}

func TestMostBelowTheLeast(t *testing.T) {
	for _, most := range []int{6, 4, 1, 0, -1, -5, math.MinInt32, math.MinInt} {
		for _, size := range []uint32{0, 6, 7, 8, 1 << 31, math.MaxUint32} {
			s := frame.New()
			if s.Feed(sized(size, 0)[:3], most); s.Dead() || s.Held() != 3 {
				t.Errorf("P601: most %d, three bytes: dead %v, held %d", most, s.Dead(), s.Held())
			}
			if l := s.Feed(sized(size, 3)[3:], most); len(l) != 0 || !s.Dead() || s.Held() != 0 {
				t.Errorf("P601: most %d, size %d: %v, dead %v, held %d", most, size, l, s.Dead(), s.Held())
			}
		}
	}
}

// Each of a size's 32 bits counts, and a most that is wider than a size lets all of them be.
func TestEachBitOfASize(t *testing.T) {
	for k := 3; k < 32; k++ {
		size := uint32(1) << k
		for _, c := range []struct {
			most int
			dead bool
		}{{1 << k, false}, {1<<k - 1, true}, {1<<k + 1, false}, {math.MaxInt, false}, {1<<32 + 7, false}} {
			s := frame.New()
			l := s.Feed(sized(size, 3), c.most)
			if len(l) != 0 || s.Dead() != c.dead || !c.dead && s.Held() != 7 || c.dead && s.Held() != 0 {
				t.Errorf("P601: size %d, most %d: %v, dead %v, held %d", size, c.most, l, s.Dead(), s.Held())
			}
		}
	}
	s := frame.New()
	if s.Feed(sized(math.MaxUint32, 0), math.MaxUint32-1); !s.Dead() {
		t.Errorf("P601: the greatest size is above most, and the stream lives")
	}
	s = frame.New()
	if l := s.Feed(sized(math.MaxUint32, 9), math.MaxUint32); len(l) != 0 || s.Dead() || s.Held() != 13 {
		t.Errorf("P601: the greatest size is most: %v, dead %v, held %d", l, s.Dead(), s.Held())
	}
}

func TestBodiesBeyondMaxMsize(t *testing.T) {
	for _, n := range []int{api.MaxMsize - 3, 1 << 16, 1<<16 + 1, 1<<24 + 7} {
		s := frame.New()
		if l := s.Feed(append(sized(uint32(n+4), n), 1, 2), n+4); !sameBodies(l, [][]byte{count(n)}) || s.Dead() || s.Held() != 2 {
			t.Errorf("P601: a body of %d bytes, which most allows: %d bodies, dead %v, held %d", n, len(l), s.Dead(), s.Held())
		}
	}
}

// A wrong size ends the stream by its fourth byte, not ahead of it, and not by what is behind it.
func TestWrongSizeAsSoonAsItIsThere(t *testing.T) {
	for _, w := range wrongSizes {
		s := frame.New()
		for k := range w {
			if s.Dead() || s.Held() != k {
				t.Errorf("P601: %v, %d bytes of it: dead %v, held %d", w, k, s.Dead(), s.Held())
			}
			if l := s.Feed(w[k:k+1], 9); len(l) != 0 {
				t.Errorf("P601: %v: %v", w, l)
			}
		}
		if !s.Dead() || s.Held() != 0 {
			t.Errorf("P601: %v: dead %v, held %d", w, s.Dead(), s.Held())
		}
	}
}

func TestWhatWasWholeAheadIsTold(t *testing.T) {
	for _, w := range wrongSizes {
		for _, behind := range [][]byte{nil, {1}, {1, 2, 3}, road} {
			for whole, at := range []int{0, 7, 16, 24, 31} {
				b := join(road[:at], w, behind)
				for cut := range at + 5 {
					s := frame.New()
					l := s.Feed(b[:cut], 9)
					l = append(l, s.Feed(b[cut:], 9)...)
					if !sameBodies(l, roadBodies[:whole]) || !s.Dead() || s.Held() != 0 {
						t.Fatalf("P601: %v behind %d messages, cut at %d: %v, dead %v, held %d", w, whole, cut, l, s.Dead(), s.Held())
					}
				}
			}
		}
	}
}

func TestDeadTakesAndHoldsNothing(t *testing.T) {
	for _, w := range wrongSizes {
		s := frame.New()
		s.Feed(join(road[:16], w, road), 9)
		if !s.Dead() {
			t.Fatalf("P601: %v: it lives", w)
		}
		for _, b := range [][]byte{nil, {1}, road, road[:5], road[5:], w, {7}, {0, 0, 0}} {
			for _, most := range []int{9, math.MaxInt, 0, -1} {
				if l := s.Feed(b, most); len(l) != 0 || !s.Dead() || s.Held() != 0 {
					t.Errorf("P601: dead of %v, Feed(%v, %d): %v, dead %v, held %d", w, b, most, l, s.Dead(), s.Held())
				}
			}
		}
	}
}

func TestMostIsThisFeeds(t *testing.T) {
	for _, c := range []struct {
		what        string
		first       []byte
		most        int
		second      []byte
		then        int
		want        [][]byte
		dead        bool
		held        int
		firstBodies [][]byte
	}{
		{"less, the size is held", road[:6], 99, road[6:], 8, roadBodies[:1], true, 0, nil},
		{"less than the size that is held", road[:6], 99, road[6:], 6, nil, true, 0, nil},
		{"just the size that is held", road[:6], 99, road[6:7], 7, roadBodies[:1], false, 0, nil},
		{"less than the size, of which a part is held", road[:3], 99, road[3:4], 6, nil, true, 0, nil},
		{"more, a part of the size is held", road[:3], 6, road[3:], 9, roadBodies, false, 0, nil},
		{"less, all was cut", road[:7], 99, road[7:12], 8, nil, true, 0, roadBodies[:1]},
		{"less, and no byte comes", road[:12], 9, nil, 8, nil, true, 0, roadBodies[:1]},
		{"less, and no byte comes to a part of a size", road[:10], 9, nil, 0, nil, false, 3, roadBodies[:1]},
		{"more, all was cut", road[:7], 7, road[7:17], 9, roadBodies[1:2], false, 1, roadBodies[:1]},
		{"more, too late", road[:12], 8, road[12:], 99, nil, true, 0, roadBodies[:1]},
	} {
		s := frame.New()
		if l := s.Feed(c.first, c.most); !sameBodies(l, c.firstBodies) {
			t.Errorf("P601: most %d, then %s: %v, not %v", c.most, c.what, l, c.firstBodies)
		}
		if l := s.Feed(c.second, c.then); !sameBodies(l, c.want) || s.Dead() != c.dead || s.Held() != c.held {
			t.Errorf("P601: most %d, then %s: %v, dead %v, held %d, not %v, %v, %d", c.most, c.what, l, s.Dead(), s.Held(), c.want, c.dead, c.held)
		}
	}
}

func TestTwinGoesItsOwnWay(t *testing.T) {
	for n := range len(road) + 1 {
		for _, first := range []bool{false, true} {
			a := frame.New()
			a.Feed(road[:n], 9)
			b := a.Twin()
			if b.Dead() || b.Held() != heldAt[n] || a.Held() != heldAt[n] {
				t.Fatalf("P601: a twin behind %d bytes: dead %v, held %d; of %d", n, b.Dead(), b.Held(), a.Held())
			}
			if first {
				a, b = b, a
			}
			// The bytes that come to the one differ from those that come to the other.
			other := bytes.Repeat([]byte{9, 0, 0, 0, 77, 77, 77, 77, 77}, 4)
			p := &plain{came: bytes.Clone(road[n-heldAt[n] : n])}
			q := &plain{came: bytes.Clone(road[n-heldAt[n] : n])}
			for k := range max(len(road)-n, 8) {
				check(t, "twin", a, p, other[k:k+1], 99)
				check(t, "twin", b, q, road[min(n+k, len(road)):min(n+k+1, len(road))], 9)
			}
		}
	}
}

func TestTwinLivesAndDiesAlone(t *testing.T) {
	for _, n := range []int{0, 3, 5, 9, 16} {
		a := frame.New()
		a.Feed(road[:n], 9)
		b := a.Twin()
		a.Feed(sized(0, 0), 0)
		a.Feed(sized(0, 0), 0)
		if !a.Dead() || b.Dead() || b.Held() != heldAt[n] {
			t.Errorf("P601: behind %d bytes: dead %v, its twin %v, held %d", n, a.Dead(), b.Dead(), b.Held())
		}
		if l := b.Feed(road[n:], 9); !sameBodies(l, roadBodies[wholeAt(n):]) || b.Dead() {
			t.Errorf("P601: the twin of one that died, behind %d bytes: %v", n, l)
		}
	}
}

func TestTwinOfTheDead(t *testing.T) {
	a := frame.New()
	a.Feed([]byte{6, 0, 0, 0}, 99)
	b := a.Twin()
	if l := b.Feed(road, 99); len(l) != 0 || !b.Dead() || b.Held() != 0 || !b.Twin().Dead() {
		t.Errorf("P601: the twin of a dead stream: %v, dead %v, held %d", l, b.Dead(), b.Held())
	}
}

func TestTwinOfATwin(t *testing.T) {
	a := frame.New()
	a.Feed(road[:9], 9)
	b := a.Twin()
	b.Feed(road[9:12], 9)
	c := b.Twin()
	if a == b || b == c || a == c {
		t.Fatal("P7: a twin is the stream itself")
	}
	c.Feed(road[12:14], 9)
	if a.Held() != 2 || b.Held() != 5 || c.Held() != 7 {
		t.Errorf("P601: held %d, %d, %d, not 2, 5, 7", a.Held(), b.Held(), c.Held())
	}
	if l := frame.New().Twin().Feed(road, 9); !sameBodies(l, roadBodies) {
		t.Errorf("P601: the twin of a new stream: %v", l)
	}
}

// spoil writes over all of b, its spare room too.
func spoil(b []byte) {
	for k := range b[:cap(b)] {
		b[:cap(b)][k] = 0xEE
	}
}

func TestFeedLeavesAndKeepsNothing(t *testing.T) {
	for n := range len(road) + 1 {
		for m := n; m <= len(road); m++ {
			s := frame.New()
			room := append(bytes.Clone(road), count(40)...)
			want := bytes.Clone(room)
			l := s.Feed(room[:n], 9)
			l = append(l, s.Feed(room[n:m], 9)...)
			if !bytes.Equal(room, want) {
				t.Fatalf("P2: Feed of %d and %d bytes changed what came: %v", n, m-n, room)
			}
			spoil(room)
			l = append(l, s.Feed(road[m:], 9)...)
			if !sameBodies(l, roadBodies) {
				t.Fatalf("P2: what came in %d and %d bytes was kept: %v", n, m-n, l)
			}
		}
	}
}

func TestBodiesAreNew(t *testing.T) {
	for n := range len(road) + 1 {
		s := frame.New()
		came := bytes.Clone(road)
		w := frame.New()
		l := s.Feed(came[:n], 9)
		w.Feed(came[:n], 9)
		twin := s.Twin()
		for k, b := range l {
			spoil(b)
			if !sameBodies(l[k+1:], roadBodies[k+1:wholeAt(n)]) {
				t.Fatalf("P2: two bodies of %d bytes share memory: %v", n, l)
			}
		}
		clear(l[:cap(l)])
		if !bytes.Equal(came, road) {
			t.Fatalf("P2: a body of %d bytes shares memory with them", n)
		}
		for what, s := range map[string]*frame.Stream{"itself": s, "its twin": twin, "another": w} {
			if l := s.Feed(came[n:], 9); !sameBodies(l, roadBodies[wholeAt(n):]) || s.Held() != 0 {
				t.Fatalf("P2: a body of %d bytes shares memory with the stream; %s tells %v", n, what, l)
			}
		}
	}
}

// What is told later leaves what was told ahead as it was.
func TestBodiesStay(t *testing.T) {
	s := frame.New()
	var l [][]byte
	for range 3 {
		for k := range road {
			l = append(l, s.Feed(road[k:k+1], 9)...)
		}
		l = append(l, s.Feed(road, 9)...)
	}
	s.Feed([]byte{0, 0, 0, 0}, 9)
	if want := slices.Repeat(roadBodies, 6); !sameBodies(l, want) {
		t.Errorf("P2: %v, not %v", l, want)
	}
}

func TestAskingChangesNothing(t *testing.T) {
	for n := range len(road) + 1 {
		s := frame.New()
		s.Feed(road[:n], 9)
		for range 3 {
			if s.Dead() || s.Held() != heldAt[n] || s.Twin().Held() != heldAt[n] {
				t.Errorf("P601: behind %d bytes, asked again: dead %v, held %d", n, s.Dead(), s.Held())
			}
		}
		if l := s.Feed(road[n:], 9); !sameBodies(l, roadBodies[wholeAt(n):]) {
			t.Errorf("P601: behind %d bytes and questions: %v", n, l)
		}
	}
}

// dice: the same numbers at each run.
type dice uint64

func (d *dice) below(n int) int {
	*d = *d*6364136223846793005 + 1442695040888963407
	return int(uint64(*d)>>33) % n
}

// aRoad: messages of small sizes, of which some may not be, and their bytes.
func aRoad(d *dice) []byte {
	var b []byte
	for range d.below(8) {
		size := 7 + d.below(20)
		switch d.below(12) {
		case 0:
			size = d.below(9)
		case 1:
			size = 7 + d.below(300)
		}
		b = append(b, sized(uint32(size), max(size-4, 0))...)
	}
	return b[:len(b)-d.below(len(b)/4+1)]
}

func TestAgainstThePlainWay(t *testing.T) {
	d := dice(1)
	died, whole := 0, 0
	for n := range 20000 {
		s, p := frame.New(), &plain{}
		for b := aRoad(&d); len(b) > 0; {
			k := 1 + d.below(len(b))
			if d.below(3) > 0 {
				k = min(k, 1+d.below(6))
			}
			most := 27 + d.below(3)*100 - d.below(2)*d.below(20)
			check(t, fmt.Sprint("road ", n), s, p, b[:k], most)
			b = b[k:]
			if d.below(5) == 0 {
				s = s.Twin()
			}
		}
		if p.dead {
			died++
		} else if len(p.came) == 0 {
			whole++
		}
	}
	if died < 1000 || whole < 1000 {
		t.Errorf("the roads are too much the same: of 20000 %d died, %d came whole", died, whole)
	}
}

// A road of many messages, and one long message in many pieces, end in good time.
func TestMuchEnds(t *testing.T) {
	const many = 200000
	s := frame.New()
	if l := s.Feed(bytes.Repeat(road[:7], many), 7); len(l) != many || s.Held() != 0 {
		t.Errorf("P1: %d bodies, held %d", len(l), s.Held())
	}
	one := sized(many+4, many)
	var l [][]byte
	for k := range one {
		l = append(l, s.Feed(one[k:k+1], len(one))...)
	}
	if !sameBodies(l, [][]byte{one[4:]}) || s.Held() != 0 {
		t.Errorf("P1: a long body a byte at a time: %d bodies, held %d", len(l), s.Held())
	}
}
