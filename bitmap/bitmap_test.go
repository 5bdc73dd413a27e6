package bitmap_test

import (
	"bytes"
	"fmt"
	"math"
	"slices"
	"strings"
	"testing"

	"loggia/api"
	"loggia/bitmap"
)

// most: the most places that a map may have.
const most = 65536

// wrongCounts: numbers of places that may not be.
var wrongCounts = []int{0, -1, -2, -8, -64, -65536, 65537, 65538, 1 << 17, 1<<32 + 1, math.MaxInt, math.MinInt}

// counts: numbers of places that fill their last byte, or eight of them, and one less and one more.
var counts = []int{1, 2, 7, 8, 9, 15, 16, 17, 31, 32, 33, 63, 64, 65, 71, 72, 73, 127, 128, 129, 1000, 4095, 4096, 4097, 65527, 65528, 65529, 65535, 65536}

// few: those of counts that are small enough to go over each of their places and runs.
var few = counts[:20]

// plain is a map told the plain way: a mark for each place.
type plain []bool

func (p plain) run(n int) (int, api.Errno) {
	if n < 1 {
		return 0, api.ErrArg
	}
	for at := 0; at < len(p) && n <= len(p)-at; at++ {
		if !slices.Contains(p[at:at+n], true) {
			for k := range n {
				p[at+k] = true
			}
			return at, api.OK
		}
	}
	return 0, api.ErrFull
}

// mark marks place i, or takes its mark away, and tells whether it was otherwise.
func (p plain) mark(i int, as bool) bool {
	if i < 0 || i >= len(p) || p[i] == as {
		return false
	}
	p[i] = as
	return true
}

func (p plain) has(i int) bool { return i >= 0 && i < len(p) && p[i] }

func (p plain) free() int {
	n := 0
	for _, is := range p {
		if !is {
			n++
		}
	}
	return n
}

func (p plain) bytes() []byte {
	b := make([]byte, (len(p)+7)/8)
	for i, is := range p {
		if is {
			b[i/8] += []byte{1, 2, 4, 8, 16, 32, 64, 128}[i%8]
		}
	}
	return b
}

// marks: a place for each letter, '#' one that is taken.
func marks(s string) plain {
	p := make(plain, len(s))
	for i := range p {
		p[i] = s[i] == '#'
	}
	return p
}

// picture is marks back.
func picture(p plain) string {
	var out strings.Builder
	for _, is := range p {
		out.WriteByte(map[bool]byte{true: '#', false: '.'}[is])
	}
	return out.String()
}

// empty: a map of n places, all free.
func empty(t testing.TB, n int) *bitmap.Map {
	t.Helper()
	m, e := bitmap.New(n)
	if e != api.OK || m == nil {
		t.Fatalf("P901: New(%d): %v", n, e)
	}
	return m
}

// load: a map of such marks, by Load.
func load(t testing.TB, p plain) *bitmap.Map {
	t.Helper()
	m, e := bitmap.Load(p.bytes(), len(p))
	if e != api.OK || m == nil {
		t.Fatalf("P901: Load of %s: %v", picture(p), e)
	}
	return m
}

// of: a map of such marks, by Load.
func of(t testing.TB, s string) *bitmap.Map {
	t.Helper()
	return load(t, marks(s))
}

// told: the marks that Has tells of a map of n places.
func told(m *bitmap.Map, n int) plain {
	p := make(plain, n)
	for i := range p {
		p[i] = m.Has(i)
	}
	return p
}

// outside: places that a map of n has not.
func outside(n int) []int {
	l := []int{-1, -2, -8, -63, -64, -65, -n, -n - 1, n, n + 1, n + 7, n + 8, n + 63, n + 64, 2 * n, most, most + 1, 1 << 32, 1<<32 + n - 1, math.MaxInt, math.MaxInt - 1, math.MinInt, math.MinInt + 1}
	return slices.DeleteFunc(l, func(i int) bool { return i >= 0 && i < n })
}

// same holds all that can be asked of m against p.
func same(t testing.TB, what string, m *bitmap.Map, p plain) {
	t.Helper()
	if got := told(m, len(p)); !slices.Equal(got, p) {
		t.Fatalf("P901: %s: Has tells\n%s, not\n%s", what, picture(got), picture(p))
	}
	if got := m.Bytes(); !bytes.Equal(got, p.bytes()) {
		t.Fatalf("P901: %s: Bytes %08b, not %08b", what, got, p.bytes())
	}
	if m.Free() != p.free() {
		t.Fatalf("P901: %s: Free %d, not %d", what, m.Free(), p.free())
	}
	for _, i := range outside(len(p)) {
		if m.Has(i) {
			t.Fatalf("P901: %s: Has(%d) of %d places", what, i, len(p))
		}
	}
}

// got holds what Take or Run answered against what it should.
func got(t testing.TB, what string, at int, e api.Errno, wantAt int, want api.Errno) {
	t.Helper()
	if at != wantAt || e != want {
		t.Fatalf("P901: %s: %d, %v, not %d, %v", what, at, e, wantAt, want)
	}
}

func TestNewOfEachCount(t *testing.T) {
	for _, n := range counts {
		same(t, fmt.Sprintf("New(%d)", n), empty(t, n), make(plain, n))
	}
	for n := 1; n <= most; n += 61 {
		if m := empty(t, n); m.Free() != n || len(m.Bytes()) != (n+7)/8 {
			t.Errorf("P901: New(%d): Free %d, %d bytes", n, m.Free(), len(m.Bytes()))
		}
	}
}

func TestNewRefuses(t *testing.T) {
	for _, n := range wrongCounts {
		if m, e := bitmap.New(n); e != api.ErrArg || m != nil {
			t.Errorf("P901: New(%d): %v, a map: %v", n, e, m != nil)
		}
	}
}

func TestNewIsNobodyElses(t *testing.T) {
	a, b := empty(t, 70), empty(t, 70)
	a.Set(3)
	a.Run(65)
	same(t, "another", b, make(plain, 70))
}

func TestTakeOneByOne(t *testing.T) {
	for _, n := range few {
		m, p := empty(t, n), make(plain, n)
		for i := range n {
			at, e := m.Take()
			got(t, fmt.Sprintf("Take %d of %d", i, n), at, e, i, api.OK)
			p[i] = true
			same(t, fmt.Sprintf("Take %d of %d", i, n), m, p)
		}
		for range 2 {
			at, e := m.Take()
			got(t, fmt.Sprintf("Take of all %d", n), at, e, 0, api.ErrFull)
			same(t, fmt.Sprintf("Take of all %d", n), m, p)
		}
	}
}

func TestTakeWhatWasCleared(t *testing.T) {
	for _, n := range few {
		full := slices.Repeat(plain{true}, n)
		for i := range n {
			m := load(t, full)
			if !m.Clear(i) || m.Free() != 1 {
				t.Fatalf("P901: Clear(%d) of %d: Free %d", i, n, m.Free())
			}
			at, e := m.Take()
			got(t, fmt.Sprintf("Take behind Clear(%d) of %d", i, n), at, e, i, api.OK)
			at, e = m.Take()
			got(t, fmt.Sprintf("Take of all %d", n), at, e, 0, api.ErrFull)
			same(t, fmt.Sprintf("Take behind Clear(%d)", i), m, full)
		}
	}
}

func TestTakeTheLeast(t *testing.T) {
	m := load(t, slices.Repeat(plain{true}, 200))
	for _, i := range []int{199, 0, 64, 128, 63, 7, 127, 8} {
		m.Clear(i)
	}
	for k, want := range []int{0, 7, 8, 63, 64, 127, 128, 199} {
		at, e := m.Take()
		got(t, fmt.Sprintf("Take %d", k), at, e, want, api.OK)
	}
	m.Clear(150)
	at, e := m.Take()
	got(t, "Take behind a Clear", at, e, 150, api.OK)
	m.Clear(70)
	m.Clear(3)
	at, e = m.Take()
	got(t, "Take behind two", at, e, 3, api.OK)
	at, e = m.Take()
	got(t, "Take, the other", at, e, 70, api.OK)
	at, e = m.Take()
	got(t, "Take of none", at, e, 0, api.ErrFull)
}

func TestRun(t *testing.T) {
	for _, c := range []struct {
		ahead  string
		n, at  int
		want   api.Errno
		behind string
	}{
		{".", 1, 0, api.OK, "#"},
		{"#", 1, 0, api.ErrFull, "#"},
		{"....", 1, 0, api.OK, "#..."},
		{"....", 3, 0, api.OK, "###."},
		{"....", 4, 0, api.OK, "####"},
		{"....", 5, 0, api.ErrFull, "...."},
		{"#...", 3, 1, api.OK, "####"},
		{"#...", 4, 0, api.ErrFull, "#..."},
		{"...#", 3, 0, api.OK, "####"},
		{"...#", 4, 0, api.ErrFull, "...#"},
		{".#.#.", 1, 0, api.OK, "##.#."},
		{".#.#.", 2, 0, api.ErrFull, ".#.#."},
		{".#.#..", 2, 4, api.OK, ".#.###"},
		{".#..#...#....", 2, 2, api.OK, ".####...#...."},
		{".#..#...#....", 3, 5, api.OK, ".#..#####...."},
		{".#..#...#....", 4, 9, api.OK, ".#..#...#####"},
		{".#..#...#....", 5, 0, api.ErrFull, ".#..#...#...."},
		{"....#...#..#.", 2, 0, api.OK, "##..#...#..#."},
		{"..#..#..", 2, 0, api.OK, "###..#.."},
		{"######..", 2, 6, api.OK, "########"},
		{"######..#", 2, 6, api.OK, "#########"},
		{"#######..", 2, 7, api.OK, "#########"},
		{"#######..", 3, 0, api.ErrFull, "#######.."},
	} {
		m := of(t, c.ahead)
		what := fmt.Sprintf("%s: Run(%d)", c.ahead, c.n)
		at, e := m.Run(c.n)
		got(t, what, at, e, c.at, c.want)
		same(t, what, m, marks(c.behind))
	}
}

func TestRunRefuses(t *testing.T) {
	for _, n := range few {
		for _, p := range []plain{make(plain, n), slices.Repeat(plain{true}, n), slices.Repeat(plain{false, true}, n)[:n]} {
			m := load(t, p)
			for _, k := range []int{0, -1, -2, -7, -8, -64, -n, -most, math.MinInt, math.MinInt + 1} {
				at, e := m.Run(k)
				got(t, fmt.Sprintf("%s: Run(%d)", picture(p), k), at, e, 0, api.ErrArg)
			}
			for _, k := range []int{n + 1, n + 7, n + 8, n + 64, 2*n + 1, most, most + 1, 1 << 32, 1<<32 + 1, 1<<62 + 1, math.MaxInt - n, math.MaxInt - 1, math.MaxInt} {
				at, e := m.Run(k)
				got(t, fmt.Sprintf("%s: Run(%d)", picture(p), k), at, e, 0, api.ErrFull)
			}
			same(t, "Runs that were refused", m, p)
		}
	}
}

func TestRunOfAll(t *testing.T) {
	for _, n := range counts {
		what := fmt.Sprintf("Run(%d) of all", n)
		m, full := empty(t, n), slices.Repeat(plain{true}, n)
		at, e := m.Run(n)
		got(t, what, at, e, 0, api.OK)
		same(t, what, m, full)
		for _, k := range []int{1, 2, n, n + 1, math.MaxInt} {
			at, e = m.Run(k)
			got(t, what+", again", at, e, 0, api.ErrFull)
		}
		at, e = m.Run(0)
		got(t, what+", then of 0", at, e, 0, api.ErrArg)
		at, e = m.Take()
		got(t, what+", then Take", at, e, 0, api.ErrFull)
		same(t, what+", again", m, full)
	}
}

// Each one hole of some places: the runs that fit begin where it does.
func TestRunInEachHole(t *testing.T) {
	for _, n := range []int{1, 8, 9, 63, 64, 65, 70, 128, 129} {
		for from := range n {
			for to := from + 1; to <= n; to++ {
				p := slices.Repeat(plain{true}, n)
				clear(p[from:to])
				m := load(t, p)
				at, e := m.Run(to - from + 1)
				got(t, fmt.Sprintf("%d free from %d on, one more", to-from, from), at, e, 0, api.ErrFull)
				at, e = m.Run(to - from)
				got(t, fmt.Sprintf("%d free from %d on", to-from, from), at, e, from, api.OK)
				if m.Free() != 0 {
					t.Fatalf("P901: %d free from %d on, taken: Free %d", to-from, from, m.Free())
				}
			}
		}
	}
}

// Each two places of a map are taken: the least run of each length is told, and ends at the last place too.
func TestRunBetweenEachTwo(t *testing.T) {
	for _, n := range []int{9, 17, 66, 130} {
		for i := 0; i < n; i += 1 + n/40 {
			for j := i; j < n; j += 1 + n/40 {
				for k := 1; k <= n; k += 1 + n/20 {
					p := make(plain, n)
					p[i], p[j] = true, true
					m := load(t, p)
					what := fmt.Sprintf("%d places, %d and %d taken: Run(%d)", n, i, j, k)
					at, e := m.Run(k)
					wantAt, want := p.run(k)
					got(t, what, at, e, wantAt, want)
					same(t, what, m, p)
				}
			}
		}
	}
}

// Each map of up to eleven places, and each run.
func TestRunOfEachSmallMap(t *testing.T) {
	for n := 1; n <= 11; n++ {
		for bits := range 1 << n {
			p := make(plain, n)
			for i := range p {
				p[i] = bits&(1<<i) != 0
			}
			for k := -1; k <= n+1; k++ {
				m, q := load(t, p), slices.Clone(p)
				at, e := m.Run(k)
				wantAt, want := q.run(k)
				if at != wantAt || e != want || !bytes.Equal(m.Bytes(), q.bytes()) || m.Free() != q.free() {
					t.Fatalf("P901: %s: Run(%d): %d, %v, %08b; not %d, %v, %08b", picture(p), k, at, e, m.Bytes(), wantAt, want, q.bytes())
				}
			}
			m, q := load(t, p), slices.Clone(p)
			at, e := m.Take()
			wantAt, want := q.run(1)
			if at != wantAt || e != want || !bytes.Equal(m.Bytes(), q.bytes()) {
				t.Fatalf("P901: %s: Take: %d, %v, %08b; not %d, %v, %08b", picture(p), at, e, m.Bytes(), wantAt, want, q.bytes())
			}
		}
	}
}

func TestRunsOneByOne(t *testing.T) {
	m := empty(t, 150)
	for k, c := range []struct {
		n, at int
		want  api.Errno
	}{{60, 0, api.OK}, {10, 60, api.OK}, {64, 70, api.OK}, {17, 0, api.ErrFull}, {16, 134, api.OK}, {1, 0, api.ErrFull}} {
		at, e := m.Run(c.n)
		got(t, fmt.Sprintf("Run %d, of %d", k, c.n), at, e, c.at, c.want)
	}
	for i := 55; i < 75; i++ {
		m.Clear(i)
	}
	for i := 140; i < 150; i++ {
		m.Clear(i)
	}
	for k, c := range []struct {
		n, at int
		want  api.Errno
	}{{21, 0, api.ErrFull}, {11, 55, api.OK}, {10, 140, api.OK}, {9, 66, api.OK}, {1, 0, api.ErrFull}} {
		at, e := m.Run(c.n)
		got(t, fmt.Sprintf("Run %d of what was cleared, of %d", k, c.n), at, e, c.at, c.want)
	}
	if m.Free() != 0 {
		t.Errorf("P901: Free %d of none", m.Free())
	}
}

func TestSetAndClearEachPlace(t *testing.T) {
	for _, n := range few {
		m, p := empty(t, n), make(plain, n)
		for _, as := range []bool{true, false} {
			for k := range n {
				i := k * 7 % n
				if n%7 == 0 {
					i = n - 1 - k
				}
				for again := range 3 {
					was := m.Clear
					if as {
						was = m.Set
					}
					if is := was(i); is != (again == 0) {
						t.Fatalf("P901: %d places, %d to %v, again %d: %v", n, i, as, again, is)
					}
					p[i] = as
					same(t, fmt.Sprintf("%d to %v", i, as), m, p)
				}
			}
		}
	}
}

func TestSetAndClearTellWhatWas(t *testing.T) {
	m := empty(t, 10)
	for k, c := range []struct {
		was  func(int) bool
		i    int
		want bool
		free int
	}{{m.Clear, 9, false, 10}, {m.Set, 9, true, 9}, {m.Set, 9, false, 9}, {m.Clear, 9, true, 10}, {m.Clear, 9, false, 10}, {m.Set, 0, true, 9}, {m.Set, 9, true, 8}, {m.Clear, 0, true, 9}, {m.Set, 10, false, 9}, {m.Clear, 10, false, 9}, {m.Set, -1, false, 9}, {m.Clear, -1, false, 9}} {
		if is := c.was(c.i); is != c.want || m.Free() != c.free {
			t.Errorf("P901: step %d: %v, Free %d; not %v, %d", k, is, m.Free(), c.want, c.free)
		}
	}
	m.Take()
	if m.Set(0) || !m.Clear(0) || !m.Set(0) {
		t.Error("P901: what Take took is not taken")
	}
	m.Run(3)
	if m.Set(1) || m.Set(2) || m.Set(3) || !m.Set(4) || !m.Clear(3) {
		t.Error("P901: what Run took is not taken")
	}
}

func TestSetAndClearOfNoPlace(t *testing.T) {
	for _, n := range counts {
		for _, p := range []plain{make(plain, n), slices.Repeat(plain{true}, n), slices.Repeat(plain{true, true, false}, n)[:n]} {
			m := load(t, p)
			for _, i := range outside(n) {
				if m.Set(i) || m.Clear(i) || m.Has(i) || m.Set(i) {
					t.Fatalf("P901: %d places: place %d is one", n, i)
				}
			}
			same(t, fmt.Sprintf("%d places, others asked", n), m, p)
		}
	}
}

// At the borders of large maps too: the first place, the last one, one behind it.
func TestBorders(t *testing.T) {
	for _, n := range counts {
		m := empty(t, n)
		if !m.Set(n-1) || m.Set(n) || m.Set(-1) || !m.Has(n-1) || m.Has(n) || m.Free() != n-1 {
			t.Errorf("P901: %d places: the last one: Free %d", n, m.Free())
		}
		b := m.Bytes()
		if want := byte(1) << ((n - 1) % 8); b[len(b)-1] != want || len(b) != (n+7)/8 {
			t.Errorf("P901: %d places: the last byte of %d: %08b, not %08b", n, len(b), b[len(b)-1], want)
		}
		at, e := m.Run(n)
		got(t, fmt.Sprintf("%d places, the last one taken: Run of all", n), at, e, 0, api.ErrFull)
		if n > 1 {
			at, e = m.Run(n - 1)
			got(t, fmt.Sprintf("%d places: Run of all but the last", n), at, e, 0, api.OK)
		}
		if !m.Clear(n-1) || m.Clear(n) || m.Free() != 1 {
			t.Errorf("P901: %d places: the last one cleared: Free %d", n, m.Free())
		}
		at, e = m.Run(2)
		got(t, fmt.Sprintf("%d places: Run of 2 at the last one", n), at, e, 0, api.ErrFull)
		at, e = m.Take()
		got(t, fmt.Sprintf("%d places: Take of the last one", n), at, e, n-1, api.OK)
		at, e = m.Take()
		got(t, fmt.Sprintf("%d places: Take behind the last one", n), at, e, 0, api.ErrFull)
	}
}

func TestBytes(t *testing.T) {
	for _, c := range []struct {
		places string
		want   []byte
	}{
		{".", []byte{0}},
		{"#", []byte{1}},
		{"#.......", []byte{0x01}},
		{".#......", []byte{0x02}},
		{".......#", []byte{0x80}},
		{"####....", []byte{0x0F}},
		{"########", []byte{0xFF}},
		{"########.", []byte{0xFF, 0}},
		{"........#", []byte{0, 1}},
		{"#.#.#.#.##..##..", []byte{0x55, 0x33}},
		{"#..#....#.#", []byte{0x09, 0x05}},
		{strings.Repeat(".", 63) + "##", []byte{0, 0, 0, 0, 0, 0, 0, 0x80, 1}},
		{"#" + strings.Repeat(".", 71) + "##", []byte{1, 0, 0, 0, 0, 0, 0, 0, 0, 3}},
	} {
		m := empty(t, len(c.places))
		for i, is := range marks(c.places) {
			if is {
				m.Set(i)
			}
		}
		if b := m.Bytes(); !bytes.Equal(b, c.want) {
			t.Errorf("P901: %s: %08b, not %08b", c.places, b, c.want)
		}
		w, e := bitmap.Load(c.want, len(c.places))
		if e != api.OK {
			t.Fatalf("P901: Load(%08b, %d): %v", c.want, len(c.places), e)
		}
		same(t, "Load", w, marks(c.places))
	}
}

func TestBytesOfEachPlace(t *testing.T) {
	for _, n := range few {
		for i := range n {
			m, want := empty(t, n), make([]byte, (n+7)/8)
			m.Set(i)
			want[i/8] = 1 << (i % 8)
			if b := m.Bytes(); !bytes.Equal(b, want) {
				t.Fatalf("P901: place %d of %d: %08b, not %08b", i, n, b, want)
			}
			w, e := bitmap.Load(want, n)
			if e != api.OK || !w.Has(i) || w.Free() != n-1 {
				t.Fatalf("P901: Load(%08b, %d): %v", want, n, e)
			}
		}
	}
}

func TestLoadBack(t *testing.T) {
	g := dice(3)
	for _, n := range counts {
		for range 20 {
			p := make(plain, n)
			for i := range p {
				p[i] = g.below(2) == 0
			}
			b := p.bytes()
			m, e := bitmap.Load(b, n)
			if e != api.OK {
				t.Fatalf("P901: Load of %d bytes, %d: %v", len(b), n, e)
			}
			if !bytes.Equal(m.Bytes(), b) || m.Free() != p.free() {
				t.Fatalf("P901: Load of %d bytes, %d: others back", len(b), n)
			}
			if n < 200 {
				same(t, "Load", m, p)
			}
		}
	}
}

// refused holds what Load answered against the error that it should.
func refused(t *testing.T, b []byte, n int, want api.Errno) {
	t.Helper()
	if m, e := bitmap.Load(b, n); e != want || m != nil {
		t.Errorf("P901: Load of %d bytes, %d: %v, a map: %v; not %v", len(b), n, e, m != nil, want)
	}
}

func TestLoadOfOtherLengths(t *testing.T) {
	for _, n := range counts {
		long := (n + 7) / 8
		for _, k := range []int{0, 1, 2, long - 2, long - 1, long + 1, long + 2, long + 7, long + 8, 2 * long, 8 * long, 8192, 8193} {
			if k >= 0 && k != long {
				refused(t, make([]byte, k), n, api.ErrForm)
			}
		}
		refused(t, nil, n, api.ErrForm)
	}
}

func TestLoadOfBitsBehind(t *testing.T) {
	for _, n := range counts {
		long := (n + 7) / 8
		for i := n; i < 8*long; i++ {
			for _, fill := range []byte{0, 0xFF} {
				b := bytes.Repeat([]byte{fill}, long)
				b[long-1] = byte(int(fill) & (1<<(n%8) - 1))
				if _, e := bitmap.Load(b, n); e != api.OK {
					t.Fatalf("P901: Load of bytes %02x, %d: %v", fill, n, e)
				}
				b[long-1] |= 1 << (i % 8)
				refused(t, b, n, api.ErrForm)
			}
		}
		if n%8 == 0 {
			m, e := bitmap.Load(bytes.Repeat([]byte{0xFF}, long), n)
			if e != api.OK || m.Free() != 0 {
				t.Errorf("P901: Load of a full map of %d: %v", n, e)
			}
		}
	}
}

// Each byte, as the only one of a map.
func TestLoadOfEachByte(t *testing.T) {
	for n := 1; n <= 8; n++ {
		for v := range 256 {
			b := []byte{byte(v)}
			m, e := bitmap.Load(b, n)
			switch {
			case v >= 1<<n && (e != api.ErrForm || m != nil):
				t.Errorf("P901: Load(%08b, %d): %v", v, n, e)
			case v < 1<<n && (e != api.OK || !bytes.Equal(m.Bytes(), b)):
				t.Errorf("P901: Load(%08b, %d): %v", v, n, e)
			}
		}
	}
}

// ErrArg is told ahead of ErrForm.
func TestLoadOfMoreThanOneError(t *testing.T) {
	for _, n := range wrongCounts {
		for _, b := range [][]byte{nil, {}, {0}, {0xFF}, make([]byte, 8192), bytes.Repeat([]byte{0xFF}, 8192), make([]byte, 8193), bytes.Repeat([]byte{0xFF}, 9000)} {
			refused(t, b, n, api.ErrArg)
		}
	}
	// Too long, and a bit behind the last place.
	refused(t, []byte{2, 0}, 1, api.ErrForm)
	refused(t, []byte{0xFF, 0xFF, 0xFF}, 9, api.ErrForm)
	refused(t, []byte{0xFF}, 9, api.ErrForm)
}

// spoil changes all of b, its spare room too.
func spoil(b []byte) {
	for k := range b[:cap(b)] {
		b[:cap(b)][k] ^= 0xA5
	}
}

func TestLoadLeavesAndKeepsNothing(t *testing.T) {
	for _, n := range []int{3, 8, 21, 64, 70, 200} {
		room := bytes.Repeat([]byte{0}, 64)
		for k := range room {
			room[k] = byte(k*37 + 11)
		}
		b := room[:(n+7)/8]
		b[len(b)-1] = 1
		old := bytes.Clone(room)
		m, e := bitmap.Load(b, n)
		if e != api.OK {
			t.Fatalf("P901: Load of %d places: %v", n, e)
		}
		p := told(m, n)
		m.Take()
		m.Set(n - 1)
		m.Clear(0)
		if !bytes.Equal(room, old) {
			t.Fatalf("P2: Load of %d places, or what was done to them, changed its bytes", n)
		}
		m, _ = bitmap.Load(b, n)
		spoil(b)
		same(t, "Load, its bytes spoilt", m, p)
		if bytes.Equal(b, old[:len(b)]) {
			t.Fatal("the bytes are not spoilt")
		}
	}
}

func TestBytesAreNew(t *testing.T) {
	for _, n := range []int{3, 8, 21, 64, 70, 200} {
		m, p := empty(t, n), make(plain, n)
		for i := 0; i < n; i += 2 {
			m.Set(i)
			p[i] = true
		}
		b, again := m.Bytes(), m.Bytes()
		w, _ := bitmap.Load(b, n)
		spoil(b)
		same(t, "Bytes spoilt", m, p)
		same(t, "Bytes spoilt, loaded ahead", w, p)
		if !bytes.Equal(again, p.bytes()) {
			t.Errorf("P2: two Bytes of %d places share memory", n)
		}
		m.Set(1)
		m.Clear(0)
		if !bytes.Equal(again, p.bytes()) {
			t.Errorf("P2: Bytes of %d places changed by Set and Clear", n)
		}
	}
}

func TestTwin(t *testing.T) {
	for _, n := range []int{2, 8, 21, 64, 70, 200} {
		m, p := empty(t, n), make(plain, n)
		m.Set(1)
		p[1] = true
		w, q := m.Twin(), slices.Clone(p)
		same(t, "a twin", w, q)
		m.Take()
		p[0] = true
		same(t, "one that was taken from", m, p)
		same(t, "its twin", w, q)
		w.Clear(1)
		q[1] = false
		same(t, "a twin that was cleared", w, q)
		same(t, "the first", m, p)
		x := w.Twin()
		at, e := w.Run(n)
		got(t, "a twin's Run", at, e, 0, api.OK)
		same(t, "a twin's twin", x, q)
		same(t, "a twin, full", w, slices.Repeat(plain{true}, n))
		same(t, "the first", m, p)
		at, e = x.Take()
		got(t, "a twin's twin's Take", at, e, 0, api.OK)
		if x.Set(n) || !x.Set(n-1) || x.Set(n-1) {
			t.Errorf("P901: a twin's twin has not %d places", n)
		}
	}
}

func TestTwinIsAnother(t *testing.T) {
	m := empty(t, 9)
	if m.Twin() == m {
		t.Error("P7: a twin is the map itself")
	}
}

// What a map tells hangs on its marks, not on how they came.
func TestAsItIsHoweverItCame(t *testing.T) {
	a, b, c := empty(t, 75), empty(t, 75), of(t, strings.Repeat("#", 70)+".....")
	for range 70 {
		a.Take()
	}
	b.Run(75)
	for i := 70; i < 75; i++ {
		b.Clear(i)
	}
	p := marks(strings.Repeat("#", 70) + ".....")
	for k, m := range []*bitmap.Map{a, b, c, a.Twin()} {
		same(t, fmt.Sprintf("map %d", k), m, p)
		at, e := m.Run(5)
		got(t, fmt.Sprintf("map %d", k), at, e, 70, api.OK)
	}
}

func TestAskingChangesNothing(t *testing.T) {
	m, p := of(t, ".#..#"), marks(".#..#")
	for range 5 {
		same(t, "asked again", m, p)
		m.Twin()
		m.Has(0)
	}
}

// A map that nobody made has no place.
func TestOneThatNobodyMade(t *testing.T) {
	var m bitmap.Map
	for _, x := range []*bitmap.Map{&m, m.Twin()} {
		at, e := x.Take()
		got(t, "Take of none", at, e, 0, api.ErrFull)
		at, e = x.Run(0)
		got(t, "Run(0) of none", at, e, 0, api.ErrArg)
		at, e = x.Run(math.MaxInt)
		got(t, "Run of none", at, e, 0, api.ErrFull)
		if x.Set(0) || x.Clear(0) || x.Has(0) || x.Set(-1) || x.Free() != 0 || len(x.Bytes()) != 0 {
			t.Error("P1: a map that nobody made has places")
		}
	}
}

// dice: the same numbers at each run.
type dice uint64

func (d *dice) below(n int) int {
	*d = *d*6364136223846793005 + 1442695040888963407
	return int(uint64(*d)>>33) % n
}

// pair: a map, and the plain row that was used as it was.
type pair struct {
	m *bitmap.Map
	p plain
}

// use does one thing to both, and tells what.
func (x pair) use(t *testing.T, g *dice) string {
	t.Helper()
	n := len(x.p)
	switch k := g.below(12); {
	case k < 2:
		at, e := x.m.Take()
		wantAt, want := x.p.run(1)
		got(t, "Take", at, e, wantAt, want)
		return "Take"
	case k < 5:
		c := g.below(12) - 1
		if g.below(4) == 0 {
			c = g.below(n + 3)
		}
		what := fmt.Sprintf("%s: Run(%d)", picture(x.p), c)
		at, e := x.m.Run(c)
		wantAt, want := x.p.run(c)
		got(t, what, at, e, wantAt, want)
		return what
	default:
		i, as, change := g.below(n+4)-2, false, x.m.Clear
		if k < 7 {
			as, change = true, x.m.Set
		}
		what := fmt.Sprintf("%s: %d to %v", picture(x.p), i, as)
		if is, want := change(i), x.p.mark(i, as); is != want {
			t.Fatalf("P901: %s: %v, not %v", what, is, want)
		}
		return what
	}
}

func TestAgainstThePlainWay(t *testing.T) {
	g := dice(9)
	for row := range 1200 {
		n := 1 + g.below(150)
		l := []pair{{empty(t, n), make(plain, n)}}
		if row%2 == 0 {
			for i := range l[0].p {
				l[0].p[i] = g.below(3) > 0
			}
			l[0].m = load(t, l[0].p)
		}
		for range 80 {
			x := l[g.below(len(l))]
			what := x.use(t, &g)
			if i := g.below(n+2) - 1; x.m.Has(i) != x.p.has(i) {
				t.Fatalf("P901: %s: Has(%d)", what, i)
			}
			if g.below(40) == 0 && len(l) < 4 {
				l = append(l, pair{x.m.Twin(), slices.Clone(x.p)}, pair{load(t, x.p), slices.Clone(x.p)})
			}
			for _, y := range l {
				if !bytes.Equal(y.m.Bytes(), y.p.bytes()) || y.m.Free() != y.p.free() {
					t.Fatalf("P901: row %d: %s: %08b, Free %d; not %08b, %d", row, what, y.m.Bytes(), y.m.Free(), y.p.bytes(), y.p.free())
				}
			}
		}
		for _, y := range l {
			same(t, fmt.Sprintf("row %d", row), y.m, y.p)
		}
	}
}

// The same calls on two maps answer the same.
func TestTheSameCallsAnswerTheSame(t *testing.T) {
	rows := [2]string{}
	for k := range rows {
		g, m := dice(5), empty(t, 90)
		for range 500 {
			switch g.below(4) {
			case 0:
				at, e := m.Take()
				rows[k] += fmt.Sprint(at, e, ";")
			case 1:
				at, e := m.Run(g.below(9))
				rows[k] += fmt.Sprint(at, e, ";")
			default:
				rows[k] += fmt.Sprint(m.Clear(g.below(95)), m.Set(g.below(95)), m.Free(), ";")
			}
		}
	}
	if rows[0] != rows[1] {
		t.Error("P3: the same calls answer otherwise")
	}
}

// The largest map is filled place by place, by runs, and cleared again, in good time.
func TestMuchEnds(t *testing.T) {
	m := empty(t, most)
	for i := range most {
		if at, e := m.Take(); at != i || e != api.OK {
			t.Fatalf("P901: Take %d: %d, %v", i, at, e)
		}
	}
	at, e := m.Take()
	got(t, "Take of a full map", at, e, 0, api.ErrFull)
	for i := range most {
		if i%2 == 1 && !m.Clear(i) {
			t.Fatalf("P901: Clear(%d)", i)
		}
	}
	for range 100 {
		at, e = m.Run(2)
		got(t, "Run of 2, each second place taken", at, e, 0, api.ErrFull)
	}
	for i := range most {
		if m.Clear(i) != (i%2 == 0) {
			t.Fatalf("P901: Clear(%d) of each second", i)
		}
	}
	for i := range most / 16 {
		if at, e := m.Run(16); at != 16*i || e != api.OK {
			t.Fatalf("P901: Run %d: %d, %v", i, at, e)
		}
	}
	at, e = m.Run(1)
	got(t, "Run of a full map", at, e, 0, api.ErrFull)
	for range 1000 {
		m = m.Twin()
	}
	if m.Free() != 0 {
		t.Errorf("P901: Free %d", m.Free())
	}
}
