package disk_test

import (
	"bytes"
	"fmt"
	"math"
	"slices"
	"strings"
	"testing"

	"loggia/api"
	"loggia/disk"
)

// size: that of most tests' sectors.
const size = 64

// fill: n bytes that tell c, neighbours never the same.
func fill(c byte, n int) []byte {
	b := make([]byte, n)
	for k := range b {
		b[k] = c + byte(k%7)*31
	}
	return b
}

func sector(c byte) []byte { return fill(c, size) }

// sectors: one for each letter, '.' one of zeros.
func sectors(s string) []byte {
	var b []byte
	for _, c := range []byte(s) {
		if c == '.' {
			b = append(b, make([]byte, size)...)
		} else {
			b = append(b, sector(c)...)
		}
	}
	return b
}

// letter tells what sectors made of it, '?' if nothing.
func letter(b []byte) string {
	if len(b) == size {
		for c := byte('a'); c <= 'z'; c++ {
			if bytes.Equal(b, sector(c)) {
				return string(rune(c))
			}
		}
		if bytes.Equal(b, make([]byte, size)) {
			return "."
		}
	}
	return "?"
}

// kept: a letter for each sector that Bytes tells.
func kept(d *disk.Disk) string {
	s := ""
	for b := range slices.Chunk(d.Bytes(), size) {
		s += letter(b)
	}
	return s
}

// seen: a letter for each sector that is read; "off" if none is, for the power is off.
func seen(d *disk.Disk) string {
	s := ""
	n, _ := d.Shape()
	for k := range n {
		b, e := d.Read(k)
		switch {
		case e == api.ErrDown && len(b) == 0:
			s += "-"
		case e != api.OK:
			s += "!"
		default:
			s += letter(b)
		}
	}
	if s == strings.Repeat("-", n) {
		return "off"
	}
	return s
}

// tell: all that can be asked of a disk.
func tell(d *disk.Disk) string {
	n, of := d.Shape()
	return fmt.Sprintf("%s seen, %s kept, %d pending, %d writes, off %v, %d of %d", seen(d), kept(d), d.Pending(), d.Writes(), d.Off(), n, of)
}

// want holds what a disk of n sectors of size tells against what it should.
func want(t *testing.T, what string, d *disk.Disk, seen, kept string, pending, writes int) {
	t.Helper()
	w := fmt.Sprintf("%s seen, %s kept, %d pending, %d writes, off %v, %d of %d", seen, kept, pending, writes, seen == "off", len(kept), size)
	if got := tell(d); got != w {
		t.Errorf("P701: %s: %s; not %s", what, got, w)
	}
}

// of: a disk that keeps these sectors.
func of(t *testing.T, s string) *disk.Disk {
	t.Helper()
	d, e := disk.Of(sectors(s), size)
	if e != api.OK {
		t.Fatalf("P701: Of %s: %v", s, e)
	}
	return d
}

// put writes letters to sectors: "0a" is a to sector 0. Each write must be OK.
func put(t *testing.T, d *disk.Disk, writes ...string) {
	t.Helper()
	for _, w := range writes {
		if e := d.Write(int(w[0]-'0'), sector(w[1])); e != api.OK {
			t.Fatalf("P701: Write %s: %v", w, e)
		}
	}
}

func down(t *testing.T, what string, e api.Errno) {
	t.Helper()
	if e != api.ErrDown {
		t.Errorf("P701: %s: %v, not %v", what, e, api.ErrDown)
	}
}

var wrongCounts = []int{0, -1, -64, 16385, 16386, 1 << 15, 1 << 16, 1 << 30, 1<<32 + 1, math.MaxInt, math.MinInt}

var wrongSizes = []int{0, 1, -1, -64, 63, 1025, 1026, 2048, 1 << 16, 1<<32 + 64, math.MaxInt, math.MinInt}

func TestNewOfEachShape(t *testing.T) {
	for _, n := range []int{1, 2, 3, 100, 16383, 16384} {
		for _, of := range []int{64, 65, 100, 512, 1023, 1024} {
			d, e := disk.New(n, of)
			if e != api.OK || d == nil {
				t.Fatalf("P701: New(%d, %d): %v", n, of, e)
			}
			if a, b := d.Shape(); a != n || b != of {
				t.Errorf("P701: New(%d, %d): shape %d, %d", n, of, a, b)
			}
			if d.Off() || d.Pending() != 0 || d.Writes() != 0 {
				t.Errorf("P701: New(%d, %d): off %v, %d pending, %d writes", n, of, d.Off(), d.Pending(), d.Writes())
			}
			if !bytes.Equal(d.Bytes(), make([]byte, n*of)) {
				t.Errorf("P701: New(%d, %d): not %d bytes 0", n, of, n*of)
			}
			for _, k := range []int{0, n / 2, n - 1} {
				if b, e := d.Read(k); e != api.OK || !bytes.Equal(b, make([]byte, of)) {
					t.Errorf("P701: New(%d, %d): sector %d: %v, %v", n, of, k, b, e)
				}
			}
			if b, e := d.Read(n); e != api.ErrArg || len(b) != 0 {
				t.Errorf("P701: New(%d, %d): sector %d: %v, %v", n, of, n, b, e)
			}
		}
	}
}

func TestNewRefuses(t *testing.T) {
	refused := func(n, of int) {
		if d, e := disk.New(n, of); e != api.ErrArg || d != nil {
			t.Errorf("P701: New(%d, %d): %v", n, of, e)
		}
	}
	for _, n := range wrongCounts {
		refused(n, 64)
		refused(n, 1024)
		for _, of := range wrongSizes {
			refused(n, of)
		}
	}
	for _, of := range wrongSizes {
		refused(1, of)
		refused(16384, of)
	}
}

func TestNewIsNobodyElses(t *testing.T) {
	a, _ := disk.New(3, size)
	b, _ := disk.New(3, size)
	put(t, a, "1x")
	a.Sync()
	put(t, a, "0y")
	a.Arm(1)
	want(t, "another", b, "...", "...", 0, 0)
	a.Cut()
	want(t, "another, behind a Cut", b, "...", "...", 0, 0)
	put(t, b, "2z")
	want(t, "the first", a, "off", ".x.", 0, 2)
}

func TestOfEachShape(t *testing.T) {
	for _, c := range []struct{ n, of int }{{1, 64}, {2, 64}, {16384, 64}, {1, 65}, {7, 65}, {3, 1023}, {1, 1024}, {5, 1024}, {16384, 1024}} {
		b := fill('p', c.n*c.of)
		d, e := disk.Of(b, c.of)
		if e != api.OK || d == nil {
			t.Fatalf("P701: Of %d bytes, %d: %v", len(b), c.of, e)
		}
		if n, of := d.Shape(); n != c.n || of != c.of || d.Off() || d.Pending() != 0 || d.Writes() != 0 {
			t.Errorf("P701: Of %d bytes, %d: shape %d, %d, off %v, %d pending, %d writes", len(b), c.of, n, of, d.Off(), d.Pending(), d.Writes())
		}
		if !bytes.Equal(d.Bytes(), b) {
			t.Errorf("P701: Of %d bytes, %d: others are kept", len(b), c.of)
		}
		for _, k := range []int{0, c.n / 2, c.n - 1} {
			if s, e := d.Read(k); e != api.OK || !bytes.Equal(s, b[k*c.of:(k+1)*c.of]) {
				t.Errorf("P701: Of %d bytes, %d: sector %d: %v, %v", len(b), c.of, k, s, e)
			}
		}
		if s, e := d.Read(c.n); e != api.ErrArg || len(s) != 0 {
			t.Errorf("P701: Of %d bytes, %d: sector %d: %v, %v", len(b), c.of, c.n, s, e)
		}
	}
}

func TestOfRefuses(t *testing.T) {
	refused := func(n, of int) {
		if d, e := disk.Of(make([]byte, n), of); e != api.ErrArg || d != nil {
			t.Errorf("P701: Of %d bytes, %d: %v", n, of, e)
		}
	}
	for _, c := range []struct{ n, of int }{{1, 64}, {63, 64}, {65, 64}, {127, 64}, {129, 64}, {64, 65}, {1023, 1024}, {1025, 1024}, {2047, 1024}, {16384*64 - 1, 64}, {16384*64 + 1, 64}, {16385 * 64, 64}, {1 << 21, 64}, {16385 * 1024, 1024}, {16384*1024 + 64, 1024}} {
		refused(c.n, c.of)
	}
	for _, of := range append([]int{64, 65, 1024}, wrongSizes...) {
		if d, e := disk.Of(nil, of); e != api.ErrArg || d != nil {
			t.Errorf("P701: Of no list, %d: %v", of, e)
		}
		refused(0, of)
	}
	for _, of := range wrongSizes {
		refused(1, of)
		refused(64, of)
		refused(2048, of)
		if of > 0 && of < 1<<20 {
			refused(of, of)
			refused(3*of, of)
		}
	}
}

func TestOfIsKept(t *testing.T) {
	d := of(t, "abc")
	want(t, "Of", d, "abc", "abc", 0, 0)
	d.Cut()
	d.On()
	want(t, "Of, behind a Cut", d, "abc", "abc", 0, 0)
	put(t, d, "1x")
	w, e := disk.Of(d.Bytes(), size)
	if e != api.OK {
		t.Fatal(e)
	}
	want(t, "Of the Bytes", w, "abc", "abc", 0, 0)
	d.Sync()
	w, _ = disk.Of(d.Bytes(), size)
	want(t, "Of the Bytes, behind a Sync", w, "axc", "axc", 0, 0)
}

func TestWriteReadSync(t *testing.T) {
	d, _ := disk.New(4, size)
	put(t, d, "0a")
	want(t, "a write", d, "a...", "....", 1, 1)
	put(t, d, "3b")
	want(t, "two", d, "a..b", "....", 2, 2)
	put(t, d, "0c")
	want(t, "written anew", d, "c..b", "....", 3, 3)
	if e := d.Sync(); e != api.OK {
		t.Errorf("P701: Sync: %v", e)
	}
	want(t, "synced", d, "c..b", "c..b", 0, 3)
	put(t, d, "3d", "1e")
	want(t, "over what is kept", d, "ce.d", "c..b", 2, 5)
	if e := d.Sync(); e != api.OK {
		t.Errorf("P701: Sync: %v", e)
	}
	want(t, "synced again", d, "ce.d", "ce.d", 0, 5)
	if e := d.Sync(); e != api.OK {
		t.Errorf("P701: Sync of nothing: %v", e)
	}
	want(t, "synced for nothing", d, "ce.d", "ce.d", 0, 5)
	if e := d.Write(0, make([]byte, size)); e != api.OK {
		t.Errorf("P701: Write of zeros: %v", e)
	}
	want(t, "zeros over it", d, ".e.d", "ce.d", 1, 6)
}

func TestSyncKeepsTheLastOfASector(t *testing.T) {
	d := of(t, "..")
	put(t, d, "0a", "1b", "0c", "0d", "1e")
	d.Sync()
	want(t, "synced", d, "de", "de", 0, 5)
}

func TestWriteOfTheSame(t *testing.T) {
	d := of(t, "ab")
	put(t, d, "0a", "0a")
	want(t, "the same again", d, "ab", "ab", 2, 2)
}

func TestWriteOfEachSector(t *testing.T) {
	const n, of = 300, 65
	d, _ := disk.New(n, of)
	for k := range n {
		if e := d.Write(k, fill(byte(k), of)); e != api.OK {
			t.Fatalf("P701: Write(%d): %v", k, e)
		}
	}
	for range 2 {
		for k := range n {
			if b, e := d.Read(k); e != api.OK || !bytes.Equal(b, fill(byte(k), of)) {
				t.Fatalf("P701: Read(%d): %v, %v", k, b, e)
			}
		}
		d.Sync()
	}
	for k, b := range slices.Collect(slices.Chunk(d.Bytes(), of)) {
		if !bytes.Equal(b, fill(byte(k), of)) {
			t.Fatalf("P701: Bytes, sector %d: %v", k, b)
		}
	}
}

var wrongSectors = []int{3, 4, -1, -2, -3, 1 << 16, 1 << 32, 1<<32 + 1, math.MaxInt, math.MinInt}

func TestWriteRefuses(t *testing.T) {
	d := of(t, "abc")
	put(t, d, "1x")
	refused := func(k int, b []byte) {
		t.Helper()
		if e := d.Write(k, b); e != api.ErrArg {
			t.Errorf("P701: Write(%d) of %d bytes: %v", k, len(b), e)
		}
		want(t, fmt.Sprintf("Write(%d) of %d bytes", k, len(b)), d, "axc", "abc", 1, 1)
	}
	for _, k := range wrongSectors {
		refused(k, sector('y'))
		refused(k, nil)
		refused(k, fill('y', size+1))
	}
	for _, n := range []int{0, 1, size - 1, size + 1, 2 * size, 3 * size, 1024, 1 << 16} {
		for k := range 3 {
			refused(k, fill('y', n))
		}
	}
	refused(1, nil)
	put(t, d, "2z")
	want(t, "the last sector", d, "axz", "abc", 2, 2)
}

func TestWriteHoldsTheDisksOwnSize(t *testing.T) {
	for _, of := range []int{64, 65, 1023, 1024} {
		d, _ := disk.New(2, of)
		for n := of - 1; n <= of+1; n++ {
			e := d.Write(1, fill('a', n))
			if (e == api.OK) != (n == of) || (e == api.ErrArg) != (n != of) {
				t.Errorf("P701: Write of %d bytes to sectors of %d: %v", n, of, e)
			}
		}
	}
}

func TestReadRefuses(t *testing.T) {
	d := of(t, "abc")
	put(t, d, "1x")
	for _, k := range wrongSectors {
		if b, e := d.Read(k); e != api.ErrArg || len(b) != 0 {
			t.Errorf("P701: Read(%d): %v, %v", k, b, e)
		}
	}
	want(t, "behind wrong Reads", d, "axc", "abc", 1, 1)
}

func TestOffRefuses(t *testing.T) {
	d := of(t, "abc")
	put(t, d, "1x", "2y")
	d.Cut(false, true)
	if !d.Off() {
		t.Error("P701: a Cut, and the power is on")
	}
	for range 2 {
		for _, k := range append([]int{0, 1, 2}, wrongSectors...) {
			for _, b := range [][]byte{sector('z'), nil, fill('z', size-1), fill('z', size+1)} {
				down(t, fmt.Sprintf("off: Write(%d) of %d bytes", k, len(b)), d.Write(k, b))
			}
			b, e := d.Read(k)
			down(t, fmt.Sprintf("off: Read(%d)", k), e)
			if len(b) != 0 {
				t.Errorf("P4: off: Read(%d): %v", k, b)
			}
		}
		down(t, "off: Sync", d.Sync())
		want(t, "off", d, "off", "aby", 0, 2)
	}
	d.On()
	want(t, "on again", d, "aby", "aby", 0, 2)
	put(t, d, "0z")
	want(t, "written again", d, "zby", "aby", 1, 3)
	if e := d.Sync(); e != api.OK {
		t.Errorf("P701: Sync, on again: %v", e)
	}
	want(t, "synced again", d, "zby", "zby", 0, 3)
}

func TestOnWhileOn(t *testing.T) {
	d := of(t, "abc")
	put(t, d, "1x")
	d.On()
	want(t, "On while on", d, "axc", "abc", 1, 1)
	d.Arm(2, true)
	d.On()
	put(t, d, "2y")
	down(t, "armed, then On while on", d.Write(0, sector('z')))
	want(t, "armed, then On while on", d, "off", "axc", 0, 2)
}

func TestCutWhileOff(t *testing.T) {
	d := of(t, "abc")
	put(t, d, "1x", "2y")
	d.Cut(true)
	d.Cut(true, true, true)
	want(t, "Cut twice", d, "off", "axc", 0, 2)
	d.On()
	want(t, "Cut twice, on", d, "axc", "axc", 0, 2)
}

func TestCutOfNothing(t *testing.T) {
	for _, keep := range [][]bool{nil, {}, {true}, {false, true}} {
		d := of(t, "abc")
		d.Cut(keep...)
		want(t, fmt.Sprint("Cut of nothing ", keep), d, "off", "abc", 0, 0)
		down(t, "Cut of nothing", d.Write(0, sector('x')))
		d.On()
		want(t, fmt.Sprint("Cut of nothing, on ", keep), d, "abc", "abc", 0, 0)
	}
}

func TestCutKeepsByPlace(t *testing.T) {
	for _, c := range []struct {
		keep []bool
		kept string
	}{
		{nil, "abc"},
		{[]bool{false}, "abc"},
		{[]bool{true}, "xbc"},
		{[]bool{false, true}, "abw"},
		{[]bool{false, false, true}, "ybc"},
		{[]bool{true, false, true}, "ybc"},
		{[]bool{true, true, false}, "xbw"},
		{[]bool{false, false, false, true}, "azc"},
		{[]bool{true, true, true, true}, "yzw"},
		{[]bool{true, true, true, true, true, true}, "yzw"},
		{[]bool{false, false, false, false, true}, "abc"},
		{[]bool{true, false, false, false, true}, "xbc"},
	} {
		d := of(t, "abc")
		put(t, d, "0x", "2w", "0y", "1z")
		want(t, "ahead of a Cut", d, "yzw", "abc", 4, 4)
		d.Cut(c.keep...)
		want(t, fmt.Sprint("Cut ", c.keep), d, "off", c.kept, 0, 4)
		d.On()
		want(t, fmt.Sprint("Cut, on ", c.keep), d, c.kept, c.kept, 0, 4)
		if e := d.Sync(); e != api.OK {
			t.Errorf("P701: Sync: %v", e)
		}
		want(t, fmt.Sprint("Cut, on, synced ", c.keep), d, c.kept, c.kept, 0, 4)
	}
}

func TestCutCountsFromTheSync(t *testing.T) {
	d := of(t, "abc")
	put(t, d, "0x", "1y")
	d.Sync()
	put(t, d, "0z", "2w")
	d.Cut(false, true)
	want(t, "Cut behind a Sync", d, "off", "xyw", 0, 4)
	d.On()
	put(t, d, "0p", "1q")
	d.Cut(true)
	want(t, "Cut behind a Cut", d, "off", "pyw", 0, 6)
}

// keepsOf: each list of n keeps.
func keepsOf(n int) [][]bool {
	var l [][]bool
	for k := range 1 << n {
		keep := make([]bool, n)
		for i := range keep {
			keep[i] = k>>i&1 == 1
		}
		l = append(l, keep)
	}
	return l
}

// plain is a disk told the plain way: each Read goes through what is pending, each armed Write is known by its number.
type plain struct {
	size  int
	bytes []byte
	wait  []waits
	ok    int
	down  bool
	tries int // Writes that had no other error
	at    int // the one of them at which the power goes; 0: none
	keep  []bool
}

type waits struct {
	sector int
	b      []byte
}

func (p *plain) place(k int) []byte { return p.bytes[k*p.size : (k+1)*p.size] }

func (p *plain) wrong(k int) bool { return k < 0 || k >= len(p.bytes)/p.size }

func (p *plain) write(k int, b []byte) api.Errno {
	if p.down {
		return api.ErrDown
	}
	if p.wrong(k) || len(b) != p.size {
		return api.ErrArg
	}
	p.tries++
	if p.tries == p.at {
		p.cut(p.keep)
		return api.ErrDown
	}
	p.wait = append(p.wait, waits{k, bytes.Clone(b)})
	p.ok++
	return api.OK
}

func (p *plain) read(k int) ([]byte, api.Errno) {
	if p.down {
		return nil, api.ErrDown
	}
	if p.wrong(k) {
		return nil, api.ErrArg
	}
	for _, w := range slices.Backward(p.wait) {
		if w.sector == k {
			return w.b, api.OK
		}
	}
	return p.place(k), api.OK
}

func (p *plain) sync() api.Errno {
	if p.down {
		return api.ErrDown
	}
	for _, w := range p.wait {
		copy(p.place(w.sector), w.b)
	}
	p.wait = nil
	return api.OK
}

func (p *plain) arm(n int, keep []bool) {
	p.at, p.keep = p.tries+max(n, 1), slices.Clone(keep)
}

func (p *plain) cut(keep []bool) {
	for i, yes := range keep {
		if yes && i < len(p.wait) {
			copy(p.place(p.wait[i].sector), p.wait[i].b)
		}
	}
	p.wait, p.down, p.at = nil, true, 0
}

func (p *plain) twin() *plain {
	w := *p
	w.bytes, w.wait, w.keep = bytes.Clone(p.bytes), slices.Clone(p.wait), slices.Clone(p.keep)
	return &w
}

// same holds all that a disk tells against the plain one.
func same(t *testing.T, what string, d *disk.Disk, p *plain) {
	t.Helper()
	n, of := d.Shape()
	if n != len(p.bytes)/p.size || of != p.size || d.Off() != p.down || d.Pending() != len(p.wait) || d.Writes() != p.ok {
		t.Fatalf("P701: %s: shape %d, %d, off %v, %d pending, %d writes, not %v, %d, %d", what, n, of, d.Off(), d.Pending(), d.Writes(), p.down, len(p.wait), p.ok)
	}
	if !bytes.Equal(d.Bytes(), p.bytes) {
		t.Fatalf("P701: %s: Bytes differ", what)
	}
	for k := -1; k <= n; k++ {
		b, e := d.Read(k)
		if x, want := p.read(k); e != want || !bytes.Equal(b, x) {
			t.Fatalf("P701: %s: Read(%d): %v, %v, not %v, %v", what, k, b, e, x, want)
		}
	}
}

func TestCutOfEachKeeps(t *testing.T) {
	writes := []string{"0p", "1q", "0r", "2s", "1t", "0u"}
	for n := range len(writes) + 1 {
		for m := range len(writes) + 2 {
			for _, keep := range keepsOf(m) {
				for _, armed := range []bool{false, true} {
					d, p := of(t, "abcd"), &plain{size: size, bytes: sectors("abcd")}
					if armed {
						d.Arm(n+1, keep...)
						p.arm(n+1, keep)
					}
					for _, w := range writes[:n] {
						put(t, d, w)
						p.write(int(w[0]-'0'), sector(w[1]))
					}
					if armed {
						down(t, "the armed one", d.Write(3, sector('v')))
						p.write(3, sector('v'))
					} else {
						d.Cut(keep...)
						p.cut(keep)
					}
					what := fmt.Sprintf("%d writes, keeps %v, armed %v", n, keep, armed)
					same(t, what, d, p)
					d.On()
					p.down = false
					same(t, what+", on", d, p)
				}
			}
		}
	}
}

func TestArmAtTheNth(t *testing.T) {
	for n := 1; n <= 6; n++ {
		d := of(t, "....")
		d.Arm(n)
		now := "...."
		for range n - 1 {
			put(t, d, "0a")
			now = "a..."
		}
		want(t, fmt.Sprint("ahead of the armed one ", n), d, now, "....", n-1, n-1)
		down(t, fmt.Sprint("the armed one ", n), d.Write(1, sector('b')))
		want(t, fmt.Sprint("the armed one ", n), d, "off", "....", 0, n-1)
		down(t, "behind it", d.Write(1, sector('b')))
		d.On()
		for range 20 {
			put(t, d, "2c")
		}
		want(t, fmt.Sprint("behind On ", n), d, "..c.", "....", 20, n+19)
	}
}

func TestArmBelowOne(t *testing.T) {
	for _, n := range []int{1, 0, -1, -5, math.MinInt32, math.MinInt} {
		d := of(t, "abc")
		put(t, d, "0x", "1y")
		d.Arm(n, false, true, true)
		want(t, fmt.Sprint("armed ", n), d, "xyc", "abc", 2, 2)
		down(t, fmt.Sprint("armed ", n), d.Write(2, sector('z')))
		want(t, fmt.Sprint("armed, written ", n), d, "off", "ayc", 0, 2)
		d.On()
		want(t, fmt.Sprint("armed, written, on ", n), d, "ayc", "ayc", 0, 2)
	}
}

func TestArmFarAway(t *testing.T) {
	for _, n := range []int{1000, math.MaxInt32, 1<<32 + 1, math.MaxInt} {
		d := of(t, "abc")
		d.Arm(n)
		for range 999 {
			put(t, d, "1x")
		}
		want(t, fmt.Sprint("armed ", n), d, "axc", "abc", 999, 999)
		if e := d.Write(0, sector('y')); (e == api.ErrDown) != (n == 1000) {
			t.Errorf("P701: armed %d, at the 1000th: %v", n, e)
		}
	}
}

func TestArmAnew(t *testing.T) {
	for _, c := range []struct {
		first, between, then int
	}{{9, 0, 3}, {1, 0, 3}, {2, 1, 3}, {5, 2, 1}, {5, 2, 8}, {0, 0, 2}, {3, 2, 1}} {
		d := of(t, "....")
		d.Arm(c.first, true, true, true, true, true, true, true, true, true)
		for range c.between {
			put(t, d, "0a")
		}
		d.Arm(c.then, slices.Repeat([]bool{false}, c.between+c.then-2)...)
		for range c.then - 1 {
			put(t, d, "1b")
		}
		down(t, fmt.Sprint("armed anew ", c), d.Write(2, sector('c')))
		want(t, fmt.Sprint("armed anew ", c), d, "off", "....", 0, c.between+c.then-1)
		d.On()
		for range 10 {
			put(t, d, "3d")
		}
	}
}

func TestArmAnewWithoutKeeps(t *testing.T) {
	d := of(t, "abc")
	d.Arm(2, true, true)
	d.Arm(2)
	put(t, d, "0x")
	down(t, "armed anew", d.Write(1, sector('y')))
	want(t, "armed anew, no keeps", d, "off", "abc", 0, 1)
	d.On()
	d.Arm(2)
	d.Arm(2, true)
	put(t, d, "0x")
	down(t, "armed anew", d.Write(1, sector('y')))
	want(t, "armed anew, keeps", d, "off", "xbc", 0, 2)
}

// Writes that have an error are not counted, nor is anything that is no Write.
func TestArmCountsWritesAlone(t *testing.T) {
	d := of(t, "abc")
	d.Arm(3, true, true)
	others := func() {
		for _, k := range wrongSectors {
			if e := d.Write(k, sector('p')); e != api.ErrArg {
				t.Errorf("P701: armed: Write(%d): %v", k, e)
			}
		}
		for _, n := range []int{0, size - 1, size + 1} {
			if e := d.Write(0, fill('p', n)); e != api.ErrArg {
				t.Errorf("P701: armed: Write of %d bytes: %v", n, e)
			}
		}
		tell(d)
		d.On()
		d.Twin().Write(0, sector('p'))
	}
	others()
	put(t, d, "0x")
	others()
	if e := d.Sync(); e != api.OK {
		t.Errorf("P701: armed: Sync: %v", e)
	}
	put(t, d, "1y")
	others()
	want(t, "armed, others between", d, "xyc", "xbc", 1, 2)
	down(t, "the armed one", d.Write(2, sector('z')))
	want(t, "the armed one", d, "off", "xyc", 0, 2)
}

func TestArmedOneIsNotKept(t *testing.T) {
	d := of(t, "abc")
	d.Arm(1, true, true)
	down(t, "the armed one", d.Write(0, sector('x')))
	want(t, "the armed one", d, "off", "abc", 0, 0)
	d.On()
	put(t, d, "1y")
	d.Arm(1, true, true, true)
	down(t, "the armed one", d.Write(1, sector('z')))
	want(t, "the armed one, its sector pending", d, "off", "ayc", 0, 1)
}

func TestArmedWrongWrite(t *testing.T) {
	d := of(t, "abc")
	d.Arm(1)
	if e := d.Write(3, sector('x')); e != api.ErrArg || d.Off() {
		t.Errorf("P701: armed, no such sector: %v, off %v", e, d.Off())
	}
	if e := d.Write(0, nil); e != api.ErrArg || d.Off() {
		t.Errorf("P701: armed, no bytes: %v, off %v", e, d.Off())
	}
	down(t, "armed", d.Write(0, sector('x')))
}

func TestCutDisarms(t *testing.T) {
	d := of(t, "abc")
	d.Arm(2, true)
	put(t, d, "0x")
	d.Cut(true)
	d.On()
	put(t, d, "1y", "2z", "0w", "1v")
	want(t, "armed ahead of a Cut", d, "wvz", "xbc", 4, 5)
	d.Arm(1)
	d.Cut()
	d.On()
	put(t, d, "1y")
	want(t, "armed ahead of a Cut", d, "xyc", "xbc", 1, 6)
}

func TestArmWhileOff(t *testing.T) {
	d := of(t, "abc")
	d.Cut()
	d.Arm(2, true)
	for range 5 {
		down(t, "off and armed", d.Write(0, sector('p')))
	}
	want(t, "off and armed", d, "off", "abc", 0, 0)
	d.On()
	put(t, d, "0x")
	down(t, "armed while off", d.Write(1, sector('y')))
	want(t, "armed while off", d, "off", "xbc", 0, 1)

	d.Arm(1)
	d.Cut()
	d.On()
	put(t, d, "1y", "2z")
	want(t, "armed while off, cut again", d, "xyz", "xbc", 2, 3)
}

func TestArmBehindOn(t *testing.T) {
	d := of(t, "abc")
	d.Cut()
	d.On()
	d.Arm(2, false)
	put(t, d, "0x")
	down(t, "armed behind On", d.Write(1, sector('y')))
	want(t, "armed behind On", d, "off", "abc", 0, 1)
}

func TestWritesGoOn(t *testing.T) {
	d := of(t, "abc")
	for k := range 10 {
		put(t, d, "0x", "0y")
		if k%2 == 0 {
			d.Sync()
		}
		d.Write(3, sector('z'))
		d.Arm(1)
		d.Write(1, sector('z'))
		d.Write(1, sector('z'))
		if d.Pending() != 0 || d.Writes() != 2*k+2 {
			t.Errorf("P701: round %d: %d pending, %d writes", k, d.Pending(), d.Writes())
		}
		d.On()
	}
}

func TestTwinIsTheSameAndApart(t *testing.T) {
	made := func() *disk.Disk {
		d := of(t, "abc")
		put(t, d, "0x")
		d.Sync()
		put(t, d, "1y", "2z")
		return d
	}
	steps := []func(d *disk.Disk){
		func(d *disk.Disk) { put(t, d, "0p", "1q") },
		func(d *disk.Disk) { d.Sync() },
		func(d *disk.Disk) { d.Cut() },
		func(d *disk.Disk) { d.Cut(true) },
		func(d *disk.Disk) { d.Cut(false, true) },
		func(d *disk.Disk) { d.Arm(1, true); d.Write(0, sector('r')) },
		func(d *disk.Disk) { put(t, d, "2s"); d.Sync(); put(t, d, "2t") },
		func(d *disk.Disk) { d.Cut(); d.On(); put(t, d, "1u") },
	}
	for k, step := range steps {
		for m, other := range steps {
			what := fmt.Sprintf("steps %d, %d", k, m)
			d := made()
			w := d.Twin()
			want(t, what+": a twin", w, "xyz", "xbc", 2, 3)
			step(d)
			want(t, what+": a twin, the first used", w, "xyz", "xbc", 2, 3)
			got := tell(d)
			other(w)
			if tell(d) != got {
				t.Errorf("P701: %s: the first, its twin used: %s, not %s", what, tell(d), got)
			}
			alone := made()
			other(alone)
			if tell(w) != tell(alone) {
				t.Errorf("P701: %s: a twin, used: %s, not %s", what, tell(w), tell(alone))
			}
		}
	}
}

// What both write lies at the same place of their lists: neither may see the other's.
func TestTwinsPendingIsApart(t *testing.T) {
	for n := range 20 {
		d := of(t, "abc")
		for range n {
			put(t, d, "2z")
		}
		w := d.Twin()
		put(t, d, "0x")
		put(t, w, "1y")
		put(t, d, "1p")
		keep := append(make([]bool, n), true)
		d.Cut(keep...)
		w.Cut(keep...)
		if kept(d) != "xbc" || kept(w) != "ayc" {
			t.Errorf("P701: behind %d writes: %s kept, its twin's %s", n, kept(d), kept(w))
		}
	}
}

func TestTwinIsArmed(t *testing.T) {
	d := of(t, "abc")
	d.Arm(3, false, true)
	put(t, d, "0x")
	w := d.Twin()
	put(t, d, "1y")
	down(t, "armed", d.Write(2, sector('z')))
	want(t, "the first", d, "off", "ayc", 0, 2)
	want(t, "a twin", w, "xbc", "abc", 1, 1)
	put(t, w, "2p")
	down(t, "a twin's armed", w.Write(2, sector('z')))
	want(t, "a twin", w, "off", "abp", 0, 2)

	d = of(t, "abc")
	w = d.Twin()
	d.Arm(1)
	put(t, w, "0x")
	w.Arm(5)
	down(t, "armed behind Twin", d.Write(0, sector('y')))
	d = of(t, "abc")
	d.Arm(1)
	w = d.Twin()
	d.Cut()
	d.On()
	put(t, d, "0x")
	down(t, "a twin, the first disarmed", w.Write(0, sector('y')))
}

func TestTwinIsOff(t *testing.T) {
	d := of(t, "abc")
	put(t, d, "1x")
	d.Cut(true)
	w := d.Twin()
	want(t, "a twin of one that is off", w, "off", "axc", 0, 1)
	d.On()
	want(t, "a twin, the first on", w, "off", "axc", 0, 1)
	w.On()
	d.Cut()
	want(t, "a twin, on", w, "axc", "axc", 0, 1)
}

func TestTwinOfATwin(t *testing.T) {
	l := []*disk.Disk{of(t, "abc")}
	for k := range 5 {
		w := l[k].Twin()
		put(t, w, "0"+string(rune('p'+k)))
		l = append(l, w)
	}
	for k, d := range l {
		want(t, fmt.Sprint("twin ", k), d, []string{"abc", "pbc", "qbc", "rbc", "sbc", "tbc"}[k], "abc", k, k)
	}
}

// spoil sets all of b's memory, its spare room too.
func spoil(b []byte) {
	for k := range b[:cap(b)] {
		b[:cap(b)][k] = 0xEE
	}
}

func TestBytesHandedInAreNotKept(t *testing.T) {
	b := sectors("abc")
	d, _ := disk.Of(b, size)
	spoil(b)
	want(t, "Of, its bytes spoilt", d, "abc", "abc", 0, 0)
	for _, sync := range []bool{false, true} {
		d := of(t, "abc")
		x, y := sector('x'), sector('y')
		d.Write(0, x)
		d.Write(1, y)
		if sync {
			d.Sync()
			want(t, "synced", d, "xyc", "xyc", 0, 2)
		}
		spoil(x)
		spoil(y)
		if got := seen(d); got != "xyc" {
			t.Errorf("P2: Write, its bytes spoilt: %s", got)
		}
		d.Cut(true, true)
		if got := kept(d); got != "xyc" {
			t.Errorf("P2: Write, its bytes spoilt: %s kept", got)
		}
	}
}

func TestBytesHandedInAreNotChanged(t *testing.T) {
	room := sectors("abcdef")
	d, _ := disk.Of(room[:3*size], size)
	d.Write(0, room[3*size:4*size])
	d.Write(1, room[3*size:4*size])
	d.Write(2, room[5*size:])
	d.Sync()
	d.Write(0, room[:size])
	d.Cut(true)
	if !bytes.Equal(room, sectors("abcdef")) {
		t.Error("P2: bytes that were handed in are changed")
	}
}

func TestKeepsHandedIn(t *testing.T) {
	d := of(t, "abc")
	room := []bool{true, false, true, true}
	d.Arm(4, room[:2]...)
	room[0], room[1] = false, true
	put(t, d, "0x", "1y", "2z")
	w := d.Twin()
	down(t, "armed", d.Write(0, sector('p')))
	want(t, "armed, its keeps changed", d, "off", "xbc", 0, 3)
	if !slices.Equal(room, []bool{false, true, true, true}) {
		t.Errorf("P2: keeps: %v", room)
	}
	w.Cut(room[:3]...)
	room[1] = false
	want(t, "Cut, its keeps changed", w, "off", "ayz", 0, 3)
	if !slices.Equal(room, []bool{false, false, true, true}) {
		t.Errorf("P2: keeps: %v", room)
	}
}

func TestBytesAnsweredAreNew(t *testing.T) {
	d := of(t, "abc")
	put(t, d, "1y")
	w := d.Twin()
	zeros, _ := disk.New(3, size)
	for _, x := range []struct {
		d          *disk.Disk
		seen, kept string
		pending    int
	}{{d, "ayc", "abc", 1}, {w, "ayc", "abc", 1}, {zeros, "...", "...", 0}} {
		again := x.d.Bytes()
		for k := range 3 {
			b, _ := x.d.Read(k)
			other, _ := x.d.Read(k)
			spoil(b)
			if letter(other) != x.seen[k:k+1] {
				t.Errorf("P2: what Read told shares memory: %v", other)
			}
		}
		spoil(x.d.Bytes())
		if !bytes.Equal(again, sectors(x.kept)) {
			t.Error("P2: what Bytes told shares memory")
		}
		want(t, "answers spoilt", x.d, x.seen, x.kept, x.pending, x.pending)
	}
	old, _ := d.Read(1)
	all := d.Bytes()
	put(t, d, "1z")
	d.Sync()
	if letter(old) != "y" || !bytes.Equal(all, sectors("abc")) {
		t.Error("P2: what was told changed by a Write and a Sync")
	}
}

func TestAskingChangesNothing(t *testing.T) {
	d := of(t, "abc")
	put(t, d, "1y")
	d.Arm(2, true)
	for range 5 {
		want(t, "asked again", d, "ayc", "abc", 1, 1)
		d.Twin()
	}
	put(t, d, "2z")
	down(t, "armed, asked", d.Write(0, sector('p')))
	for range 5 {
		want(t, "off, asked again", d, "off", "ayc", 0, 2)
		d.Twin()
	}
}

// A disk that nobody made has no sector.
func TestOneThatNobodyMade(t *testing.T) {
	var d disk.Disk
	for _, k := range []int{0, 1, -1} {
		if e := d.Write(k, nil); e != api.ErrArg {
			t.Errorf("P1: Write(%d): %v", k, e)
		}
		if b, e := d.Read(k); e != api.ErrArg || len(b) != 0 {
			t.Errorf("P1: Read(%d): %v, %v", k, b, e)
		}
	}
	d.Arm(1, true)
	w := d.Twin()
	w.Cut(true)
	if n, of := d.Shape(); n != 0 || of != 0 || len(d.Bytes()) != 0 || d.Sync() != api.OK || !w.Off() || d.Off() {
		t.Errorf("P1: shape %d, %d", n, of)
	}
}

// dice: the same numbers at each run.
type dice uint64

func (d *dice) below(n int) int {
	*d = *d*6364136223846793005 + 1442695040888963407
	return int(uint64(*d)>>33) % n
}

func (d *dice) keeps() []bool {
	l := make([]bool, d.below(9))
	for k := range l {
		l[k] = d.below(2) == 0
	}
	return l
}

// pair: a disk, and the plain one that was used as it was.
type pair struct {
	d *disk.Disk
	p *plain
}

// use does one thing to both, and tells what.
func (x pair) use(t *testing.T, g *dice) string {
	t.Helper()
	what, got, want := "", api.OK, api.OK
	switch k := g.below(20); {
	case k < 11:
		n, long := g.below(6), x.p.size
		if g.below(10) == 0 {
			n = g.below(9) - 1
		}
		if g.below(10) == 0 {
			long += g.below(3) - 1
		}
		b := fill(byte(g.below(256)), long)
		what, got, want = fmt.Sprintf("Write(%d) of %d bytes", n, long), x.d.Write(n, b), x.p.write(n, b)
	case k < 13:
		what, got, want = "Sync", x.d.Sync(), x.p.sync()
	case k < 15:
		n, keep := g.below(10)-1, g.keeps()
		what = fmt.Sprint("Arm ", n, keep)
		x.d.Arm(n, keep...)
		x.p.arm(n, keep)
	case k < 16:
		keep := g.keeps()
		what = fmt.Sprint("Cut ", keep)
		x.d.Cut(keep...)
		x.p.cut(keep)
	default:
		what = "On"
		x.d.On()
		x.p.down = false
	}
	if got != want {
		t.Fatalf("P701: %s: %v, not %v", what, got, want)
	}
	return what
}

func TestAgainstThePlainWay(t *testing.T) {
	g := dice(7)
	armed, cut := 0, 0
	for n := range 1500 {
		of := []int{64, 65, 100}[g.below(3)]
		b := fill(byte(n), 6*of)
		d, _ := disk.Of(b, of)
		l := []pair{{d, &plain{size: of, bytes: bytes.Clone(b)}}}
		for range 60 {
			x := l[g.below(len(l))]
			off := x.p.down
			what := x.use(t, &g)
			switch {
			case off || !x.p.down:
			case strings.HasPrefix(what, "Write"):
				armed++
			default:
				cut++
			}
			for _, y := range l {
				same(t, fmt.Sprintf("disk %d: %s", n, what), y.d, y.p)
			}
			if len(l) < 3 && g.below(30) == 0 {
				l = append(l, pair{x.d.Twin(), x.p.twin()})
			}
		}
	}
	if armed < 1000 || cut < 1000 {
		t.Errorf("the disks are too much the same: %d went at an armed Write, %d at a Cut", armed, cut)
	}
}

// Many writes, many reads of what is pending, many twins and many cuts of a large disk end in good time.
func TestMuchEnds(t *testing.T) {
	const n, of, many = 16384, 64, 300000
	d, _ := disk.New(n, of)
	b := sector('a')
	for k := range many {
		if e := d.Write(k%n, b); e != api.OK {
			t.Fatal(e)
		}
	}
	for k := range many {
		if s, e := d.Read(k % n); e != api.OK || s[0] != 'a' {
			t.Fatal(e)
		}
	}
	if d.Pending() != many || d.Writes() != many {
		t.Errorf("P1: %d pending, %d writes", d.Pending(), d.Writes())
	}
	d.Sync()
	for range many {
		d.Cut()
		d.On()
		d.Write(0, b)
	}
	for range 200 {
		d = d.Twin()
	}
	if d.Writes() != 2*many || d.Pending() != 1 {
		t.Errorf("P1: %d pending, %d writes", d.Pending(), d.Writes())
	}
}
