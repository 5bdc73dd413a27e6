package pages_test

import (
	"bytes"
	"fmt"
	"math"
	"math/rand"
	"slices"
	"strings"
	"testing"

	"loggia/api"
	"loggia/disk"
	"loggia/pages"
)

// size: that of most tests' sectors.
const size = 64

// fill: n bytes that tell c, neighbours never the same; of '.' bytes 0.
func fill(c byte, n int) []byte {
	b := make([]byte, n)
	for k := range b {
		if c != '.' {
			b[k] = c + byte(k%11)*23
		}
	}
	return b
}

func page(c byte) []byte { return fill(c, size-16) }

// letter tells what page, or fill, made of it, '?' if nothing.
func letter(b []byte) string {
	for _, c := range []byte(".abcdefghijklmnopqrstuvwxyzABCDEFGHIJKLMNOPQRSTUVWXYZ") {
		if bytes.Equal(b, fill(c, len(b))) {
			return string(rune(c))
		}
	}
	return "?"
}

// told: a letter for each page that is read; the error's number, if one is not.
func told(s *pages.Book) string {
	var out strings.Builder
	for k := range s.Pages() {
		b, e := s.Read(k)
		if e != api.OK {
			return fmt.Sprintf("error %d at %d, beside %d bytes", e, k, len(b))
		}
		out.WriteString(letter(b))
	}
	return out.String()
}

// blank: a disk of zeros.
func blank(t testing.TB, sectors, of int) *disk.Disk {
	t.Helper()
	d, e := disk.New(sectors, of)
	if e != api.OK {
		t.Fatalf("a disk of %d, %d: %v", sectors, of, e)
	}
	return d
}

// noise: bytes of no meaning, the same for the same seed.
func noise(seed int64, n int) []byte {
	b := make([]byte, n)
	rand.New(rand.NewSource(seed)).Read(b)
	return b
}

// noisy: a disk of such bytes.
func noisy(t testing.TB, sectors, of int) *disk.Disk {
	t.Helper()
	d, e := disk.Of(noise(1, sectors*of), of)
	if e != api.OK {
		t.Fatalf("a disk of %d, %d: %v", sectors, of, e)
	}
	return d
}

func format(t testing.TB, d *disk.Disk, at, n, count int) *pages.Book {
	t.Helper()
	s, e := pages.Format(d, at, n, count)
	if e != api.OK || s == nil {
		t.Fatalf("P801: Format(%d, %d, %d): %v", at, n, count, e)
	}
	return s
}

func open(t testing.TB, d *disk.Disk, at, n int) *pages.Book {
	t.Helper()
	s, e := pages.Open(d, at, n)
	if e != api.OK || s == nil {
		t.Fatalf("P801: Open(%d, %d): %v", at, n, e)
	}
	return s
}

// write has letters written to pages: "0a" is a to page 0. Each Write must be OK.
func write(t testing.TB, s *pages.Book, writes ...string) {
	t.Helper()
	for _, w := range writes {
		if e := s.Write(int(w[0]-'0'), page(w[1])); e != api.OK {
			t.Fatalf("P801: Write %s: %v", w, e)
		}
	}
}

func commit(t testing.TB, s *pages.Book, writes ...string) {
	t.Helper()
	write(t, s, writes...)
	if e := s.Commit(); e != api.OK {
		t.Fatalf("P801: Commit of %v: %v", writes, e)
	}
}

// want holds what a book tells against what it should.
func want(t testing.TB, what string, s *pages.Book, is string, changed ...int) {
	t.Helper()
	if got := told(s); got != is {
		t.Errorf("P801: %s: %s, not %s", what, got, is)
	}
	if got := s.Changed(); !slices.Equal(got, changed) {
		t.Errorf("P801: %s: %v changed, not %v", what, got, changed)
	}
}

func wantErr(t testing.TB, what string, got, is api.Errno) {
	t.Helper()
	if got != is {
		t.Errorf("P801: %s: %v, not %v", what, got, is)
	}
}

// outside: what is kept in the sectors that are not these.
func outside(d *disk.Disk, at, n int) []byte {
	b := d.Bytes()
	_, of := d.Shape()
	return append(b[:at*of:at*of], b[(at+n)*of:]...)
}

// needs: the fewest sectors of so many pages.
func needs(count int) int { return 3*count + 16 }

// Format and Open.

func TestFormatEachShape(t *testing.T) {
	for _, of := range []int{64, 65, 85, 86, 100, 127, 128, 255, 256, 1023, 1024} {
		for _, count := range []int{1, 2, 7, 8, 9, 255, 256, 257, 511, 512, 513, 1023, 1024} {
			for _, more := range []int{0, 1, 5} {
				n := needs(count) + more
				d := noisy(t, 3+n+2, of)
				ahead := outside(d, 3, n)
				s := format(t, d, 3, n, count)
				what := fmt.Sprintf("Format of %d pages in %d sectors of %d", count, n, of)
				if s.Pages() != count || s.Most() < min(8, count) || s.Most() > count || len(s.Changed()) != 0 {
					t.Errorf("P801: %s: %d pages, most %d, changed %v", what, s.Pages(), s.Most(), s.Changed())
				}
				zeros(t, what, s, of)
				d.Cut()
				d.On()
				zeros(t, what+", cut behind it", s, of)
				x := open(t, d, 3, n)
				if x.Pages() != count || x.Most() != s.Most() {
					t.Errorf("P801: %s, opened: %d pages, most %d", what, x.Pages(), x.Most())
				}
				zeros(t, what+", opened", x, of)
				if !bytes.Equal(outside(d, 3, n), ahead) {
					t.Errorf("P801: %s: another sector was touched", what)
				}
			}
		}
	}
}

// zeros asks for pages of 0, each of a sector's bytes less 16.
func zeros(t *testing.T, what string, s *pages.Book, of int) {
	t.Helper()
	for k := range s.Pages() {
		if b, e := s.Read(k); e != api.OK || !bytes.Equal(b, make([]byte, of-16)) {
			t.Fatalf("P801: %s: page %d: %d bytes, %v", what, k, len(b), e)
		}
	}
	for _, k := range []int{-1, s.Pages(), s.Pages() + 1} {
		if b, e := s.Read(k); e != api.ErrArg || len(b) != 0 {
			t.Errorf("P801: %s: page %d: %v, %v", what, k, b, e)
		}
	}
}

func TestFormatFillsADiskToItsEnd(t *testing.T) {
	for _, c := range []struct{ sectors, at, n, count int }{{19, 0, 19, 1}, {20, 1, 19, 1}, {16384, 0, 16384, 1024}, {16384, 13296, 3088, 1024}, {16384, 16365, 19, 1}} {
		d := blank(t, c.sectors, size)
		s := format(t, d, c.at, c.n, c.count)
		for k := range s.Pages() {
			wantErr(t, "Write", s.Write(k, page('a')), api.OK)
		}
		wantErr(t, fmt.Sprint("Commit ", c), s.Commit(), api.OK)
		for range 3 {
			want(t, fmt.Sprint(c), open(t, d, c.at, c.n), strings.Repeat("a", c.count))
			wantErr(t, "Write", s.Write(c.count-1, page('a')), api.OK)
			wantErr(t, "Commit", s.Commit(), api.OK)
		}
	}
}

// badPlaces: sectors that are not all there, of a disk that has sixty.
var badPlaces = [][2]int{
	{-1, 31}, {-1, 61}, {-60, 60}, {math.MinInt, 31}, {0, 61}, {1, 60}, {29, 32}, {30, 31}, {59, 31}, {60, 31}, {61, 31}, {60, 1}, {61, 1}, {60, 0}, {61, 0},
	{0, -1}, {0, -31}, {5, -5}, {0, math.MinInt}, {60, -31}, {0, math.MaxInt}, {1, math.MaxInt}, {math.MaxInt, 31}, {math.MaxInt, 1}, {math.MaxInt, math.MaxInt},
	{math.MaxInt - 30, 31}, {math.MinInt, math.MinInt}, {math.MinInt, math.MaxInt}, {-1, -1}, {1 << 32, 31}, {0, 1<<32 + 31}, {-1 << 32, 31}, {31, -1 << 32},
}

func TestFormatRefuses(t *testing.T) {
	type call struct{ at, n, count int }
	var calls []call
	for _, p := range badPlaces {
		for _, count := range []int{1, 5, 0, -1, 1025} {
			calls = append(calls, call{p[0], p[1], count})
		}
	}
	for _, count := range []int{0, -1, -5, 15, 16, 1024, 1025, 1 << 32, 1<<32 + 1, math.MaxInt, math.MaxInt / 3, math.MaxInt/3 + 1, math.MinInt, math.MinInt/3 - 5} {
		calls = append(calls, call{0, 60, count}, call{10, 50, count})
	}
	for count := 1; count <= 14; count++ {
		for n := range needs(count) {
			calls = append(calls, call{0, n, count})
		}
	}
	for _, off := range []bool{false, true} {
		d := noisy(t, 60, size)
		format(t, d, 0, 31, 5)
		writes, kept := d.Writes(), d.Bytes()
		if off {
			d.Cut()
		}
		for _, c := range calls {
			if s, e := pages.Format(d, c.at, c.n, c.count); e != api.ErrArg || s != nil {
				t.Errorf("P801: Format(%d, %d, %d), off %v: %v", c.at, c.n, c.count, off, e)
			}
		}
		if d.Writes() != writes || !bytes.Equal(d.Bytes(), kept) || d.Off() != off {
			t.Errorf("P801: a Format that was refused changed the disk")
		}
	}
	d := blank(t, 16384, size)
	for _, c := range []struct {
		n, count int
		is       api.Errno
	}{{3087, 1024, api.ErrArg}, {3088, 1024, api.OK}, {3084, 1023, api.ErrArg}, {3085, 1023, api.OK}, {3091, 1025, api.ErrArg}, {16384, 1025, api.ErrArg}, {16384, 5456, api.ErrArg}, {16384, 0, api.ErrArg}, {18, 1, api.ErrArg}, {19, 1, api.OK}, {21, 2, api.ErrArg}, {22, 2, api.OK}} {
		if s, e := pages.Format(d, 0, c.n, c.count); e != c.is || (s == nil) != (e != api.OK) {
			t.Errorf("P801: Format of %d pages in %d: %v, not %v", c.count, c.n, e, c.is)
		}
	}
}

func TestOpenRefuses(t *testing.T) {
	d := noisy(t, 60, size)
	commit(t, format(t, d, 0, 31, 5), "1a")
	writes, kept := d.Writes(), d.Bytes()
	for _, off := range []bool{false, true} {
		if off {
			d.Cut()
		}
		for _, p := range badPlaces {
			if s, e := pages.Open(d, p[0], p[1]); e != api.ErrArg || s != nil {
				t.Errorf("P801: Open(%d, %d), off %v: %v", p[0], p[1], off, e)
			}
		}
		for _, p := range [][2]int{{0, 31}, {0, 30}, {1, 31}, {31, 25}, {0, 60}, {3, 18}, {59, 1}, {0, 1}, {0, 0}} {
			is := api.ErrForm
			switch {
			case off:
				is = api.ErrDown
			case p == [2]int{0, 31}:
				is = api.OK
			}
			if s, e := pages.Open(d, p[0], p[1]); e != is || (s == nil) != (e != api.OK) {
				t.Errorf("P801: Open(%d, %d), off %v: %v, not %v", p[0], p[1], off, e, is)
			}
		}
	}
	if d.Writes() != writes || !bytes.Equal(d.Bytes(), kept) {
		t.Errorf("P801: an Open changed the disk")
	}
}

func TestOpenOfOtherSectors(t *testing.T) {
	d := blank(t, 100, size)
	commit(t, format(t, d, 20, 40, 6), "0a", "5b")
	for at := range 100 {
		for n := range 100 - at + 1 {
			s, e := pages.Open(d, at, n)
			if at == 20 && n == 40 {
				want(t, "Open of its sectors", s, "a....b")
			} else if e != api.ErrForm || s != nil {
				t.Errorf("P801: Open(%d, %d) of a book in 20, 40: %v", at, n, e)
			}
		}
	}
}

func TestOpenOfOtherCounts(t *testing.T) {
	for _, n := range []int{300, 1024, 5000, 8192} {
		d := blank(t, 16384, size)
		format(t, d, 0, n, 60)
		for _, k := range []int{1, 2, 255, 256, 257, 512, 1024, 4096, 8192, 16384} {
			for _, other := range []int{n - k, n + k, n ^ k} {
				if other < 0 || other > 16384 {
					continue
				}
				if s, e := pages.Open(d, 0, other); e != api.ErrForm || s != nil {
					t.Errorf("P801: Open of %d sectors, of a book of %d: %v", other, n, e)
				}
			}
		}
		want(t, "Open of its sectors", open(t, d, 0, n), strings.Repeat(".", 60))
	}
}

func TestOpenOfAnotherSectorSize(t *testing.T) {
	d := blank(t, 600, size)
	format(t, d, 0, 100, 6)
	// One that differs by the higher byte alone, too.
	for _, of := range []int{80, 100, 128, 256, size + 256} {
		x, e := disk.Of(d.Bytes(), of)
		if n, _ := x.Shape(); e != api.OK || n < 100 {
			t.Fatalf("a disk of sectors of %d: %d, %v", of, n, e)
		}
		if s, e := pages.Open(x, 0, 100); e != api.ErrForm || s != nil {
			t.Errorf("P801: Open by sectors of %d: %v", of, e)
		}
	}
}

func TestOpenWritesNothing(t *testing.T) {
	d := blank(t, 31, size)
	commit(t, format(t, d, 0, 31, 5), "1a")
	d.Arm(3, true, true)
	x := open(t, d, 0, 31)
	write(t, x, "1b", "2c", "3d")
	wantErr(t, "a Commit that is cut", x.Commit(), api.ErrDown)
	d.On()
	writes, kept := d.Writes(), d.Bytes()
	d.Arm(1)
	y := open(t, d, 0, 31)
	want(t, "behind a cut", y, ".a...")
	if d.Off() || d.Writes() != writes || !bytes.Equal(d.Bytes(), kept) || d.Pending() != 0 {
		t.Errorf("P801: an Open behind a cut wrote to the disk")
	}
}

func TestFormatOverABook(t *testing.T) {
	d := blank(t, 80, size)
	commit(t, format(t, d, 2, 46, 10), "0a", "9b")
	for _, count := range []int{10, 10, 3, 1, 10, 9} {
		s := format(t, d, 2, 46, count)
		want(t, "Format over a book", s, strings.Repeat(".", count))
		commit(t, s, "0x")
		commit(t, s, "0y")
		want(t, "Format over a book, written", open(t, d, 2, 46), "y"+strings.Repeat(".", count-1))
	}
	s := format(t, d, 2, 70, 18)
	want(t, "Format of more sectors", s, strings.Repeat(".", 18))
	if x, e := pages.Open(d, 2, 46); e != api.ErrForm || x != nil {
		t.Errorf("P801: Open of a book that was formatted over: %v", e)
	}
}

// Read and Write.

func TestReadAsWrittenLast(t *testing.T) {
	d := blank(t, 31, size)
	s := format(t, d, 0, 31, 5)
	write(t, s, "0a", "4b")
	want(t, "written", s, "a...b", 0, 4)
	write(t, s, "0c")
	want(t, "written anew", s, "c...b", 0, 4)
	commit(t, s)
	want(t, "committed", s, "c...b")
	write(t, s, "0d", "2e")
	want(t, "written behind a Commit", s, "d.e.b", 0, 2)
	write(t, s, "0.")
	want(t, "zeros", s, "..e.b", 0, 2)
	commit(t, s, "4.")
	want(t, "zeros, committed", s, "..e..")
	want(t, "opened again", open(t, d, 0, 31), "..e..")
	write(t, s, "2e")
	want(t, "as it was already", s, "..e..", 2)
}

func TestWriteIsHere(t *testing.T) {
	d := blank(t, 31, size)
	s := format(t, d, 0, 31, 5)
	commit(t, s, "1a")
	writes, kept := d.Writes(), d.Bytes()
	write(t, s, "1b", "2c")
	if d.Writes() != writes || d.Pending() != 0 || !bytes.Equal(d.Bytes(), kept) {
		t.Errorf("P801: Write wrote to the disk")
	}
	x := open(t, d, 0, 31)
	want(t, "another", x, ".a...")
	write(t, x, "3d")
	want(t, "the first", s, ".bc..", 1, 2)
	want(t, "the other", x, ".a.d.", 3)
}

func TestReadRefuses(t *testing.T) {
	d := blank(t, 31, size)
	s := format(t, d, 0, 31, 5)
	commit(t, s, "4a")
	write(t, s, "0b")
	for _, off := range []bool{false, true} {
		if off {
			d.Cut()
		}
		for _, k := range []int{-1, 5, 6, 1024, 1 << 32, -1 << 32, math.MaxInt, math.MinInt} {
			if b, e := s.Read(k); e != api.ErrArg || b != nil {
				t.Errorf("P801: Read(%d), off %v: %v, %v", k, off, b, e)
			}
		}
		for k := range 5 {
			b, e := s.Read(k)
			if off && (e != api.ErrDown || b != nil) || !off && (e != api.OK || len(b) != size-16) {
				t.Errorf("P801: Read(%d), off %v: %v, %v", k, off, b, e)
			}
		}
	}
}

func TestWriteRefuses(t *testing.T) {
	for _, of := range []int{64, 65, 1024} {
		d := blank(t, 31, of)
		s := format(t, d, 0, 31, 5)
		wantErr(t, "Write", s.Write(1, fill('a', of-16)), api.OK)
		for _, off := range []bool{false, true} {
			if off {
				d.Cut()
			}
			for _, k := range []int{-1, 5, 6, 1024, 1 << 32, -1 << 32, math.MaxInt, math.MinInt} {
				wantErr(t, fmt.Sprint("Write to page ", k), s.Write(k, fill('b', of-16)), api.ErrArg)
				wantErr(t, fmt.Sprint("Write of nothing to page ", k), s.Write(k, nil), api.ErrArg)
			}
			for k := range 5 {
				for _, n := range []int{0, 1, of - 32, of - 17, of - 15, of - 1, of, of + 1, 2 * of, 2*of - 32} {
					wantErr(t, fmt.Sprintf("Write of %d bytes", n), s.Write(k, fill('b', n)), api.ErrArg)
				}
				wantErr(t, "Write of no bytes", s.Write(k, nil), api.ErrArg)
			}
		}
		d.On()
		want(t, "behind what was refused", s, ".a...", 1)
	}
}

func TestMost(t *testing.T) {
	for _, count := range []int{1, 2, 7, 8, 9, 10, 30, 300, 1024} {
		for _, of := range []int{64, 1024} {
			n := needs(count)
			d := blank(t, n, of)
			s := format(t, d, 0, n, count)
			most := s.Most()
			if most < min(8, count) {
				t.Errorf("P801: most %d of %d pages", most, count)
			}
			for round := range 3 {
				// The last pages too: from the end on in each second round.
				turned := func(k int) int {
					if round%2 == 1 {
						return count - 1 - k
					}
					return k
				}
				c := byte('a' + round)
				for k := range count + 1 {
					is := api.OK
					switch {
					case k >= count:
						is = api.ErrArg
					case k >= most:
						is = api.ErrFull
					}
					wantErr(t, fmt.Sprintf("page %d of %d changed", k, count), s.Write(turned(k), fill(c, of-16)), is)
				}
				for k := range most {
					wantErr(t, "the same page again", s.Write(turned(k), fill(c+1, of-16)), api.OK)
				}
				if got := s.Changed(); len(got) != most {
					t.Errorf("P801: %d changed, not %d", len(got), most)
				}
				is := told(s)
				wantErr(t, "Commit of most", s.Commit(), api.OK)
				want(t, "Commit of most", s, is)
				want(t, "Commit of most, opened", open(t, d, 0, n), is)
				if s.Most() != most {
					t.Errorf("P801: most %d, then %d", most, s.Most())
				}
			}
		}
	}
}

func TestChangedRises(t *testing.T) {
	d := blank(t, 100, size)
	s := format(t, d, 0, 100, 28)
	if len(s.Changed()) != 0 {
		t.Errorf("P801: changed behind Format: %v", s.Changed())
	}
	r := rand.New(rand.NewSource(3))
	for range 50 {
		var l []int
		for _, k := range r.Perm(28)[:1+r.Intn(8)] {
			wantErr(t, "Write", s.Write(k, page('a')), api.OK)
			l = append(l, k)
			slices.Sort(l)
			if got := s.Changed(); !slices.Equal(got, l) {
				t.Fatalf("P801: changed %v, not %v", got, l)
			}
		}
		if r.Intn(2) == 0 {
			s.Abort()
		} else {
			s.Commit()
		}
		if got := s.Changed(); len(got) != 0 {
			t.Fatalf("P801: changed %v", got)
		}
	}
}

// Commit and Abort.

func TestCommitLasts(t *testing.T) {
	d := blank(t, 40, size)
	s := format(t, d, 4, 31, 5)
	is := []byte(".....")
	for k, w := range []string{"0a", "0b", "0c", "4d", "4e", "0f", "1g", "2h", "3i", "0j", "4k", "2l", "2m", "2n"} {
		commit(t, s, w)
		is[w[0]-'0'] = w[1]
		what := fmt.Sprintf("Commit %d", k)
		want(t, what, s, string(is))
		if d.Pending() != 0 {
			t.Errorf("P801: %s: %d pending", what, d.Pending())
		}
		x := d.Twin()
		x.Cut()
		x.On()
		want(t, what+", cut behind it", open(t, x, 4, 31), string(is))
	}
}

func TestCommitOfNothing(t *testing.T) {
	d := blank(t, 31, size)
	s := format(t, d, 0, 31, 5)
	commit(t, s)
	want(t, "Commit of nothing", s, ".....")
	commit(t, s, "1a")
	kept := d.Bytes()
	for range 5 {
		commit(t, s)
		commit(t, open(t, d, 0, 31))
	}
	want(t, "Commit of nothing again", s, ".a...")
	if !bytes.Equal(d.Bytes(), kept) {
		t.Errorf("P801: a Commit of nothing changed the disk")
	}
}

// A book in sectors that are still pending: even a Commit of nothing has it last.
func TestCommitOfNothingSyncs(t *testing.T) {
	d := blank(t, 31, size)
	commit(t, format(t, d, 0, 31, 5), "1a")
	x := blank(t, 31, size)
	k := 0
	for b := range slices.Chunk(d.Bytes(), size) {
		x.Write(k, b)
		k++
	}
	commit(t, open(t, x, 0, 31))
	x.Cut()
	x.On()
	want(t, "a Commit of nothing, cut", open(t, x, 0, 31), ".a...")
}

func TestAbort(t *testing.T) {
	d := blank(t, 31, size)
	s := format(t, d, 0, 31, 5)
	s.Abort()
	want(t, "Abort of nothing", s, ".....")
	write(t, s, "0a", "1b")
	s.Abort()
	want(t, "Abort behind Format", s, ".....")
	commit(t, s, "0c", "4d")
	write(t, s, "0e", "1f", "0g")
	s.Abort()
	want(t, "Abort", s, "c...d")
	s.Abort()
	want(t, "Abort again", s, "c...d")
	commit(t, s, "2h")
	want(t, "Abort, then Commit", s, "c.h.d")
	want(t, "Abort, then Commit, opened", open(t, d, 0, 31), "c.h.d")
	x := open(t, d, 0, 31)
	write(t, x, "0i")
	x.Abort()
	commit(t, x)
	want(t, "Abort behind Open", x, "c.h.d")
}

func TestEachCallWhileOff(t *testing.T) {
	d := blank(t, 31, size)
	s := format(t, d, 0, 31, 5)
	commit(t, s, "0a", "1b")
	write(t, s, "1c")
	kept, writes := d.Bytes(), d.Writes()
	d.Cut()
	for range 2 {
		if b, e := s.Read(0); e != api.ErrDown || b != nil {
			t.Errorf("P801: Read while off: %v, %v", b, e)
		}
		if b, e := s.Read(1); e != api.ErrDown || b != nil {
			t.Errorf("P801: Read of what was changed, while off: %v, %v", b, e)
		}
		if b, e := s.Read(2); e != api.ErrDown || b != nil {
			t.Errorf("P801: Read of what was never written, while off: %v, %v", b, e)
		}
		wantErr(t, "Commit while off", s.Commit(), api.ErrDown)
		if x, e := pages.Open(d, 0, 31); e != api.ErrDown || x != nil {
			t.Errorf("P801: Open while off: %v", e)
		}
		if x, e := pages.Format(d, 0, 31, 5); e != api.ErrDown || x != nil {
			t.Errorf("P801: Format while off: %v", e)
		}
		if s.Pages() != 5 || s.Most() < 5 {
			t.Errorf("P801: while off: %d pages, most %d", s.Pages(), s.Most())
		}
	}
	if got := s.Changed(); !slices.Equal(got, []int{1}) {
		t.Errorf("P801: while off: %v changed", got)
	}
	wantErr(t, "Write while off", s.Write(3, page('d')), api.OK)
	if got := s.Changed(); !slices.Equal(got, []int{1, 3}) {
		t.Errorf("P801: written while off: %v changed", got)
	}
	if !bytes.Equal(d.Bytes(), kept) || d.Writes() != writes || !d.Off() {
		t.Errorf("P801: the disk was changed while off")
	}
	d.On()
	want(t, "on again", s, "ac.d.", 1, 3)
	d.Cut()
	s.Abort()
	if got := s.Changed(); len(got) != 0 {
		t.Errorf("P801: Abort while off: %v changed", got)
	}
	wantErr(t, "Commit of nothing while off", s.Commit(), api.ErrDown)
	d.On()
	want(t, "Abort while off", s, "ab...")
	commit(t, s, "4e")
	want(t, "Commit, on again", open(t, d, 0, 31), "ab..e")
}

// The book that was cut goes on: what was changed still is, and can be committed, or aborted.
func TestGoesOnBehindACut(t *testing.T) {
	for after := 1; after < 6; after++ {
		for mask := range 32 {
			for _, abort := range []bool{false, true} {
				d := blank(t, 31, size)
				s := format(t, d, 0, 31, 5)
				commit(t, s, "0a", "1b", "2c")
				d.Arm(after, bits(mask, 5)...)
				write(t, s, "1d", "2e", "4f")
				e := s.Commit()
				what := fmt.Sprintf("cut at %d, keeping %05b", after, mask)
				if e == api.OK {
					want(t, what, s, "ade.f")
					continue
				}
				wantErr(t, what, e, api.ErrDown)
				d.On()
				want(t, what, s, "ade.f", 1, 2, 4)
				was := told(open(t, d, 0, 31))
				if abort {
					s.Abort()
					want(t, what+", aborted", s, was)
					commit(t, s, "0g")
					want(t, what+", aborted, committed", open(t, d, 0, 31), "g"+was[1:])
					continue
				}
				commit(t, s, "0g")
				want(t, what+", committed", s, "gde.f")
				want(t, what+", committed, opened", open(t, d, 0, 31), "gde.f")
			}
		}
	}
}

// Memory.

func TestWhatIsHandedInIsNotKept(t *testing.T) {
	d := blank(t, 31, size)
	s := format(t, d, 0, 31, 5)
	b := make([]byte, size)
	for k := range b {
		b[k] = 0xEE
	}
	copy(b, page('a'))
	in := b[: size-16 : size]
	wantErr(t, "Write", s.Write(2, in), api.OK)
	if !bytes.Equal(b[:size-16], page('a')) || !bytes.Equal(b[size-16:], bytes.Repeat([]byte{0xEE}, 16)) {
		t.Errorf("P801: Write changed what it was handed")
	}
	copy(b, fill('z', size))
	want(t, "changed later", s, "..a..", 2)
	wantErr(t, "Commit", s.Commit(), api.OK)
	copy(b, fill('y', size))
	want(t, "changed behind Commit", s, "..a..")
	want(t, "changed behind Commit, opened", open(t, d, 0, 31), "..a..")
}

// scribble writes over a list and its spare room.
func scribble(b []byte) {
	b = b[:cap(b)]
	for k := range b {
		b[k] = 0x5A
	}
}

func TestAnswersAreNewMemory(t *testing.T) {
	d := blank(t, 31, size)
	s := format(t, d, 0, 31, 5)
	commit(t, s, "0a", "1b")
	write(t, s, "1c", "3d")
	kept := d.Bytes()
	for k := range 5 {
		x, _ := s.Read(k)
		y, _ := s.Read(k)
		scribble(x)
		if letter(y) == "?" {
			t.Errorf("P801: two Reads of page %d share memory", k)
		}
		scribble(y)
	}
	l, m := s.Changed(), s.Changed()
	for k := range l[:cap(l)] {
		l[:cap(l)][k] = 77
	}
	if !slices.Equal(m, []int{1, 3}) {
		t.Errorf("P801: two answers of Changed share memory: %v", m)
	}
	want(t, "answers changed", s, "ac.d.", 1, 3)
	if !bytes.Equal(d.Bytes(), kept) {
		t.Errorf("P801: an answer shares memory with the disk")
	}
	commit(t, s)
	want(t, "answers changed, committed", open(t, d, 0, 31), "ac.d.")
}

func TestABookOfNothing(t *testing.T) {
	var s pages.Book
	if b, e := s.Read(0); e != api.ErrArg || b != nil {
		t.Errorf("P801: Read of a book that nobody made: %v, %v", b, e)
	}
	for _, b := range [][]byte{nil, page('a')} {
		wantErr(t, "Write to a book that nobody made", s.Write(0, b), api.ErrArg)
	}
	wantErr(t, "Commit of a book that nobody made", s.Commit(), api.OK)
	s.Abort()
	if s.Pages() != 0 || s.Most() != 0 || len(s.Changed()) != 0 {
		t.Errorf("P801: a book that nobody made has pages")
	}
	if x, e := pages.Open(new(disk.Disk), 0, 0); e != api.ErrArg || x != nil {
		t.Errorf("P801: Open on a disk of nothing: %v", e)
	}
	if x, e := pages.Format(new(disk.Disk), 0, 19, 1); e != api.ErrArg || x != nil {
		t.Errorf("P801: Format on a disk of nothing: %v", e)
	}
}

// P3: a cut that keeps some of the pending sectors leaves the same behind each time, so they are written in one order.
func TestTheSameCallsDoTheSame(t *testing.T) {
	var first []byte
	for round := range 30 {
		d := blank(t, 100, size)
		s := format(t, d, 0, 100, 28)
		for _, k := range []int{9, 3, 27, 0, 14, 20, 5, 11} {
			wantErr(t, "Write", s.Write(k, page('a'+byte(k%20))), api.OK)
		}
		d.Arm(6, true, false, true, true, false)
		wantErr(t, "Commit", s.Commit(), api.ErrDown)
		if round == 0 {
			first = d.Bytes()
		} else if !bytes.Equal(d.Bytes(), first) {
			t.Fatalf("P801: the same calls left other bytes, round %d", round)
		}
	}
}

// More than one book.

func TestTwoBooksOnADisk(t *testing.T) {
	d := noisy(t, 120, size)
	ahead := d.Bytes()
	a, b := format(t, d, 5, 40, 8), format(t, d, 45, 70, 9)
	r := rand.New(rand.NewSource(4))
	isA, isB := []byte("........"), []byte(".........")
	for k := range 300 {
		s, is := a, isA
		if r.Intn(2) == 0 {
			s, is = b, isB
		}
		for range 1 + r.Intn(3) {
			p, c := r.Intn(len(is)), byte('a'+r.Intn(26))
			wantErr(t, "Write", s.Write(p, page(c)), api.OK)
			is[p] = c
		}
		commit(t, s)
		want(t, fmt.Sprint("the first, ", k), a, string(isA))
		want(t, fmt.Sprint("the second, ", k), b, string(isB))
	}
	want(t, "the first, opened", open(t, d, 5, 40), string(isA))
	want(t, "the second, opened", open(t, d, 45, 70), string(isB))
	now := d.Bytes()
	if !bytes.Equal(now[:5*size], ahead[:5*size]) || !bytes.Equal(now[115*size:], ahead[115*size:]) {
		t.Errorf("P801: a sector of neither was touched")
	}
}

// Books that are open on the same sectors tell the same, but for what was changed there and not committed.
func TestTwoBooksInTheSameSectors(t *testing.T) {
	d := blank(t, 31, size)
	s := format(t, d, 0, 31, 5)
	x := open(t, d, 0, 31)
	for range 3 {
		commit(t, s, "0a", "1b")
		want(t, "committed by the first", x, "ab"+told(s)[2:])
		commit(t, s, "0c")
		commit(t, s, "0d")
		write(t, s, "3e")
		commit(t, x, "1f", "2g")
		want(t, "committed by the other", s, "dfge.", 3)
		want(t, "the other", x, "dfg"+told(x)[3:])
		commit(t, s)
		want(t, "committed by the first again", x, "dfge.")
		want(t, "opened", open(t, d, 0, 31), "dfge.")
	}
}

// A book that another has been formatted over tells no pages of that one's, and does not harm it.
func TestABookThatIsGone(t *testing.T) {
	for _, c := range []struct{ n, count int }{{40, 3}, {40, 8}, {46, 5}, {31, 5}} {
		d := blank(t, 46, size)
		s := format(t, d, 0, 40, 5)
		commit(t, s, "0a", "4b")
		x := format(t, d, 0, c.n, c.count)
		commit(t, x, "0x")
		write(t, s, "1c")
		if b, e := s.Read(0); e == api.OK || b != nil {
			t.Errorf("P801: Read of a book that is gone: %v, %v", b, e)
		}
		if s.Commit() == api.OK {
			t.Errorf("P801: Commit of a book that is gone")
		}
		want(t, "the one that is there", open(t, d, 0, c.n), "x"+strings.Repeat(".", c.count-1))
	}
}
