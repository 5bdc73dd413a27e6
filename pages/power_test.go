package pages_test

import (
	"bytes"
	"fmt"
	"math/rand"
	"slices"
	"strings"
	"testing"

	"loggia/api"
	"loggia/disk"
	"loggia/pages"
)

// bits: the lowest n of mask.
func bits(mask, n int) []bool {
	l := make([]bool, n)
	for k := range l {
		l[k] = mask>>k&1 == 1
	}
	return l
}

// cuts does do on twins of d: cut at each of its writes, with each choice of those ahead of it that is kept if they are pending, and at last not cut. It hands on the twin, its power on again.
func cuts(t *testing.T, d *disk.Disk, do func(d *disk.Disk) api.Errno, behind func(what string, d *disk.Disk, e api.Errno)) {
	t.Helper()
	for after := 1; ; after++ {
		for mask := range 1 << (after - 1) {
			x := d.Twin()
			x.Arm(after, bits(mask, after-1)...)
			what := fmt.Sprintf("cut at write %d, keeping %b", after, mask)
			e := do(x)
			if e != api.ErrDown && e != api.OK || (e == api.ErrDown) != x.Off() {
				t.Fatalf("P802: %s: %v, off %v", what, e, x.Off())
			}
			x.Cut()
			x.On()
			behind(what, x, e)
			if e == api.OK {
				return
			}
		}
	}
}

// committing: a Commit of these, in a book that is opened for it. "0a" is a to page 0.
func committing(t *testing.T, at, n int, writes ...string) func(d *disk.Disk) api.Errno {
	return func(d *disk.Disk) api.Errno {
		s := open(t, d, at, n)
		write(t, s, writes...)
		return s.Commit()
	}
}

// with: what pages tell when these are written.
func with(was string, writes ...string) string {
	b := []byte(was)
	for _, w := range writes {
		b[w[0]-'0'] = w[1]
	}
	return string(b)
}

// asOr holds what Open tells behind a call, cut or not, against what was ahead of it and what it makes.
func asOr(t *testing.T, what string, d *disk.Disk, at, n int, e api.Errno, was, now string) string {
	t.Helper()
	s, err := pages.Open(d, at, n)
	if err != api.OK {
		t.Fatalf("P802: %s: Open: %v", what, err)
	}
	got := told(s)
	if got != now && (e == api.OK || got != was) {
		t.Fatalf("P802: %s: %v, then %s; was %s, now %s", what, e, got, was, now)
	}
	return got
}

// histories: what was committed, one behind the other, ahead of a cut.
var histories = [][][]string{
	{},
	{{"0a"}},
	{{"0a", "2b"}},
	{{"0a", "2b"}, {"2c"}},
	{{"0a", "1b", "2c", "3d", "4e", "5f"}},
	{{"0a", "1b", "2c", "3d", "4e", "5f"}, {"0g", "2h", "4i"}},
	{{"5a"}, {"5b"}, {"5c"}},
}

var lists = [][]string{{"0u"}, {"5u"}, {"0u", "2v"}, {"2u", "3v", "0w"}, {"0.", "1u", "2v", "5w"}, {"0u", "1v", "2w", "3x", "4y", "5z"}}

// booked: six pages in 34 sectors from 3 on, of a disk that has others' bytes elsewhere.
func booked(t *testing.T, history [][]string) (*disk.Disk, string) {
	t.Helper()
	d := noisy(t, 40, size)
	s := format(t, d, 3, 34, 6)
	is := "......"
	for _, writes := range history {
		commit(t, s, writes...)
		is = with(is, writes...)
	}
	return d, is
}

func TestCommitIsCut(t *testing.T) {
	for _, history := range histories {
		for _, writes := range lists {
			d, was := booked(t, history)
			now, ahead, cut := with(was, writes...), outside(d, 3, 34), 0
			cuts(t, d, committing(t, 3, 34, writes...), func(what string, x *disk.Disk, e api.Errno) {
				what = fmt.Sprint(history, ", then ", writes, ": ", what)
				got := asOr(t, what, x, 3, 34, e, was, now)
				if again := told(open(t, x, 3, 34)); again != got {
					t.Fatalf("P802: %s: %s, opened again %s", what, got, again)
				}
				if !bytes.Equal(outside(x, 3, 34), ahead) {
					t.Fatalf("P802: %s: another sector was touched", what)
				}
				if e != api.OK {
					cut++
				}
			})
			if cut == 0 {
				t.Errorf("P802: a Commit of %v has no write", writes)
			}
		}
	}
}

// lastCut does do on a twin of d, cut at its last write, nothing kept that is still pending then; and not cut.
func lastCut(t *testing.T, d *disk.Disk, do func(d *disk.Disk) api.Errno) (cut, whole []byte) {
	t.Helper()
	x := d.Twin()
	if e := do(x); e != api.OK {
		t.Fatalf("P802: not cut: %v", e)
	}
	y := d.Twin()
	y.Arm(x.Writes() - d.Writes())
	if e := do(y); e != api.ErrDown {
		t.Fatalf("P802: cut at the last write: %v", e)
	}
	return y.Bytes(), x.Bytes()
}

// One sector is written last, and all others are synced ahead of it: whatever is kept of what is pending, it comes with all that it leads to.
func TestAllIsSyncedAheadOfTheLastWrite(t *testing.T) {
	formatting := func(d *disk.Disk) api.Errno {
		_, e := pages.Format(d, 3, 34, 6)
		return e
	}
	for _, history := range histories {
		for _, do := range []func(d *disk.Disk) api.Errno{formatting, committing(t, 3, 34, "0u"), committing(t, 3, 34, "0u", "2v", "5w")} {
			d, _ := booked(t, history)
			cut, whole := lastCut(t, d, do)
			differ := 0
			for k := range 40 {
				if !bytes.Equal(cut[k*size:(k+1)*size], whole[k*size:(k+1)*size]) {
					differ++
				}
			}
			if differ != 1 {
				t.Errorf("P802: behind %v: %d sectors were not synced ahead of the last write", history, differ)
			}
		}
	}
}

// A cut behind a cut, and then a Commit that is not: nothing of what was cut comes back.
func TestCommitBehindACut(t *testing.T) {
	second := [][]string{{"1p"}, {"2p"}, {"3p", "0q"}, {"0.", "5q", "2r"}}
	for _, history := range histories {
		for _, first := range lists[:4] {
			for _, then := range second {
				d, was := booked(t, history)
				cuts(t, d, committing(t, 3, 34, first...), func(what string, x *disk.Disk, e api.Errno) {
					what = fmt.Sprint(history, ", then ", first, ": ", what)
					got := asOr(t, what, x, 3, 34, e, was, with(was, first...))
					cuts(t, x, committing(t, 3, 34, then...), func(again string, y *disk.Disk, e api.Errno) {
						again = fmt.Sprint(what, ", then ", then, ": ", again)
						got := asOr(t, again, y, 3, 34, e, got, with(got, then...))
						for _, last := range []string{"4s", "4t", "1s"} {
							commit(t, open(t, y, 3, 34), last)
							got = with(got, last)
							asOr(t, again+", then "+last, y, 3, 34, api.OK, got, got)
						}
					})
				})
			}
		}
	}
}

// A list of more than one sector, and sectors of each kind.
func TestCommitOfManyPagesIsCut(t *testing.T) {
	for _, c := range []struct{ of, count int }{{64, 255}, {64, 256}, {64, 257}, {64, 300}, {64, 600}, {64, 1024}, {128, 1024}, {1024, 1024}, {100, 1}} {
		n := needs(c.count)
		d := blank(t, n, c.of)
		s := format(t, d, 0, n, c.count)
		places := []int{0, c.count / 2, c.count - 1}
		put := func(s *pages.Book, ch byte) api.Errno {
			for _, k := range places {
				wantErr(t, "Write", s.Write(k, fill(ch, c.of-16)), api.OK)
			}
			return s.Commit()
		}
		for _, ch := range []byte("abc") {
			was := told(s)
			if e := put(s, ch); e != api.OK {
				t.Fatalf("P801: Commit: %v", e)
			}
			now := told(s)
			if strings.Count(now, string(ch)) != min(3, c.count) {
				t.Fatalf("P801: %d pages: %s", c.count, now)
			}
			cuts(t, d, func(x *disk.Disk) api.Errno { return put(open(t, x, 0, n), 'x') }, func(what string, x *disk.Disk, e api.Errno) {
				asOr(t, fmt.Sprint(c, ": ", what), x, 0, n, e, now, strings.ReplaceAll(now, string(ch), "x"))
			})
			if got := strings.ReplaceAll(now, string(ch), "."); ch == 'a' && got != was {
				t.Errorf("P801: %d pages: other pages changed", c.count)
			}
		}
	}
}

// All pages of a book at once, cut at each write; of what is pending all, none, each second one, or any.
func TestCommitOfMostIsCut(t *testing.T) {
	const count = 60
	n := needs(count)
	r := rand.New(rand.NewSource(5))
	d := blank(t, n, size)
	s := format(t, d, 0, n, count)
	for k := range s.Most() {
		wantErr(t, "Write", s.Write(k, page('a')), api.OK)
	}
	wantErr(t, "Commit", s.Commit(), api.OK)
	was := told(s)
	now := strings.ReplaceAll(was, "a", "b")
	for after := 1; ; after++ {
		ok := false
		for round := range 12 {
			x := d.Twin()
			keep := make([]bool, 2*n)
			for k := range keep {
				keep[k] = round == 0 || round == 1 && k%2 == 0 || round == 2 && k%2 == 1 || round > 3 && r.Intn(2) == 0
			}
			x.Arm(after, keep...)
			b := open(t, x, 0, n)
			for k := range b.Most() {
				wantErr(t, "Write", b.Write(k, page('b')), api.OK)
			}
			e := b.Commit()
			ok = e == api.OK
			x.Cut(keep...)
			x.On()
			asOr(t, fmt.Sprint("all pages, cut at ", after), x, 0, n, e, was, now)
		}
		if ok {
			break
		}
	}
}

// Pages that have the bytes of the book's own sectors decide nothing.
func TestPagesThatLookLikeTheBooksOwn(t *testing.T) {
	d := blank(t, 34, size)
	s := format(t, d, 0, 34, 6)
	commit(t, s, "0a", "3b")
	for k := range 34 {
		b, _ := d.Read(k)
		x := d.Twin()
		y := open(t, x, 0, 34)
		for p := range 6 {
			wantErr(t, "Write", y.Write(p, b[:size-16]), api.OK)
		}
		wantErr(t, "Commit", y.Commit(), api.OK)
		z := open(t, x, 0, 34)
		for p := range 6 {
			if got, e := z.Read(p); e != api.OK || !bytes.Equal(got, b[:size-16]) {
				t.Errorf("P802: pages of sector %d: page %d: %v", k, p, e)
			}
		}
	}
}

// Format.

func TestFormatIsCut(t *testing.T) {
	for _, count := range []int{1, 6} {
		for what, d := range map[string]*disk.Disk{"zeros": blank(t, 40, size), "others' bytes": noisy(t, 40, size)} {
			ahead, cut := outside(d, 3, 34), 0
			do := func(x *disk.Disk) api.Errno {
				s, e := pages.Format(x, 3, 34, count)
				if (s == nil) != (e != api.OK) {
					t.Errorf("P801: Format: %v, and a book", e)
				}
				return e
			}
			cuts(t, d, do, func(how string, x *disk.Disk, e api.Errno) {
				how = fmt.Sprintf("Format of %d pages over %s, %s", count, what, how)
				s, err := pages.Open(x, 3, 34)
				if (e == api.OK || err != api.ErrForm) && (err != api.OK || told(s) != strings.Repeat(".", count)) {
					t.Fatalf("P802: %s: %v, then %v", how, e, err)
				}
				if e != api.OK {
					cut++
				}
				if !bytes.Equal(outside(x, 3, 34), ahead) {
					t.Fatalf("P802: %s: another sector was touched", how)
				}
				want(t, how+", formatted again", format(t, x, 3, 34, count), strings.Repeat(".", count))
				committed := committing(t, 3, 34, "0a")
				wantErr(t, how+", formatted again, committed", committed(x), api.OK)
				want(t, how+", formatted again, committed", open(t, x, 3, 34), "a"+strings.Repeat(".", count-1))
			})
			if cut == 0 {
				t.Errorf("P802: a Format has no write")
			}
		}
	}
}

// A Format over a book: it is there, or the older book is, wholly, whatever the pages and sectors of either.
func TestFormatOverABookIsCut(t *testing.T) {
	for _, history := range histories {
		for _, c := range []struct{ n, count int }{{34, 6}, {34, 1}, {34, 5}, {37, 7}, {37, 6}, {19, 1}, {25, 3}} {
			d, was := booked(t, history)
			do := func(x *disk.Disk) api.Errno {
				_, e := pages.Format(x, 3, c.n, c.count)
				return e
			}
			cuts(t, d, do, func(what string, x *disk.Disk, e api.Errno) {
				what = fmt.Sprint(history, ", then Format of ", c, ": ", what)
				n, is := 3, ""
				for _, at := range []int{34, c.n} {
					if s, err := pages.Open(x, 3, at); err == api.OK {
						n, is = at, told(s)
					}
				}
				now := strings.Repeat(".", c.count)
				if is != now && (e == api.OK || is != was) {
					t.Fatalf("P802: %s: %v, then %s", what, e, is)
				}
				commit(t, open(t, x, 3, n), "0p")
				asOr(t, what+", then a Commit", x, 3, n, api.OK, "", with(is, "0p"))
			})
		}
	}
}

// A Format over a list of more than one sector.
func TestFormatOverManyPagesIsCut(t *testing.T) {
	n := needs(1024)
	d := blank(t, n, size)
	s := format(t, d, 0, n, 1024)
	for k := range 1024 {
		wantErr(t, "Write", s.Write(k, page('a')), api.OK)
	}
	wantErr(t, "Commit", s.Commit(), api.OK)
	for _, count := range []int{1, 256, 257, 1024} {
		for range 2 {
			do := func(x *disk.Disk) api.Errno {
				_, e := pages.Format(x, 0, n, count)
				return e
			}
			cuts(t, d, do, func(what string, x *disk.Disk, e api.Errno) {
				asOr(t, fmt.Sprintf("Format of %d over 1024: %s", count, what), x, 0, n, e, strings.Repeat("a", 1024), strings.Repeat(".", count))
			})
			// The second time the other list holds.
			wantErr(t, "Write", s.Write(5, page('a')), api.OK)
			wantErr(t, "Commit", s.Commit(), api.OK)
		}
	}
}

// A book and another beside it: a cut of one leaves the other as it is.
func TestACutLeavesTheOtherBook(t *testing.T) {
	d := blank(t, 80, size)
	a, b := format(t, d, 0, 34, 6), format(t, d, 34, 46, 10)
	commit(t, a, "0a", "1b")
	commit(t, b, "0c", "9d")
	cuts(t, d, committing(t, 0, 34, "1x", "5y"), func(what string, x *disk.Disk, e api.Errno) {
		asOr(t, what, x, 0, 34, e, "ab....", "ax...y")
		asOr(t, what+", the other", x, 34, 46, api.OK, "", "c........d")
	})
	cuts(t, d, committing(t, 34, 46, "1x", "9y"), func(what string, x *disk.Disk, e api.Errno) {
		asOr(t, what, x, 34, 46, e, "c........d", "cx.......y")
		asOr(t, what+", the other", x, 0, 34, api.OK, "", "ab....")
	})
}

// Any bytes.

// anyBook opens whatever is there: none, or a book that can be used as one.
func anyBook(t *testing.T, what string, b []byte, of, at, n int) *pages.Book {
	t.Helper()
	d, e := disk.Of(b, of)
	if e != api.OK {
		t.Fatalf("a disk of %d bytes: %v", len(b), e)
	}
	s, e := pages.Open(d, at, n)
	if e != api.OK {
		if e != api.ErrForm || s != nil {
			t.Errorf("P802: %s: Open: %v", what, e)
		}
		return nil
	}
	if s.Pages() < 1 || s.Pages() > 1024 || needs(s.Pages()) > n || s.Most() < min(8, s.Pages()) || len(s.Changed()) != 0 {
		t.Fatalf("P802: %s: %d pages in %d sectors, most %d, changed %v", what, s.Pages(), n, s.Most(), s.Changed())
	}
	for k := range s.Pages() {
		if b, e := s.Read(k); e != api.OK || len(b) != of-16 {
			t.Fatalf("P802: %s: page %d: %d bytes, %v", what, k, len(b), e)
		}
	}
	x := d.Twin()
	used(t, what, x, at, n, s.Pages()-1, of)
	if !bytes.Equal(outside(x, at, n), outside(d, at, n)) {
		t.Fatalf("P802: %s: another sector was touched", what)
	}
	return s
}

// used writes one page of a book: it lasts, the others stay.
func used(t *testing.T, what string, d *disk.Disk, at, n, page, of int) {
	t.Helper()
	s := open(t, d, at, n)
	all := func(s *pages.Book) (l [][]byte) {
		for k := range s.Pages() {
			b, _ := s.Read(k)
			l = append(l, b)
		}
		return l
	}
	is := all(s)
	is[page] = fill('q', of-16)
	if e := s.Write(page, is[page]); e != api.OK {
		t.Fatalf("P802: %s: Write: %v", what, e)
	}
	if e := s.Commit(); e != api.OK {
		t.Fatalf("P802: %s: Commit: %v", what, e)
	}
	d.Cut()
	d.On()
	if got := all(open(t, d, at, n)); !slices.EqualFunc(got, is, bytes.Equal) {
		t.Fatalf("P802: %s: written, other pages are told", what)
	}
}

// image: the bytes of a disk with a book in its midst, and those ahead of its last two Commits.
func image(t *testing.T) (now, before, first []byte) {
	t.Helper()
	d := noisy(t, 40, size)
	s := format(t, d, 3, 34, 6)
	first = d.Bytes()
	commit(t, s, "0a", "2b")
	commit(t, s, "2c", "5d")
	before = d.Bytes()
	commit(t, s, "1e", "2f")
	return d.Bytes(), before, first
}

func TestOpenOfBytesOfNoBook(t *testing.T) {
	for _, of := range []int{64, 65, 256, 1024} {
		for n := 1; n <= 40; n++ {
			for what, b := range map[string][]byte{"zeros": make([]byte, n*of), "255s": bytes.Repeat([]byte{255}, n*of), "noise": noise(int64(n), n*of), "words": bytes.Repeat([]byte("LOGGIA pages "), n*of)[:n*of]} {
				d, _ := disk.Of(b, of)
				if s, e := pages.Open(d, 0, n); e != api.ErrForm || s != nil {
					t.Errorf("P802: Open of %d sectors of %s: %v", n, what, e)
				}
			}
		}
	}
}

func TestOpenOfARootWithoutItsMark(t *testing.T) {
	now, _, _ := image(t)
	for from := range 8 {
		b := bytes.Clone(now)
		clear(b[3*size+from : 3*size+8])
		d, _ := disk.Of(b, size)
		if s, e := pages.Open(d, 3, 34); e != api.ErrForm || s != nil {
			t.Errorf("P802: a mark of %d bytes: %v", from, e)
		}
	}
}

func TestOpenOfASectorOfOthers(t *testing.T) {
	now, _, _ := image(t)
	for k := 3; k < 37; k++ {
		for c := range 256 {
			b := bytes.Clone(now)
			copy(b[k*size:], bytes.Repeat([]byte{byte(c)}, size))
			what := fmt.Sprintf("sector %d of bytes %d", k, c)
			s := anyBook(t, what, b, size, 3, 34)
			if s == nil {
				continue
			}
			// It may have been a page's, then it is that page that is told so.
			for p := range s.Pages() {
				got, _ := s.Read(p)
				if letter(got) != "aef..d"[p:p+1] && !bytes.Equal(got, bytes.Repeat([]byte{byte(c)}, size-16)) {
					t.Errorf("P802: %s: page %d: %v", what, p, got)
				}
			}
		}
		for seed := range int64(50) {
			b := bytes.Clone(now)
			copy(b[k*size:], noise(seed, size))
			anyBook(t, fmt.Sprintf("sector %d of noise %d", k, seed), b, size, 3, 34)
		}
	}
}

// Each bit of each sector turned: a root is wholly one, or there is no book; the one bit that leads to the other list tells the Commit ahead.
func TestOpenOfEachBitTurned(t *testing.T) {
	now, _, _ := image(t)
	others := 0
	for k := 3 * size * 8; k < 37*size*8; k++ {
		b := bytes.Clone(now)
		b[k/8] ^= 1 << (k % 8)
		s := anyBook(t, fmt.Sprintf("bit %d", k), b, size, 3, 34)
		if k/8/size != 3 || s == nil {
			continue
		}
		if got := told(s); got != "a.c..d" {
			t.Errorf("P802: bit %d of the root: %s", k, got)
		}
		others++
	}
	if others > 1 {
		t.Errorf("P802: %d bits of the root lead elsewhere", others)
	}
}

func TestOpenOfEachByteOfTheFirstSectors(t *testing.T) {
	now, _, _ := image(t)
	for k := 3 * size; k < 12*size; k++ {
		for _, c := range []byte{0, 1, 2, 3, 4, 5, 6, 7, 8, 15, 16, 31, 32, 63, 64, 127, 128, 170, 254, 255} {
			b := bytes.Clone(now)
			b[k] = c
			anyBook(t, fmt.Sprintf("byte %d is %d", k, c), b, size, 3, 34)
		}
	}
}

// right: how many of a list's bytes, each with each of its 256 values, are as they may be: a page is in one of two slots or in none, what is behind the last page in none.
func right(count, sectors int) int {
	whole, rest := count/4, []int{1, 3, 9, 27}[count%4]
	if count%4 > 0 {
		rest--
	} else {
		rest = 0
	}
	return whole*81 + (sectors*size - whole) + rest
}

func TestOpenOfAListThatIsNone(t *testing.T) {
	for _, count := range []int{1, 2, 3, 4, 5, 255, 256, 257, 1024} {
		n := needs(count)
		d := blank(t, n, size)
		s := format(t, d, 0, n, count)
		for k := range count {
			wantErr(t, "Write", s.Write(k, page('a')), api.OK)
		}
		wantErr(t, "Commit", s.Commit(), api.OK)
		forms, sectors := 0, (count+255)/256
		for k := 1; k < 9; k++ {
			is, _ := d.Read(k)
			for at := range size {
				for c := range 256 {
					b := bytes.Clone(is)
					b[at] = byte(c)
					d.Write(k, b)
					x, e := pages.Open(d, 0, n)
					if e != api.OK && e != api.ErrForm || (x == nil) != (e != api.OK) {
						t.Fatalf("P802: %d pages, byte %d of sector %d is %d: %v", count, at, k, c, e)
					}
					if e == api.ErrForm {
						forms++
						continue
					}
					// It takes long to read many pages.
					if count < 8 && strings.Trim(told(x), "a.") != "" {
						t.Errorf("P802: %d pages, byte %d of sector %d is %d: %s", count, at, k, c, told(x))
					}
				}
			}
			d.Write(k, is)
			d.Sync()
		}
		if is := sectors*size*256 - right(count, sectors); forms != is {
			t.Errorf("P802: %d pages: %d bytes of a list are none, not %d", count, forms, is)
		}
	}
}

// Others write to the sectors of a book that is open: it tells an error or pages, and keeps to its sectors.
func TestOthersWriteToAnOpenBook(t *testing.T) {
	now, _, _ := image(t)
	for k := 3; k < 37; k++ {
		for c := range 256 {
			d, _ := disk.Of(now, size)
			s := open(t, d, 3, 34)
			ahead := outside(d, 3, 34)
			d.Write(k, bytes.Repeat([]byte{byte(c)}, size))
			what := fmt.Sprintf("sector %d of bytes %d", k, c)
			_, is := pages.Open(d, 3, 34)
			for p := range 6 {
				b, e := s.Read(p)
				if e != api.OK && (e != api.ErrForm || b != nil || is == api.OK) || e == api.OK && len(b) != size-16 {
					t.Errorf("P802: %s: Read(%d): %v, %v", what, p, b, e)
				}
				// Such a list tells slots that there are not.
				if c == 255 && is != api.OK && e == api.OK {
					t.Errorf("P802: %s: Read(%d): %v", what, p, e)
				}
			}
			write(t, s, "4p")
			if e := s.Commit(); e != is {
				t.Errorf("P802: %s: Commit: %v; Open: %v", what, e, is)
			}
			if is != api.OK && !slices.Equal(s.Changed(), []int{4}) {
				t.Errorf("P802: %s: Commit: changed %v", what, s.Changed())
			}
			d.Sync()
			if !bytes.Equal(outside(d, 3, 34), ahead) {
				t.Fatalf("P802: %s: another sector was touched", what)
			}
		}
	}
}

func TestOpenOfSectorsSwapped(t *testing.T) {
	now, _, _ := image(t)
	for j := range 40 {
		for k := range j {
			b := bytes.Clone(now)
			copy(b[j*size:(j+1)*size], now[k*size:])
			copy(b[k*size:(k+1)*size], now[j*size:(j+1)*size])
			what := fmt.Sprintf("sectors %d and %d swapped", j, k)
			if j == 3 || k == 3 {
				d, _ := disk.Of(b, size)
				if s, e := pages.Open(d, 3, 34); e != api.ErrForm || s != nil {
					t.Errorf("P802: %s, one is the root: %v", what, e)
				}
			}
			anyBook(t, what, b, size, 3, 34)
		}
	}
}

func TestOpenOfOldSectors(t *testing.T) {
	now, before, first := image(t)
	for _, old := range [][]byte{before, first} {
		for from := 3; from < 37; from++ {
			for to := from + 1; to <= 37; to++ {
				b := bytes.Clone(now)
				copy(b[from*size:to*size], old[from*size:])
				anyBook(t, fmt.Sprintf("sectors %d to %d are old", from, to), b, size, 3, 34)
			}
		}
	}
}

func TestOpenOfBytesThatEnd(t *testing.T) {
	now, _, _ := image(t)
	for n := 4; n < 40; n++ {
		for from := range min(4, n) {
			b := now[from*size : n*size]
			d, _ := disk.Of(b, size)
			for k := range n - from - (3 - from) + 1 {
				s, e := pages.Open(d, 3-from, k)
				if (e != api.ErrForm || s != nil) && k != 34 {
					t.Errorf("P802: %d sectors of %d from %d: %v", k, n, from, e)
				}
				if k == 34 {
					want(t, "the whole book", s, "aef..d")
				}
			}
		}
	}
}

// Bytes of a book, mixed at random.
func TestOpenOfMixedBytes(t *testing.T) {
	now, before, first := image(t)
	r := rand.New(rand.NewSource(6))
	for k := range 20000 {
		b := bytes.Clone([][]byte{now, before, first}[r.Intn(3)])
		for range 1 + r.Intn(6) {
			at := (3 + r.Intn(4)) * size
			if r.Intn(3) == 0 {
				at = (3 + r.Intn(34)) * size
			}
			switch r.Intn(4) {
			case 0:
				b[at+r.Intn(20)] = byte(r.Intn(256))
			case 1:
				b[at+r.Intn(20)] = byte(r.Intn(4))
			case 2:
				from := r.Intn(40) * size
				copy(b[at:at+size], now[from:from+size])
			case 3:
				r.Read(b[at : at+r.Intn(size)])
			}
		}
		anyBook(t, fmt.Sprint("mix ", k), b, size, 3, 34)
	}
}

// Long runs against a plain book.

// plain is a book told the plain way: what lasts, and what is changed.
type plain struct {
	lasts   []byte
	changed map[int]byte
}

func (p *plain) now() string {
	b := slices.Clone(p.lasts)
	for k, c := range p.changed {
		b[k] = c
	}
	return string(b)
}

func (p *plain) list() []int {
	var l []int
	for k := range p.lasts {
		if _, ok := p.changed[k]; ok {
			l = append(l, k)
		}
	}
	return l
}

func TestLongRuns(t *testing.T) {
	for seed := range int64(40) {
		longRun(t, seed)
	}
}

func longRun(t *testing.T, seed int64) {
	r := rand.New(rand.NewSource(seed))
	count := []int{1, 3, 9, 12}[r.Intn(4)]
	at, n := r.Intn(5), needs(count)+r.Intn(3)
	d := noisy(t, at+n+3, size)
	s := format(t, d, at, n, count)
	ahead := outside(d, at, n)
	p := &plain{lasts: bytes.Repeat([]byte{'.'}, count), changed: map[int]byte{}}
	keeps := func() []bool { return bits(r.Intn(1<<20), 20) }
	for step := range 400 {
		what := fmt.Sprintf("seed %d, step %d", seed, step)
		switch k := r.Intn(20); {
		case k < 8:
			page, c := r.Intn(count), byte('a'+r.Intn(26))
			if e := s.Write(page, fill(c, size-16)); e == api.OK {
				p.changed[page] = c
			} else if e != api.ErrFull || len(p.changed) < s.Most() {
				t.Fatalf("P801: %s: Write: %v", what, e)
			}
		case k < 10:
			s.Abort()
			clear(p.changed)
		case k == 10:
			d.Cut(keeps()...)
			d.On()
		case k == 11:
			s = open(t, d, at, n)
			clear(p.changed)
		case k == 12 && r.Intn(4) == 0:
			s = format(t, d, at, n, count)
			p = &plain{lasts: bytes.Repeat([]byte{'.'}, count), changed: map[int]byte{}}
		case k < 16:
			d.Arm(1+r.Intn(6), keeps()...)
			e := s.Commit()
			d.Cut(keeps()...)
			d.On()
			was, now := string(p.lasts), p.now()
			got := asOr(t, what, d, at, n, e, was, now)
			p.lasts = []byte(got)
			if e == api.OK {
				clear(p.changed)
			}
		default:
			if e := s.Commit(); e != api.OK {
				t.Fatalf("P801: %s: Commit: %v", what, e)
			}
			p.lasts = []byte(p.now())
			clear(p.changed)
		}
		want(t, what, s, p.now(), p.list()...)
		if !bytes.Equal(outside(d, at, n), ahead) {
			t.Fatalf("P801: %s: another sector was touched", what)
		}
		if t.Failed() {
			t.FailNow()
		}
	}
}
