package node_test

import (
	"fmt"
	"math"
	"slices"
	"strings"
	"testing"

	"loggia/api"
	"loggia/node"
)

// wrong: what is wrong with t, the plain way.
func wrong(t node.Tree) api.Errno {
	if len(t.N) == 0 {
		return api.ErrForm
	}
	if r := t.N[0]; r.Path != 1 || r.Mode < 1<<31 || r.Up != 1 || r.Gone || r.Name != "/" {
		return api.ErrForm
	}
	sum := 0
	for k := range t.N {
		if err := wrongNode(t, k); err != api.OK {
			return err
		}
		sum += len(t.N[k].Data)
	}
	switch {
	case len(t.N) > 64:
		return api.ErrLong
	case sum > 16384:
		return api.ErrFull
	}
	return wrongRound(t)
}

// wrongNode: what is wrong with t's node k.
func wrongNode(t node.Tree, k int) api.Errno {
	n := t.N[k]
	isDir := n.Mode >= 1<<31
	if k > 0 && n.Path <= t.N[k-1].Path || n.Path >= t.Next {
		return api.ErrArg
	}
	if n.Mode<<3>>12 != 0 || isDir && (len(n.Data) > 0 || n.Mode<<1>>30 != 0) {
		return api.ErrArg
	}
	if k > 0 && !nameIs(n.Name) || !textIs(n.Uid) || !textIs(n.Gid) || !textIs(n.Muid) {
		return api.ErrName
	}
	if len(n.Data) > 4096 {
		return api.ErrLong
	}
	if n.Gone {
		if n.Up != 0 {
			return api.ErrArg
		}
		return api.OK
	}
	isIn := false
	for _, m := range t.N {
		isIn = isIn || m.Path == n.Up && m.Mode >= 1<<31 && !m.Gone
	}
	if !isIn {
		return api.ErrFile
	}
	for _, m := range t.N[:k] {
		if !m.Gone && m.Up == n.Up && m.Name == n.Name {
			return api.ErrTwice
		}
	}
	return api.OK
}

// wrongRound: whether directories go round: the root is reached, then what is in something that is.
func wrongRound(t node.Tree) api.Errno {
	reached := map[uint64]bool{1: true}
	for range t.N {
		for _, n := range t.N {
			if !n.Gone && reached[n.Up] {
				reached[n.Path] = true
			}
		}
	}
	for _, n := range t.N {
		if !n.Gone && !reached[n.Path] {
			return api.ErrForm
		}
	}
	return api.OK
}

// checked asks that Check tell of x what the plain way does; it tells that.
func checked(t testing.TB, x node.Tree) api.Errno {
	t.Helper()
	want := wrong(x)
	if err := x.Check(); err != want {
		t.Errorf("P1401: Check of %#v: %v, not %v", x, err, want)
	}
	return want
}

// refused asks that Check tell want of x, and the plain way too.
func refused(t testing.TB, what string, x node.Tree, want api.Errno) {
	t.Helper()
	if err := x.Check(); err != want {
		t.Errorf("P1401: %s: Check: %v, not %v", what, err, want)
	}
	if err := wrong(x); err != want {
		t.Errorf("%s: the plain way tells %v, not %v", what, err, want)
	}
}

// copied: x, with nodes of its own.
func copied(x node.Tree) node.Tree { return node.Tree{Next: x.Next, N: slices.Clone(x.N)} }

// row: a tree of n nodes beside the root, each a file of the root's.
func row(n int) node.Tree {
	t := treeOf(uint64(10*n + 20))
	for k := range n {
		t.N = append(t.N, fileOf(uint64(10*k+10), 1, fmt.Sprint("f", k), "data"))
	}
	return t
}

func TestRootIsWrong(t *testing.T) {
	for k, change := range []func(n *node.Node){
		func(n *node.Node) { n.Path = 0 }, func(n *node.Node) { n.Path = 2 }, func(n *node.Node) { n.Path = math.MaxUint64 }, func(n *node.Node) { n.Path = 1<<32 + 1 },
		func(n *node.Node) { n.Mode = 0 }, func(n *node.Node) { n.Mode = 0o777 }, func(n *node.Node) { n.Mode = 0x7FFFFFFF }, func(n *node.Node) { n.Mode = 0x40000000 },
		func(n *node.Node) { n.Up = 0 }, func(n *node.Node) { n.Up = 2 }, func(n *node.Node) { n.Up = 10 }, func(n *node.Node) { n.Up = 1 << 32 },
		func(n *node.Node) { n.Gone = true }, func(n *node.Node) { n.Gone, n.Up = true, 0 },
		func(n *node.Node) { n.Name = "" }, func(n *node.Node) { n.Name = "//" }, func(n *node.Node) { n.Name = "root" }, func(n *node.Node) { n.Name = "." }, func(n *node.Node) { n.Name = "/\x00" },
		func(n *node.Node) { *n = node.Node{} }, func(n *node.Node) { *n = fileOf(1, 1, "/", "") }, func(n *node.Node) { *n = dirOf(1, 0, "/") }, func(n *node.Node) { *n = dirOf(10, 1, "d") },
	} {
		for _, x := range []node.Tree{treeOf(90), row(3), mixed()} {
			x.N[0].Uid = []string{"u", "\xff"}[k%2]
			change(&x.N[0])
			refused(t, fmt.Sprint("a root changed by ", k), x, api.ErrForm)
			x.N = append(x.N, node.Node{}, node.Node{Path: 3})
			refused(t, fmt.Sprint("a root changed by ", k, ", and nodes that are none"), x, api.ErrForm)
			refused(t, "no root", node.Tree{Next: x.Next, N: x.N[1:]}, api.ErrForm)
		}
	}
	for _, x := range []node.Tree{{}, {Next: 9}, {Next: 9, N: nodes{}}, {N: nodes{{}}}, {Next: 9, N: nodes{fileOf(2, 1, "a", "")}}} {
		refused(t, "no root", x, api.ErrForm)
	}
	turned := row(2)
	slices.Reverse(turned.N)
	refused(t, "the root behind all", turned, api.ErrForm)
}

// What else is wrong with the root is told as of each other node.
func TestRootAsANode(t *testing.T) {
	for k, c := range []struct {
		change func(x *node.Tree)
		want   api.Errno
	}{
		{func(x *node.Tree) { x.N[0].Mode |= 0x40000000 }, api.ErrArg}, {func(x *node.Tree) { x.N[0].Mode |= 0x20000000 }, api.ErrArg}, {func(x *node.Tree) { x.N[0].Mode |= 0x10000000 }, api.ErrArg}, {func(x *node.Tree) { x.N[0].Mode |= 0o1000 }, api.ErrArg}, {func(x *node.Tree) { x.N[0].Mode = math.MaxUint32 }, api.ErrArg},
		{func(x *node.Tree) { x.N[0].Mode = 0x80000000 }, api.OK}, {func(x *node.Tree) { x.N[0].Mode = 0x80000000 | 0o777 }, api.OK},
		{func(x *node.Tree) { x.N[0].Data = "x" }, api.ErrArg}, {func(x *node.Tree) { x.N[0].Data = strings.Repeat("x", 4097) }, api.ErrArg},
		{func(x *node.Tree) { x.Next = 1 }, api.ErrArg}, {func(x *node.Tree) { x.Next = 0 }, api.ErrArg},
		{func(x *node.Tree) { x.N[0].Uid = "\xff" }, api.ErrName}, {func(x *node.Tree) { x.N[0].Gid = "\x00" }, api.ErrName}, {func(x *node.Tree) { x.N[0].Muid = long(65) }, api.ErrName},
		{func(x *node.Tree) { x.N[0].Muid = long(65); x.N[0].Data = "x" }, api.ErrArg}, {func(x *node.Tree) { x.N[0].Muid = long(65); x.Next = 1 }, api.ErrArg}, {func(x *node.Tree) { x.N[0].Muid = long(65); x.N[0].Name = "a" }, api.ErrForm},
		{func(x *node.Tree) {
			x.N[0].Vers, x.N[0].Atime, x.N[0].Mtime = math.MaxUint32, math.MaxUint32, math.MaxUint32
		}, api.OK},
	} {
		for n := range 4 {
			x := row(n)
			c.change(&x)
			refused(t, fmt.Sprint("a root changed by ", k), x, c.want)
		}
	}
}

// breaks: what makes a file of row wrong, each in one rule alone; in the order in which the chapter names the rules. On which fields it hangs is told by letters: path, mode, name, owner, group, last one to change it, data, Up, Gone.
var breaks = []struct {
	what   string
	want   api.Errno
	order  int
	fields string
	do     func(x node.Tree, k int)
}{
	{"a path that is not above", api.ErrArg, 1, "p", func(x node.Tree, k int) { x.N[k].Path = x.N[k-1].Path }},
	{"a path that is below", api.ErrArg, 1, "p", func(x node.Tree, k int) { x.N[k].Path = x.N[k-1].Path - 1 }},
	{"a path of 0", api.ErrArg, 1, "p", func(x node.Tree, k int) { x.N[k].Path = 0 }},
	{"a path that is Next", api.ErrArg, 1, "p", func(x node.Tree, k int) { x.N[k].Path = x.Next }},
	{"a path above Next", api.ErrArg, 1, "p", func(x node.Tree, k int) { x.N[k].Path = math.MaxUint64 }},
	{"a bit of a mode", api.ErrArg, 1, "m", func(x node.Tree, k int) { x.N[k].Mode |= 0x10000000 }},
	{"another bit of a mode", api.ErrArg, 1, "m", func(x node.Tree, k int) { x.N[k].Mode |= 0o1000 }},
	{"a directory with data", api.ErrArg, 1, "md", func(x node.Tree, k int) { x.N[k].Mode, x.N[k].Data = aDir, "x" }},
	{"a directory to append to", api.ErrArg, 1, "md", func(x node.Tree, k int) { x.N[k].Mode, x.N[k].Data = aDir|0x40000000, "" }},
	{"an exclusive directory", api.ErrArg, 1, "md", func(x node.Tree, k int) { x.N[k].Mode, x.N[k].Data = aDir|0x20000000, "" }},
	{"no name", api.ErrName, 2, "n", func(x node.Tree, k int) { x.N[k].Name = "" }},
	{"the root's name", api.ErrName, 2, "n", func(x node.Tree, k int) { x.N[k].Name = "/" }},
	{"a long name", api.ErrName, 2, "n", func(x node.Tree, k int) { x.N[k].Name = long(29) }},
	{"a wrong Uid", api.ErrName, 2, "o", func(x node.Tree, k int) { x.N[k].Uid = "\xff" }},
	{"a wrong Gid", api.ErrName, 2, "g", func(x node.Tree, k int) { x.N[k].Gid = "\x00" }},
	{"a wrong Muid", api.ErrName, 2, "l", func(x node.Tree, k int) { x.N[k].Muid = long(65) }},
	{"too much data", api.ErrLong, 3, "d", func(x node.Tree, k int) { x.N[k].Data = strings.Repeat("d", 4097) }},
	{"an Up that is none", api.ErrFile, 4, "u", func(x node.Tree, k int) { x.N[k].Up = 3 }},
	{"an Up of 0", api.ErrFile, 4, "u", func(x node.Tree, k int) { x.N[k].Up = 0 }},
	{"an Up that is a file", api.ErrFile, 4, "u", func(x node.Tree, k int) { x.N[k].Up = x.N[6].Path }},
	{"a name twice", api.ErrTwice, 5, "nuG", func(x node.Tree, k int) { x.N[k].Name = x.N[1].Name }},
	{"an Up of what is Gone", api.ErrArg, 6, "uG", func(x node.Tree, k int) { x.N[k].Gone = true }},
}

// Each rule is broken alone, at each node.
func TestEachRule(t *testing.T) {
	for _, b := range breaks {
		for k := 2; k <= 6; k++ {
			x := row(6)
			x.N[6].Data = ""
			b.do(x, k)
			if b.what == "an Up that is a file" && k == 6 {
				x.N[k].Up = x.N[k-1].Path
			}
			refused(t, fmt.Sprint(b.what, " at ", k), x, b.want)
		}
	}
}

// Two rules are broken in one node: the one that the chapter names first is told. Where both hang on one field, one of them may mend what the other breaks; the plain way tells that.
func TestTwoRulesInOneNode(t *testing.T) {
	for _, a := range breaks {
		for _, b := range breaks {
			for k := 2; k < 6; k++ {
				x := row(6)
				b.do(x, k)
				a.do(x, k)
				want := a.want
				if b.order < a.order {
					want = b.want
				}
				if err := checked(t, x); err != want && !strings.ContainsAny(a.fields, b.fields) {
					t.Errorf("%s and %s at %d: the plain way tells %v, not %v", a.what, b.what, k, err, want)
				}
			}
		}
	}
}

// Rules are broken in two nodes: the first node's is told.
func TestRulesInTwoNodes(t *testing.T) {
	for _, a := range breaks {
		for _, b := range breaks {
			for k := 2; k < 6; k++ {
				for j := k + 1; j < 6; j++ {
					x := row(6)
					b.do(x, j)
					a.do(x, k)
					if err := checked(t, x); err != a.want {
						t.Errorf("%s at %d and %s at %d: the plain way tells %v", a.what, k, b.what, j, err)
					}
				}
			}
		}
	}
}

// A rule of a node is told ahead of what is wrong with the tree as a whole; there, too many nodes ahead of too many bytes, and these ahead of directories that go round.
func TestTheWholeTree(t *testing.T) {
	for many := range 2 {
		for full := range 2 {
			for round := range 2 {
				make := func() node.Tree {
					x := row(6)
					x.Next = math.MaxUint64
					if full == 1 {
						for k := 2; k < 7; k++ {
							x.N[k].Data = strings.Repeat("d", 4000)
						}
					}
					if round == 1 {
						x.N = append(x.N, dirOf(100, 101, "a"), dirOf(101, 100, "b"))
					}
					for k := range uint64(60 * many) {
						x.N = append(x.N, fileOf(200+k, 1, fmt.Sprint("g", k), ""))
					}
					return x
				}
				want := api.OK
				switch {
				case many == 1:
					want = api.ErrLong
				case full == 1:
					want = api.ErrFull
				case round == 1:
					want = api.ErrForm
				}
				refused(t, fmt.Sprint("many, full, round: ", many, full, round), make(), want)
				for _, b := range breaks {
					for k := 2; k < 6; k++ {
						x := make()
						b.do(x, k)
						refused(t, fmt.Sprint(b.what, " at ", k, " with many, full, round: ", many, full, round), x, b.want)
					}
				}
			}
		}
	}
}

func TestPaths(t *testing.T) {
	for _, c := range []struct {
		next uint64
		l    []uint64
		want api.Errno
	}{
		{2, nil, api.OK}, {1, nil, api.ErrArg}, {0, nil, api.ErrArg}, {math.MaxUint64, nil, api.OK}, {3, []uint64{2}, api.OK}, {2, []uint64{2}, api.ErrArg}, {1 << 32, []uint64{1 << 32}, api.ErrArg}, {1<<32 + 1, []uint64{1 << 32}, api.OK}, {3, []uint64{1 << 32}, api.ErrArg},
		{math.MaxUint64, []uint64{math.MaxUint64 - 1}, api.OK}, {math.MaxUint64, []uint64{math.MaxUint64}, api.ErrArg}, {math.MaxUint64, []uint64{2, 3, 1 << 63, math.MaxUint64 - 2, math.MaxUint64 - 1}, api.OK},
		{9, []uint64{0}, api.ErrArg}, {9, []uint64{1}, api.ErrArg}, {9, []uint64{2, 1}, api.ErrArg}, {9, []uint64{2, 2}, api.ErrArg}, {9, []uint64{3, 2}, api.ErrArg}, {9, []uint64{2, 4, 3, 5}, api.ErrArg}, {9, []uint64{2, 3, 4, 4}, api.ErrArg}, {9, []uint64{2, 3, 4, 8}, api.OK}, {9, []uint64{2, 3, 4, 9}, api.ErrArg}, {9, []uint64{2, 9, 4, 5}, api.ErrArg}, {math.MaxUint64, []uint64{1<<32 + 5, 6}, api.ErrArg},
	} {
		x := treeOf(c.next)
		for k, path := range c.l {
			x.N = append(x.N, fileOf(path, 1, fmt.Sprint("f", k), ""))
		}
		refused(t, fmt.Sprint(c.next, c.l), x, c.want)
		for k := range c.l {
			x.N[k+1].Gone, x.N[k+1].Up = true, 0
		}
		refused(t, fmt.Sprint("all Gone: ", c.next, c.l), x, c.want)
	}
}

// Each bit of a mode alone, of a file, of a directory and of what is Gone.
func TestModes(t *testing.T) {
	of := func(mode uint32, data string, at int, gone bool) node.Tree {
		x := row(3)
		n := &x.N[at]
		n.Mode, n.Data, n.Gone = mode, data, gone
		if gone {
			n.Up = 0
		}
		return x
	}
	for bit := range 32 {
		ofFiles, ofDirs := api.ErrArg, api.ErrArg
		switch {
		case bit < 9, bit == 31:
			ofFiles, ofDirs = api.OK, api.OK
		case bit == 29, bit == 30:
			ofFiles = api.OK
		}
		for at := 1; at <= 3; at++ {
			for _, gone := range []bool{false, true} {
				what := fmt.Sprint("bit ", bit, " of a mode at ", at)
				refused(t, what, of(1<<bit, "", at, gone), ofFiles)
				refused(t, what+", a directory", of(1<<31|1<<bit, "", at, gone), ofDirs)
				refused(t, what+", a directory with data", of(1<<31|1<<bit, "x", at, gone), api.ErrArg)
				for _, mode := range []uint32{0, 0o644, aDir, 0x40000000, 0x60000000, 0x60000777, 0xFFFFFFFF} {
					checked(t, of(mode^1<<bit, "", at, gone))
					checked(t, of(mode^1<<bit, "data", at, gone))
				}
			}
		}
	}
}

func TestNamesAndTexts(t *testing.T) {
	fields := []func(n *node.Node) *string{func(n *node.Node) *string { return &n.Uid }, func(n *node.Node) *string { return &n.Gid }, func(n *node.Node) *string { return &n.Muid }}
	for k := range 4 {
		for _, gone := range []bool{false, true} {
			make := func() (node.Tree, *node.Node) {
				x := row(3)
				if n := &x.N[k]; gone && k > 0 {
					n.Gone, n.Up = true, 0
				}
				return x, &x.N[k]
			}
			for _, field := range fields {
				for _, s := range []string{"", "a", "/", "..", "a b\n", long(64), strings.Repeat("\u00e9", 32), strings.Repeat("\U0001F600", 16), "\x01", "\ufffd"} {
					x, n := make()
					*field(n) = s
					refused(t, fmt.Sprintf("%q at %d", s, k), x, api.OK)
				}
				for _, s := range wrongTexts() {
					x, n := make()
					*field(n) = s
					refused(t, fmt.Sprintf("%q at %d", s, k), x, api.ErrName)
				}
			}
			if k == 0 {
				continue
			}
			for _, s := range []string{"a", "...", "..a", " ", "~", "\x7f", long(1), long(28), strings.Repeat("\u00e9", 14), strings.Repeat("\U0001F600", 7), "\\", "\ufffd"} {
				x, n := make()
				n.Name = s
				refused(t, fmt.Sprintf("%q at %d", s, k), x, api.OK)
			}
			for _, s := range wrongNames() {
				x, n := make()
				n.Name = s
				refused(t, fmt.Sprintf("%q at %d", s, k), x, api.ErrName)
			}
		}
	}
}

// Data of each length about the largest, of one file and of all.
func TestData(t *testing.T) {
	for k := 1; k <= 5; k++ {
		for _, gone := range []bool{false, true} {
			for _, c := range []struct {
				length int
				want   api.Errno
			}{{0, api.OK}, {1, api.OK}, {4095, api.OK}, {4096, api.OK}, {4097, api.ErrLong}, {8192, api.ErrLong}, {65536 + 5, api.ErrLong}, {1 << 20, api.ErrLong}} {
				x := row(5)
				n := &x.N[k]
				n.Data = strings.Repeat("\xff", c.length)
				if n.Gone = gone; gone {
					n.Up = 0
				}
				refused(t, fmt.Sprint("data of ", c.length, " at ", k), x, c.want)
			}
			for _, c := range []struct {
				length int
				want   api.Errno
			}{{0, api.OK}, {383, api.OK}, {384, api.OK}, {385, api.ErrFull}, {4096, api.ErrFull}, {4097, api.ErrLong}} {
				x := row(5)
				for j := 1; j <= 5; j++ {
					x.N[j].Data = strings.Repeat("d", 4000)
				}
				n := &x.N[k]
				n.Data = strings.Repeat("\x00", c.length)
				if n.Gone = gone; gone {
					n.Up = 0
				}
				refused(t, fmt.Sprint("data of 16000 and ", c.length, " at ", k), x, c.want)
			}
		}
	}
	for n := 2; n <= 64; n++ {
		x := wide(n, strings.Repeat("d", min(4096, 16384/(n-1))))
		refused(t, fmt.Sprint("data shared by ", n), x, api.OK)
		x.N[n-1].Data += "x"
		for ; x.Bytes() <= 16384+5 && len(x.N[n-1].Data) <= 4096; x.N[n-1].Data += "x" {
			want := api.OK
			if x.Bytes() > 16384 {
				want = api.ErrFull
			}
			refused(t, fmt.Sprint("data shared by ", n, ": ", x.Bytes()), x, want)
		}
	}
}

// Trees of each number of nodes to beyond the most, some of them Gone.
func TestNumbersOfNodes(t *testing.T) {
	for n := 1; n < 140; n++ {
		want := api.OK
		if n > 64 {
			want = api.ErrLong
		}
		refused(t, fmt.Sprint(n, " files"), wide(n, ""), want)
		refused(t, fmt.Sprint(n, " directories in one another"), chain(n, false), want)
		refused(t, fmt.Sprint(n, " directories in one another, turned"), chain(n, true), want)
		x := wide(n, "")
		for k := 1; k < n; k++ {
			if k%3 != 0 {
				x.N[k].Gone, x.N[k].Up = true, 0
			}
		}
		refused(t, fmt.Sprint(n, " nodes, most of them Gone"), x, want)
	}
}

// Each Up of each node: a directory ahead, a directory behind, itself, a file, what is Gone, what is not there.
func TestUps(t *testing.T) {
	goneDir := dirOf(8, 0, "g")
	goneDir.Gone = true
	x := treeOf(30, dirOf(3, 1, "a"), fileOf(5, 3, "b", ""), dirOf(6, 3, "c"), goneDir, goneOf(9, "h", ""), fileOf(11, 6, "d", ""), dirOf(12, 6, "e"), dirOf(13, 1, "f"))
	for k := 1; k < len(x.N); k++ {
		for up := range uint64(32) {
			y := copied(x)
			y.N[k].Up = up
			want := api.OK
			n := y.N[k]
			switch {
			case n.Gone && up != 0:
				want = api.ErrArg
			case n.Gone:
			case up != 1 && up != 3 && up != 6 && up != 12 && up != 13:
				want = api.ErrFile
			case n.Path == 3 && (up == 3 || up == 6 || up == 12), n.Path == 6 && (up == 6 || up == 12), n.Path == 12 && up == 12, n.Path == 13 && up == 13:
				want = api.ErrForm
			}
			refused(t, fmt.Sprintf("an Up of %d of node %d", up, n.Path), y, want)
		}
		for _, up := range []uint64{1<<32 + 1, 1 << 63, math.MaxUint64} {
			y := copied(x)
			y.N[k].Up = up
			want := api.ErrFile
			if y.N[k].Gone {
				want = api.ErrArg
			}
			refused(t, "a far Up", y, want)
		}
	}
}

// Names twice: in one directory and in two, of what is Gone ahead and behind.
func TestTwice(t *testing.T) {
	gone := func(n node.Node) node.Node { n.Gone, n.Up = true, 0; return n }
	for k, c := range []struct {
		l    nodes
		want api.Errno
	}{
		{nodes{fileOf(2, 1, "a", ""), fileOf(3, 1, "a", "")}, api.ErrTwice}, {nodes{fileOf(2, 1, "a", ""), dirOf(3, 1, "a")}, api.ErrTwice}, {nodes{dirOf(2, 1, "a"), dirOf(3, 1, "a")}, api.ErrTwice}, {nodes{fileOf(2, 1, "a", ""), fileOf(3, 1, "A", "")}, api.OK}, {nodes{fileOf(2, 1, "a", ""), fileOf(3, 1, "a ", "")}, api.OK},
		{nodes{goneOf(2, "a", ""), fileOf(3, 1, "a", "")}, api.OK}, {nodes{fileOf(2, 1, "a", ""), goneOf(3, "a", "")}, api.OK}, {nodes{goneOf(2, "a", ""), goneOf(3, "a", "")}, api.OK}, {nodes{gone(dirOf(2, 1, "a")), dirOf(3, 1, "a"), gone(dirOf(4, 1, "a"))}, api.OK},
		{nodes{dirOf(2, 1, "a"), fileOf(3, 2, "a", "")}, api.OK}, {nodes{dirOf(2, 1, "a"), dirOf(3, 2, "a"), dirOf(4, 3, "a"), fileOf(5, 4, "a", "")}, api.OK}, {nodes{dirOf(2, 1, "a"), fileOf(3, 2, "a", ""), fileOf(4, 2, "a", "")}, api.ErrTwice}, {nodes{dirOf(2, 1, "a"), dirOf(3, 1, "b"), fileOf(4, 2, "c", ""), fileOf(5, 3, "c", "")}, api.OK},
		{nodes{fileOf(2, 1, "a", ""), goneOf(3, "a", ""), fileOf(4, 1, "b", ""), fileOf(5, 1, "a", "")}, api.ErrTwice}, {nodes{fileOf(2, 9, "a", ""), fileOf(3, 9, "a", ""), dirOf(9, 1, "a")}, api.ErrTwice}, {nodes{fileOf(2, 9, "a", ""), dirOf(9, 1, "a")}, api.OK},
		// The error is told of the second, so that what is wrong between the two goes ahead, and what is behind does not.
		{nodes{fileOf(2, 1, "a", ""), fileOf(3, 1, "", ""), fileOf(4, 1, "a", "")}, api.ErrName}, {nodes{fileOf(2, 1, "a", ""), fileOf(3, 1, "a", ""), fileOf(4, 1, "", "")}, api.ErrTwice}, {nodes{fileOf(2, 7, "a", ""), fileOf(3, 7, "a", "")}, api.ErrFile},
	} {
		refused(t, fmt.Sprint("names ", k), treeOf(30, c.l...), c.want)
	}
	for n := 3; n <= 64; n++ {
		x := wide(n, "")
		for _, k := range []int{1, n / 2, n - 2} {
			for _, j := range []int{k + 1, n - 1} {
				y := copied(x)
				y.N[j].Name = y.N[k].Name
				if j > k {
					refused(t, fmt.Sprint("one name at ", k, " and ", j), y, api.ErrTwice)
				}
			}
		}
	}
}

// Directories that go round: one in itself, two and more in each other, below them others, and apart from them what is right.
func TestDirectoriesThatGoRound(t *testing.T) {
	for n := 1; n <= 63; n++ {
		for _, step := range []int{1, n - 1, 2} {
			x := treeOf(1000)
			for k := range n {
				x.N = append(x.N, dirOf(uint64(10*k+10), uint64((k+step)%n*10+10), "d"+fmt.Sprint(k)))
			}
			refused(t, fmt.Sprint(n, " directories that go round"), x, api.ErrForm)
			for k := range n {
				y := copied(x)
				y.N[k+1].Up = 1
				checked(t, y)
			}
		}
	}
	x := treeOf(1000, dirOf(2, 1, "a"), dirOf(3, 2, "b"), fileOf(4, 3, "c", ""), dirOf(5, 6, "d"), dirOf(6, 5, "e"), dirOf(7, 6, "f"), fileOf(8, 7, "g", ""))
	refused(t, "directories that go round beside others", x, api.ErrForm)
	x.N[5].Up = 3
	refused(t, "directories that go round no more", x, api.OK)
	if s := fmt.Sprint(x.Way(8)); s != "[a b e f g]" {
		t.Errorf("P1401: Way: %s", s)
	}
}

// Each tree of the root and three nodes of a few kinds: told as the plain way tells it, and asked if it may be.
func TestEachSmallTree(t *testing.T) {
	var kinds nodes
	for up := range uint64(5) {
		for _, mode := range []uint32{aDir, aFile} {
			for _, gone := range []bool{false, true} {
				for _, name := range []string{"a", "b"} {
					kinds = append(kinds, node.Node{Up: up, Mode: mode, Gone: gone, Name: name})
				}
			}
		}
	}
	counts := map[api.Errno]int{}
	at := func(path uint64, k int) node.Node { n := kinds[k]; n.Path = path; return n }
	for a := range kinds {
		for b := range kinds {
			for c := range kinds {
				x := treeOf(5, at(2, a), at(3, b), at(4, c))
				err := checked(t, x)
				counts[err]++
				if err != api.OK {
					continue
				}
				for path := range uint64(6) {
					got(t, x, path)
					found(t, x, path, "a")
					found(t, x, path, "b")
				}
				kept(t, x)
			}
		}
	}
	if counts[api.OK] < 500 || counts[api.ErrFile] < 1000 || counts[api.ErrTwice] < 100 || counts[api.ErrForm] < 100 || counts[api.ErrArg] < 1000 {
		t.Errorf("of all small trees: %v", counts)
	}
}

// any: a node of any kind; some of its fields may be wrong.
func (d *dice) any(path uint64) node.Node {
	n := fileOf(path, 1, []string{"a", "b", "c", "d", "e", "f"}[d.below(6)], "")
	if d.below(2) == 0 {
		n.Mode = aDir
	}
	switch d.below(30) {
	case 0:
		n.Path = uint64(d.below(10))
	case 1:
		n.Mode ^= 1 << d.below(32)
	case 2:
		n.Name = wrongNames()[d.below(len(wrongNames()))]
	case 3:
		n.Gid = wrongTexts()[d.below(len(wrongTexts()))]
	case 4:
		n.Data = strings.Repeat("d", 4090+d.below(10))
	case 5:
		n.Up = uint64(d.below(12))
	case 6, 7, 8:
		n.Gone = true
		if d.below(4) > 0 {
			n.Up = 0
		}
	case 9:
		n.Up = uint64(2 + d.below(8))
	default:
		n.Up = uint64(1 + d.below(3)*d.below(2)*d.below(3))
	}
	return n
}

// Any trees are told as the plain way tells them; what it takes is asked, what it refuses neither panics nor is changed.
func TestAnyTrees(t *testing.T) {
	d := dice(1401)
	counts := map[api.Errno]int{}
	for range 30000 {
		x := treeOf(uint64(8 + d.below(4)))
		for path := range uint64(1 + d.below(8)) {
			if d.below(5) > 0 {
				x.N = append(x.N, d.any(path+2))
			}
		}
		err := checked(t, x)
		counts[err]++
		if err == api.OK {
			for path := range uint64(11) {
				got(t, x, path)
				found(t, x, path, "a")
			}
			kept(t, x)
			continue
		}
		old := copied(x)
		useAll(x)
		if !x.Same(old) {
			t.Fatalf("P2: %#v turned into %#v", old, x)
		}
	}
	for err, n := range map[api.Errno]int{api.OK: 2000, api.ErrArg: 2000, api.ErrName: 1000, api.ErrLong: 100, api.ErrFile: 2000, api.ErrTwice: 1000, api.ErrForm: 300} {
		if counts[err] < n {
			t.Errorf("thrown %v", counts)
		}
	}
}
