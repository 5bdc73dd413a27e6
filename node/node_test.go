package node_test

import (
	"cmp"
	"fmt"
	"math"
	"slices"
	"strings"
	"testing"
	"unicode/utf8"

	"loggia/api"
	"loggia/node"
	"loggia/qid"
	"loggia/stat"
)

// nodes: a list of nodes, by a shorter name.
type nodes = []node.Node

// The kinds of the nodes below.
const (
	aDir  = 0x80000000 | 0o755
	aFile = 0o644
)

// long: n bytes of a name.
func long(n int) string { return strings.Repeat("n", n) }

// own: n, of somebody.
func own(n node.Node) node.Node {
	n.Uid, n.Gid, n.Muid = "ann", "staff", "bob"
	return n
}

// dirOf, fileOf, goneOf: nodes, with numbers of their own.
func dirOf(path, up uint64, name string) node.Node {
	return own(node.Node{Path: path, Up: up, Name: name, Mode: aDir, Vers: uint32(path), Atime: 100 + uint32(path), Mtime: 200 + uint32(path)})
}

func fileOf(path, up uint64, name, data string) node.Node {
	return own(node.Node{Path: path, Up: up, Name: name, Mode: aFile, Data: data, Vers: 3 * uint32(path), Atime: 7, Mtime: 8})
}

func goneOf(path uint64, name, data string) node.Node {
	n := fileOf(path, 0, name, data)
	n.Gone = true
	return n
}

// rootOf: the root of the trees below.
func rootOf() node.Node {
	return node.Node{Path: 1, Up: 1, Name: "/", Mode: 0x80000000 | 0o775, Uid: "adm", Gid: "adm", Muid: "adm", Atime: 5, Mtime: 5}
}

// treeOf: the root and these, and a Next far behind them.
func treeOf(next uint64, l ...node.Node) node.Tree {
	return node.Tree{Next: next, N: slices.Concat(nodes{rootOf()}, l)}
}

// chain: n nodes, each directory in the one ahead; or each in the one behind it, the first but for the root being the deepest.
func chain(n int, turned bool) node.Tree {
	t := treeOf(uint64(n) + 1)
	for p := uint64(2); p <= uint64(n); p++ {
		up := p - 1
		if turned {
			up = p + 1
			if p == uint64(n) {
				up = 1
			}
		}
		t.N = append(t.N, dirOf(p, up, fmt.Sprint("d", p)))
	}
	return t
}

// wide: the root and n-1 files, named so that their order is that of their paths turned round.
func wide(n int, data string) node.Tree {
	t := treeOf(uint64(10 * n))
	for k := range n - 1 {
		t.N = append(t.N, fileOf(uint64(3*k+5), 1, fmt.Sprintf("f%03d", 500-k), data))
	}
	return t
}

// mixed: directories in one another, files and nodes that are Gone; names whose order is not that of the paths.
func mixed() node.Tree {
	log := fileOf(9, 4, "log", "one\ntwo\n")
	log.Mode = 0x40000000 | 0o620
	lock := fileOf(12, 1, "Lock", "")
	lock.Mode = 0x20000000 | 0o600
	both := fileOf(13, 14, "both", "\x00\xff")
	both.Mode = 0x60000000
	goneDir := dirOf(15, 0, "var")
	goneDir.Gone = true
	return treeOf(40,
		fileOf(2, 1, "zoo", "zebra"), dirOf(3, 1, "usr"), dirOf(4, 3, "ann"), goneOf(6, "zoo", "old"), fileOf(7, 14, "a", ""), fileOf(8, 3, "a", "aa"),
		log, fileOf(10, 4, "a", "aaa"), goneOf(11, "a", ""), lock, both, dirOf(14, 4, "deep"), goneDir, dirOf(16, 1, "empty"), fileOf(20, 3, "..a", "."), fileOf(39, 1, "\u00e9", "\u00e9"))
}

// goodTrees: trees that Check takes.
func goodTrees() []node.Tree {
	big := treeOf(math.MaxUint64, fileOf(2, math.MaxUint64-1, "in", ""), fileOf(1<<32, 1, "b", "x"), fileOf(1<<63, 1, "c", "y"), goneOf(math.MaxUint64-2, "b", "z"), dirOf(math.MaxUint64-1, 1, "d"))
	bare := treeOf(9, node.Node{Path: 2, Up: 1, Name: "a"}, node.Node{Path: 3, Name: "b", Gone: true}, node.Node{Path: 4, Up: 1, Name: "d", Mode: 0x80000000}, node.Node{Path: 5, Up: 4, Name: "a"})
	named := treeOf(5, fileOf(2, 1, long(28), ""), fileOf(4, 1, long(27), ""))
	named.N[1].Uid, named.N[1].Gid, named.N[2].Muid = long(64), strings.Repeat("\u00e9", 32), "a/b\n.."
	most := wide(64, strings.Repeat("q", 256))
	most.N[60].Data += strings.Repeat("r", 16384-63*256)
	full := treeOf(7, fileOf(2, 1, "a", strings.Repeat("a", 4096)), goneOf(3, "b", strings.Repeat("\x00", 4096)), fileOf(4, 1, "c", strings.Repeat("\xff", 4096)), fileOf(5, 1, "d", strings.Repeat("d", 4096)))
	return []node.Tree{node.New("me", 7), node.New("", 0), treeOf(2), treeOf(3, fileOf(2, 1, "a", "b")), treeOf(3, dirOf(2, 1, "a")), treeOf(3, goneOf(2, "a", "b")), mixed(), big, bare, named, most, full, chain(5, false), chain(5, true), chain(64, false), chain(64, true)}
}

// wrongNames: names that are none.
func wrongNames() []string {
	return []string{"", ".", "..", "/", "a/", "/a", "a/b", "\x00", "a\x00", "\n", "a\x1f", "\x80", "a\xff", "\xc0\xaf", "\xed\xa0\x80", long(29), long(64), long(65), long(1000), strings.Repeat("\u00e9", 15)}
}

// wrongTexts: texts that no message may have.
func wrongTexts() []string {
	return []string{"\x00", "a\x00", "\x80", "a\xff", "\xc0\xaf", "\xed\xa0\x80", "\xf4\x90\x80\x80", long(65), long(1000), strings.Repeat("\u00e9", 33), long(64) + "\x00"}
}

// nameIs: whether s may be a name, the plain way.
func nameIs(s string) bool {
	for k := range len(s) {
		if s[k] < 0x20 || s[k] == '/' {
			return false
		}
	}
	return s != "" && s != "." && s != ".." && len(s) <= 28 && utf8.ValidString(s)
}

// textIs: whether s may be a text, the plain way.
func textIs(s string) bool {
	return len(s) <= 64 && utf8.ValidString(s) && !strings.Contains(s, "\x00")
}

// told: the node of that path, the plain way: nil if there is none.
func told(t node.Tree, path uint64) *node.Node {
	for k := range t.N {
		if t.N[k].Path == path {
			return &t.N[k]
		}
	}
	return nil
}

// kidsOf: what is in dir, the plain way: each time the one of the least name is taken.
func kidsOf(t node.Tree, dir uint64) nodes {
	var l nodes
	last := ""
	for {
		var least *node.Node
		for k := range t.N {
			n := &t.N[k]
			if n.Path != 1 && !n.Gone && n.Up == dir && n.Name > last && (least == nil || n.Name < least.Name) {
				least = n
			}
		}
		if least == nil {
			return l
		}
		l, last = append(l, *least), least.Name
	}
}

// wayOf: the names to path, the plain way: by going down from the root.
func wayOf(t node.Tree, path uint64) []string {
	var down func(dir uint64) []string
	down = func(dir uint64) []string {
		for _, n := range kidsOf(t, dir) {
			if n.Path == path {
				return []string{n.Name}
			}
			if l := down(n.Path); l != nil {
				return append([]string{n.Name}, l...)
			}
		}
		return nil
	}
	return down(1)
}

// with: the tree t and n in it, the plain way.
func with(t node.Tree, n node.Node) node.Tree {
	return sorted(t.Next, append(without(t, n.Path).N, n))
}

// without: the tree t without the node of that path, the plain way.
func without(t node.Tree, path uint64) node.Tree {
	var l nodes
	for _, n := range t.N {
		if n.Path != path {
			l = append(l, n)
		}
	}
	return sorted(t.Next, l)
}

// sorted: these nodes as a tree, rising.
func sorted(next uint64, l nodes) node.Tree {
	l = slices.Clone(l)
	slices.SortFunc(l, func(a, b node.Node) int { return cmp.Compare(a.Path, b.Path) })
	return node.Tree{Next: next, N: l}
}

// isZero: whether t is the zero value.
func isZero(t node.Tree) bool { return t.Next == 0 && len(t.N) == 0 }

// got asks for each call that takes a path.
func got(t testing.TB, x node.Tree, path uint64) {
	t.Helper()
	want, there := node.Node{}, false
	if n := told(x, path); n != nil {
		want, there = *n, true
	}
	if n, ok := x.Get(path); n != want || ok != there {
		t.Errorf("P1401: Get(%d): %#v, %v, not %#v", path, n, ok, want)
	}
	if l := x.Kids(path); !slices.Equal(l, kidsOf(x, path)) {
		t.Errorf("P1401: Kids(%d): %#v, not %#v", path, l, kidsOf(x, path))
	}
	if l := x.Way(path); !slices.Equal(l, wayOf(x, path)) {
		t.Errorf("P1401: Way(%d): %q, not %q", path, l, wayOf(x, path))
	}
	if y := x.Drop(path); !slices.Equal(y.N, without(x, path).N) || y.Next != x.Next {
		t.Errorf("P1401: Drop(%d) of %d nodes: %#v", path, len(x.N), y)
	}
}

// found asks for Find.
func found(t testing.TB, x node.Tree, dir uint64, name string) {
	t.Helper()
	want, there := node.Node{}, false
	for _, n := range kidsOf(x, dir) {
		if n.Name == name {
			want, there = n, true
		}
	}
	if n, ok := x.Find(dir, name); n != want || ok != there {
		t.Errorf("P1401: Find(%d, %q): %#v, %v, not %#v", dir, name, n, ok, want)
	}
}

// put asks for Set.
func put(t testing.TB, x node.Tree, n node.Node) {
	t.Helper()
	if y := x.Set(n); !slices.Equal(y.N, with(x, n).N) || y.Next != x.Next {
		t.Errorf("P1401: Set(%#v): %#v", n, y)
	}
}

// paths: those of x, those beside them, and some others.
func paths(x node.Tree) []uint64 {
	l := []uint64{0, 1, 2, 99, 1 << 31, 1 << 32, 1 << 63, math.MaxUint64 - 1, math.MaxUint64, x.Next - 1, x.Next}
	for _, n := range x.N {
		l = append(l, n.Path-1, n.Path, n.Path+1, n.Up)
	}
	slices.Sort(l)
	return slices.Compact(l)
}

// asked asks x, which Check takes, for all that can be asked of it.
func asked(t testing.TB, x node.Tree) {
	t.Helper()
	if err := x.Check(); err != api.OK {
		t.Fatalf("P1401: Check of %#v: %v", x, err)
	}
	sum := 0
	names := []string{"", ".", "..", "/", "no such name"}
	for _, n := range x.N {
		sum += len(n.Data)
		names = append(names, n.Name)
	}
	if x.Bytes() != sum {
		t.Errorf("P1401: Bytes() of %#v: %d, not %d", x, x.Bytes(), sum)
	}
	for _, path := range paths(x) {
		got(t, x, path)
		put(t, x, node.Node{Path: path, Name: "set"})
	}
	for _, n := range x.N {
		for _, name := range names {
			found(t, x, n.Path, name)
		}
	}
	kept(t, x)
}

func TestNewWrittenOut(t *testing.T) {
	for _, c := range []struct {
		uid string
		now uint32
	}{{"", 0}, {"a", 1}, {"me", 7}, {"glenda", math.MaxUint32}, {long(64), 1 << 31}, {"\u00e9", 0x01020304}} {
		x := node.New(c.uid, c.now)
		want := node.Node{Path: 1, Mode: 0x80000000 + 0o775, Atime: c.now, Mtime: c.now, Name: "/", Uid: c.uid, Gid: c.uid, Muid: c.uid, Up: 1}
		if x.Next != 2 || !slices.Equal(x.N, nodes{want}) || x.Check() != api.OK {
			t.Errorf("P1401: New(%q, %d): %#v, %v", c.uid, c.now, x, x.Check())
		}
		asked(t, x)
	}
	for _, uid := range wrongTexts() {
		if err := node.New(uid, 3).Check(); err != api.ErrName {
			t.Errorf("P1401: Check of New(%q): %v", uid, err)
		}
	}
}

func TestTreeWrittenOut(t *testing.T) {
	x := mixed()
	for path, want := range map[uint64]string{0: "", 1: "Lock empty usr zoo \u00e9", 2: "", 3: "..a a ann", 4: "a deep log", 14: "a both", 15: "", 16: "", 6: "", 40: ""} {
		var l []string
		for _, n := range x.Kids(path) {
			l = append(l, n.Name)
		}
		if s := strings.Join(l, " "); s != want {
			t.Errorf("P1401: Kids(%d): %q, not %q", path, s, want)
		}
	}
	for path, want := range map[uint64]string{0: "", 1: "", 2: "zoo", 3: "usr", 4: "usr|ann", 6: "", 7: "usr|ann|deep|a", 8: "usr|a", 9: "usr|ann|log", 11: "", 12: "Lock", 13: "usr|ann|deep|both", 14: "usr|ann|deep", 15: "", 16: "empty", 5: "", 39: "\u00e9", 40: "", math.MaxUint64: ""} {
		if s := strings.Join(x.Way(path), "|"); s != want {
			t.Errorf("P1401: Way(%d): %q, not %q", path, s, want)
		}
	}
	for _, c := range []struct {
		dir  uint64
		name string
		want uint64
	}{{1, "zoo", 2}, {1, "a", 0}, {3, "a", 8}, {4, "a", 10}, {14, "a", 7}, {1, "usr", 3}, {1, "/", 0}, {0, "a", 0}, {0, "zoo", 0}, {0, "var", 0}, {0, "/", 0}, {2, "zoo", 0}, {15, "", 0}, {1, "", 0}, {1, "lock", 0}, {3, "..a", 20}, {3, "..", 0}} {
		n, ok := x.Find(c.dir, c.name)
		if n.Path != c.want || ok != (c.want > 0) {
			t.Errorf("P1401: Find(%d, %q): %#v, %v", c.dir, c.name, n, ok)
		}
	}
	if n, ok := x.Get(6); n != goneOf(6, "zoo", "old") || !ok {
		t.Errorf("P1401: Get of a node that is Gone: %#v, %v", n, ok)
	}
	if x.Bytes() != 5+3+2+8+3+2+1+2 {
		t.Errorf("P1401: Bytes(): %d", x.Bytes())
	}
	asked(t, x)
}

func TestGoodTrees(t *testing.T) {
	for _, x := range goodTrees() {
		asked(t, x)
	}
}

// No nodes at all: nothing is there, and one can be set.
func TestNoNodes(t *testing.T) {
	for _, x := range []node.Tree{{}, {N: nodes{}}, {Next: 5}, {Next: 5, N: make(nodes, 0, 3)}} {
		for _, path := range []uint64{0, 1, 2, math.MaxUint64} {
			got(t, x, path)
			put(t, x, fileOf(path, 1, "a", "b"))
			found(t, x, path, "a")
		}
		if x.Bytes() != 0 || x.Check() != api.ErrForm {
			t.Errorf("P1401: of no nodes: %d, %v", x.Bytes(), x.Check())
		}
		if !x.Same(node.Tree{Next: x.Next}) || !x.Same(node.Tree{Next: x.Next, N: nodes{}}) || x.Same(node.Tree{Next: 1}) || x.Same(node.New("", 0)) {
			t.Errorf("P1401: Same of no nodes")
		}
		if y, err := node.Decode(node.Encode(x)); err != api.ErrForm || !isZero(y) {
			t.Errorf("P1401: no nodes in bytes and back: %#v, %v", y, err)
		}
	}
}

// A way of each length that 64 nodes let it have.
func TestDeepWays(t *testing.T) {
	for n := 1; n <= 64; n++ {
		for _, turned := range []bool{false, true} {
			x := chain(n, turned)
			if err := x.Check(); err != api.OK {
				t.Fatalf("P1401: a chain of %d: %v", n, err)
			}
			for k := range x.N {
				path := x.N[k].Path
				want := wayOf(x, path)
				if l := x.Way(path); !slices.Equal(l, want) {
					t.Errorf("P1401: Way(%d) in a chain of %d: %q, not %q", path, n, l, want)
				}
			}
			deepest := uint64(n)
			if turned {
				deepest = 2
			}
			if l := x.Way(deepest); len(l) != n-1 {
				t.Errorf("P1401: Way to the deepest of %d: %q", n, l)
			}
		}
	}
	x := chain(63, false)
	x.Next = 99
	x = x.Set(fileOf(70, 63, "leaf", "leaf"))
	if l := x.Way(70); x.Check() != api.OK || len(l) != 63 || l[62] != "leaf" || l[0] != "d2" {
		t.Errorf("P1401: Way to the deepest file: %q", l)
	}
}

// Kids rise by Name, whatever their paths.
func TestKidsRise(t *testing.T) {
	names := []string{" ", "..a", "A", "B", "a", "a ", "aa", "ab", "b", "\u0080", "\u00e9", "\uffff", "\U00010000"}
	for turn := range names {
		x := treeOf(500)
		for k := range names {
			x = x.Set(fileOf(uint64(3*k+4), 1, names[(turn+5*k)%len(names)], ""))
		}
		x = x.Set(goneOf(3, "0", "")).Set(dirOf(400, 1, "d")).Set(fileOf(2, 400, "ac", ""))
		var l []string
		for _, n := range x.Kids(1) {
			l = append(l, n.Name)
		}
		want := slices.Insert(slices.Clone(names), 9, "d")
		if !slices.Equal(l, want) {
			t.Errorf("P1401: Kids: %q, not %q", l, want)
		}
		asked(t, x)
	}
}

// A node is set ahead of all but the root, between each two, behind all, and instead of each.
func TestSetAtEachPlace(t *testing.T) {
	for n := 1; n < 12; n++ {
		x := wide(n, "x")
		for path := range uint64(3*n + 10) {
			set := fileOf(path+1, 1, "new", "new")
			put(t, x, set)
			y := x.Set(set)
			if m, ok := y.Get(path + 1); m != set || !ok {
				t.Errorf("P1401: set and got: %#v, %v", m, ok)
			}
			if told(x, path+1) == nil && !y.Drop(path+1).Same(x) {
				t.Errorf("P1401: set and dropped again: %#v", y.Drop(path+1))
			}
			if m := told(x, path+1); m != nil && (!y.Set(*m).Same(x) || !x.Drop(path+1).Set(*m).Same(x)) {
				t.Errorf("P1401: %#v set again: %#v", m, y.Set(*m))
			}
		}
		put(t, x, fileOf(math.MaxUint64, 1, "last", ""))
		put(t, x, fileOf(0, 1, "first", ""))
	}
}

// A tree grows and shrinks by Set and Drop as the plain way has it, and each state of it can be asked and written.
func TestALongDay(t *testing.T) {
	d := dice(14)
	x, want := node.New("ann", 1), node.New("ann", 1)
	counts := map[string]int{}
	for step := range 12000 {
		n, what := d.change(want)
		counts[what]++
		switch what {
		case "nothing":
			continue
		case "drop":
			x, want = x.Drop(n.Path), without(want, n.Path)
		default:
			if n.Path >= want.Next {
				x.Next, want.Next = n.Path+1, n.Path+1
			}
			x, want = x.Set(n), with(want, n)
		}
		if !slices.Equal(x.N, want.N) || x.Next != want.Next || x.Check() != api.OK {
			t.Fatalf("P1401: behind step %d, %s of %#v: %v, %#v", step, what, n, x.Check(), x)
		}
		got(t, x, n.Path)
		if step%100 == 0 {
			asked(t, x)
		}
	}
	for _, what := range []string{"file", "dir", "gone", "drop", "rename", "data"} {
		if counts[what] < 200 {
			t.Errorf("thrown %v", counts)
		}
	}
}

// change: a change of x that leaves it a tree, and what it is.
func (d *dice) change(x node.Tree) (node.Node, string) {
	n := x.N[d.below(len(x.N))]
	name := []string{"a", "b", "c", "d", "aa", "\u00e9", "x y"}[d.below(7)]
	switch d.below(7) {
	case 0, 1:
		if len(x.N) == 64 || n.Gone || n.Mode>>31 == 0 || isCalled(x, n.Path, name) {
			return n, "nothing"
		}
		path := x.Next + uint64(d.below(3))
		if d.below(2) == 0 {
			return dirOf(path, n.Path, name), "dir"
		}
		return fileOf(path, n.Path, name, long(d.below(200))), "file"
	case 2:
		if n.Gone || n.Path == 1 || len(kidsOf(x, n.Path)) > 0 {
			return n, "nothing"
		}
		n.Gone, n.Up = true, 0
		return n, "gone"
	case 3, 4:
		if !n.Gone {
			return n, "nothing"
		}
		return n, "drop"
	case 5:
		if n.Path == 1 || isCalled(x, n.Up, name) {
			return n, "nothing"
		}
		n.Name = name
		return n, "rename"
	}
	if n.Mode>>31 != 0 {
		return n, "nothing"
	}
	n.Data, n.Vers, n.Muid = long(d.below(250)), n.Vers+1, name
	return n, "data"
}

// isCalled: whether a kid of dir is called so.
func isCalled(x node.Tree, dir uint64, name string) bool {
	return slices.ContainsFunc(kidsOf(x, dir), func(n node.Node) bool { return n.Name == name })
}

// Get, Bytes, Set, Drop and Same need no tree that Check takes.
func TestOfAnyNodes(t *testing.T) {
	x := node.Tree{Next: 3, N: nodes{fileOf(9, 4, "a", "123"), goneOf(4, "", "4"), fileOf(7, 7, "..", ""), dirOf(2, 9, "a"), fileOf(math.MaxUint64, 0, long(70), long(5000)), fileOf(0, 1, "/", "x")}}
	for _, n := range x.N {
		if m, ok := x.Get(n.Path); m != n || !ok {
			t.Errorf("P1401: Get(%d) of nodes that do not rise: %#v, %v", n.Path, m, ok)
		}
		y := x.Drop(n.Path)
		if told(y, n.Path) != nil || len(y.N) != 5 || y.Next != 3 {
			t.Errorf("P1401: Drop(%d) of nodes that do not rise: %#v", n.Path, y)
		}
		for _, m := range y.N {
			if *told(x, m.Path) != m {
				t.Errorf("P1401: Drop(%d) turned a node into %#v", n.Path, m)
			}
		}
		n.Name, n.Data = "other", "data"
		y = x.Set(n)
		if m, ok := y.Get(n.Path); m != n || !ok || len(y.N) != 6 || y.Next != 3 {
			t.Errorf("P1401: Set(%d) of nodes that do not rise: %#v", n.Path, y)
		}
	}
	for _, path := range []uint64{1, 3, 8, 10, math.MaxUint64 - 1} {
		if n, ok := x.Get(path); n != (node.Node{}) || ok || !x.Drop(path).Same(x) {
			t.Errorf("P1401: Get(%d), Drop(%d) of nodes that do not rise: %#v, %v, %#v", path, path, n, ok, x.Drop(path))
		}
	}
	if x.Bytes() != 3+1+5000+1 {
		t.Errorf("P1401: Bytes() of nodes that do not rise: %d", x.Bytes())
	}
}

// Trees that part in one field of one node alone, in Next, or in the number of nodes.
func TestSame(t *testing.T) {
	changes := []func(n *node.Node){
		func(n *node.Node) { n.Path++ }, func(n *node.Node) { n.Vers++ }, func(n *node.Node) { n.Mode ^= 1 }, func(n *node.Node) { n.Atime++ }, func(n *node.Node) { n.Mtime++ }, func(n *node.Node) { n.Name += "a" }, func(n *node.Node) { n.Uid += "a" }, func(n *node.Node) { n.Gid += "a" }, func(n *node.Node) { n.Muid += "a" }, func(n *node.Node) { n.Up++ }, func(n *node.Node) { n.Gone = !n.Gone }, func(n *node.Node) { n.Data += "a" },
		func(n *node.Node) { n.Path ^= 1 << 63 }, func(n *node.Node) { n.Vers ^= 1 << 31 }, func(n *node.Node) { n.Mode ^= 1 << 31 }, func(n *node.Node) { n.Atime ^= 1 << 31 }, func(n *node.Node) { n.Mtime ^= 1 << 31 }, func(n *node.Node) { n.Up ^= 1 << 63 }, func(n *node.Node) { n.Name = "" }, func(n *node.Node) { n.Muid = "" },
	}
	trees := append(goodTrees(), node.Tree{}, node.Tree{Next: 1, N: nodes{{}, {}, {}}}, node.Tree{N: nodes{fileOf(5, 1, "", ""), fileOf(3, 1, "a", "b")}})
	for i, x := range trees {
		for j, y := range trees {
			if x.Same(y) != (i == j) {
				t.Errorf("P1401: trees %d and %d: %v", i, j, x.Same(y))
			}
		}
		y := node.Tree{Next: x.Next, N: slices.Clone(x.N)}
		if !x.Same(y) || !y.Same(x) {
			t.Errorf("P1401: a tree and its copy are not the same: %#v", x)
		}
		y.Next ^= 1 << 40
		if x.Same(y) || y.Same(x) {
			t.Errorf("P1401: another Next is the same")
		}
		y.Next = x.Next
		for k := range x.N {
			for c, change := range changes {
				change(&y.N[k])
				if y.N[k] != x.N[k] && (x.Same(y) || y.Same(x)) {
					t.Errorf("P1401: node %d changed by %d is the same", k, c)
				}
				y.N[k] = x.N[k]
			}
			less := node.Tree{Next: x.Next, N: slices.Delete(slices.Clone(x.N), k, k+1)}
			more := node.Tree{Next: x.Next, N: slices.Insert(slices.Clone(x.N), k, x.N[k])}
			if x.Same(less) || less.Same(x) || x.Same(more) || more.Same(x) {
				t.Errorf("P1401: a node less or more at %d is the same", k)
			}
		}
	}
}

func TestQidAndStat(t *testing.T) {
	for _, c := range []struct {
		n node.Node
		q qid.Qid
		s stat.Stat
	}{
		{node.Node{}, qid.Qid{}, stat.Stat{}},
		{fileOf(9, 1, "a", "12345"), qid.Qid{Type: 0, Vers: 27, Path: 9}, stat.Stat{Mode: 0o644, Atime: 7, Mtime: 8, Length: 5, Name: "a", Uid: "ann", Gid: "staff", Muid: "bob"}},
		{goneOf(3, "a", "\x00"), qid.Qid{Type: 0, Vers: 9, Path: 3}, stat.Stat{Mode: 0o644, Atime: 7, Mtime: 8, Length: 1, Name: "a", Uid: "ann", Gid: "staff", Muid: "bob"}},
		{dirOf(5, 1, "d"), qid.Qid{Type: 0x80, Vers: 5, Path: 5}, stat.Stat{Mode: 0x80000000 | 0o755, Atime: 105, Mtime: 205, Name: "d", Uid: "ann", Gid: "staff", Muid: "bob"}},
		{node.Node{Path: math.MaxUint64, Vers: math.MaxUint32, Mode: 0x40000000, Data: "\u20ac"}, qid.Qid{Type: 0x40, Vers: math.MaxUint32, Path: math.MaxUint64}, stat.Stat{Mode: 0x40000000, Length: 3}},
		{node.Node{Path: 1 << 33, Mode: 0x20000001, Atime: math.MaxUint32, Uid: "u"}, qid.Qid{Type: 0x20, Path: 1 << 33}, stat.Stat{Mode: 0x20000001, Atime: math.MaxUint32, Uid: "u"}},
		{node.Node{Mode: 0x60000000, Mtime: 1 << 31, Gid: "g", Data: long(4096)}, qid.Qid{Type: 0x60}, stat.Stat{Mode: 0x60000000, Mtime: 1 << 31, Gid: "g", Length: 4096}},
		{node.Node{Mode: 0x80000000, Data: "none of a directory", Muid: "m"}, qid.Qid{Type: 0x80}, stat.Stat{Mode: 0x80000000, Muid: "m"}},
		{node.Node{Mode: math.MaxUint32, Data: "x", Name: ".."}, qid.Qid{Type: 0xE0}, stat.Stat{Mode: math.MaxUint32, Name: ".."}},
	} {
		c.s.Qid = c.q
		if q := node.Qid(c.n); q != c.q {
			t.Errorf("P1401: Qid(%#v): %#v, not %#v", c.n, q, c.q)
		}
		if s := node.Stat(c.n); s != c.s {
			t.Errorf("P1401: Stat(%#v): %#v, not %#v", c.n, s, c.s)
		}
	}
	for bit := range 32 {
		n := node.Node{Mode: 1 << bit, Data: "12"}
		length := uint64(2)
		if bit == 31 {
			length = 0
		}
		q := qid.Qid{Type: qid.Type(n.Mode)}
		if s := node.Stat(n); s != (stat.Stat{Qid: q, Mode: 1 << bit, Length: length}) || node.Qid(n) != q {
			t.Errorf("P1401: Stat of bit %d of a mode: %#v", bit, s)
		}
	}
	if s := node.Stat(rootOf()); s.Name != "/" || s.Qid != (qid.Qid{Type: 0x80, Path: 1}) || s.Length != 0 {
		t.Errorf("P1401: Stat of the root: %#v", s)
	}
}

// dice: the same numbers at each run.
type dice uint64

func (d *dice) below(n int) int {
	*d = *d*6364136223846793005 + 1442695040888963407
	return int(uint64(*d)>>33) % n
}
