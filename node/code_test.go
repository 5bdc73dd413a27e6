package node_test

import (
	"bytes"
	"fmt"
	"math"
	"slices"
	"strings"
	"testing"

	"loggia/api"
	"loggia/node"
)

// kept asks that x, which Check takes, be in its bytes and back.
func kept(t testing.TB, x node.Tree) {
	t.Helper()
	if y, err := node.Decode(node.Encode(x)); !slices.Equal(y.N, x.N) || y.Next != x.Next || err != api.OK {
		t.Errorf("P1401: %#v in bytes and back: %#v, %v", x, y, err)
	}
}

// decoded asks that Decode tell of b either a tree that Check takes or an error and nothing else; it tells which.
func decoded(t testing.TB, what string, b []byte) bool {
	t.Helper()
	x, err := node.Decode(b)
	switch {
	case err != api.OK && !isZero(x):
		t.Errorf("P4: Decode of %s: %#v beside %v", what, x, err)
	case err != api.OK && err != api.ErrForm:
		t.Errorf("P1401: Decode of %s: %v", what, err)
	case err == api.OK && x.Check() != api.OK:
		t.Errorf("P1401: Decode of %s: a tree of which Check tells %v: %#v", what, x.Check(), x)
	case err == api.OK && !bytes.Equal(node.Encode(x), b):
		t.Errorf("P1401: Decode of %s: a tree of other bytes: %#v", what, x)
	}
	return err == api.OK
}

// none asks that b be no tree's.
func none(t testing.TB, what string, b []byte) {
	t.Helper()
	if decoded(t, what, b) {
		t.Errorf("P1401: Decode of %s tells a tree", what)
	}
}

func TestDecodeOfNoBytes(t *testing.T) {
	for _, b := range [][]byte{nil, {}, make([]byte, 0, 9)} {
		none(t, "no bytes", b)
	}
}

// Each tree's bytes are its own: what parts from it in one field alone has others, and comes back too.
func TestBytesOfEachField(t *testing.T) {
	changes := []func(n *node.Node){
		func(n *node.Node) { n.Vers++ }, func(n *node.Node) { n.Mode ^= 1 }, func(n *node.Node) { n.Atime++ }, func(n *node.Node) { n.Mtime++ }, func(n *node.Node) { n.Name += "a" }, func(n *node.Node) { n.Uid += "a" }, func(n *node.Node) { n.Gid += "a" }, func(n *node.Node) { n.Muid += "a" }, func(n *node.Node) { n.Data += "a" }, func(n *node.Node) { n.Up, n.Gone = 0, true }, func(n *node.Node) { n.Up = 3 },
		func(n *node.Node) { n.Vers = math.MaxUint32 }, func(n *node.Node) { n.Mode = 0x60000777 }, func(n *node.Node) { n.Atime = math.MaxUint32 }, func(n *node.Node) { n.Mtime = math.MaxUint32 }, func(n *node.Node) { n.Uid = "" }, func(n *node.Node) { n.Gid = long(64) }, func(n *node.Node) { n.Muid = "\u20ac" }, func(n *node.Node) { n.Data = "" }, func(n *node.Node) { n.Data = "\x00\x01\xff" }, func(n *node.Node) { n.Data = strings.Repeat("\x00", 4096) }, func(n *node.Node) { n.Name = long(28) },
		func(n *node.Node) { n.Uid, n.Gid = n.Gid, n.Uid }, func(n *node.Node) { n.Atime, n.Mtime = n.Mtime, n.Atime }, func(n *node.Node) { n.Uid, n.Gid = n.Uid+n.Gid, "" }, func(n *node.Node) { n.Name, n.Uid = n.Name+n.Uid, "" },
	}
	for bit := range 32 {
		changes = append(changes, func(n *node.Node) { n.Vers ^= 1 << bit }, func(n *node.Node) { n.Atime ^= 1 << bit }, func(n *node.Node) { n.Mtime ^= 1 << bit })
	}
	for bit := range 9 {
		changes = append(changes, func(n *node.Node) { n.Mode ^= 1 << bit })
	}
	x := treeOf(60, fileOf(2, 1, "a", "data"), dirOf(3, 1, "d"), fileOf(4, 3, "a", "more"), fileOf(5, 1, "b", ""))
	b := node.Encode(x)
	for k := 1; k < 5; k++ {
		if k == 2 {
			continue
		}
		for c, change := range changes {
			y := copied(x)
			change(&y.N[k])
			if y.Same(x) || y.Check() != api.OK {
				continue
			}
			kept(t, y)
			if bytes.Equal(node.Encode(y), b) {
				t.Errorf("P1401: node %d changed by %d has the same bytes", k, c)
			}
		}
	}
	for bit := range 58 {
		y := copied(x)
		y.Next = 60 ^ 1<<(bit+6)
		kept(t, y)
		y.N = append(y.N, fileOf(20^1<<(bit+5), 1, "far", ""))
		y.Next = math.MaxUint64
		kept(t, y)
	}
}

// Trees that Check refuses have bytes too, but none that Decode takes.
func TestBytesOfWrongTrees(t *testing.T) {
	for _, b := range breaks {
		for k := 2; k < 6; k++ {
			x := row(6)
			b.do(x, k)
			none(t, "a tree with "+b.what, node.Encode(x))
		}
	}
	full := wide(10, strings.Repeat("d", 2000))
	round := treeOf(9, dirOf(2, 3, "a"), dirOf(3, 2, "b"))
	long := treeOf(9, fileOf(2, 1, strings.Repeat("x", 70000), ""), fileOf(3, 1, "b", strings.Repeat("y", 1<<17+4096)))
	for _, x := range []node.Tree{{}, {Next: 5}, {Next: 5, N: make(nodes, 3)}, wide(65, ""), wide(300, ""), full, round, long, chain(65, true)} {
		none(t, "a tree that is none", node.Encode(x))
	}
	d := dice(5)
	for range 3000 {
		x := treeOf(uint64(8 + d.below(4)))
		for path := range uint64(8) {
			x.N = append(x.N, d.any(path+2))
		}
		if is := decoded(t, "any tree", node.Encode(x)); is != (wrong(x) == api.OK) {
			t.Errorf("P1401: Decode of Encode of %#v: %v", x, is)
		}
	}
}

// Each cut of a tree's bytes, and one byte left out, or put in, at each place.
func TestDecodeOfEachCut(t *testing.T) {
	for _, x := range []node.Tree{node.New("me", 7), mixed(), row(4), treeOf(9, goneOf(3, "g", "data"), dirOf(4, 1, "d"))} {
		b := node.Encode(x)
		lasts := 0
		for n := range b {
			if decoded(t, "a cut", b[:n]) {
				lasts++
			}
			decoded(t, "an end", b[n:])
			decoded(t, "a byte less", slices.Delete(bytes.Clone(b), n, n+1))
			for _, c := range []byte{0, 1, 'a', 255} {
				decoded(t, "a byte more", slices.Insert(bytes.Clone(b), n, c))
			}
		}
		if lasts > len(x.N)-1 {
			t.Errorf("P1401: %d cuts of %d nodes are trees", lasts, len(x.N))
		}
	}
}

// Each byte of a tree's bytes is turned into each other one.
func TestDecodeOfEachByte(t *testing.T) {
	for _, x := range []node.Tree{node.New("me", 7), treeOf(9, dirOf(2, 1, "d"), fileOf(3, 2, "a", "b"), goneOf(4, "a", "")), treeOf(0x0102030405060708, fileOf(0x0102030405060700, 1, "\u00e9", "\x00"))} {
		b := node.Encode(x)
		for k := range b {
			old := b[k]
			for v := range 256 {
				b[k] = byte(v)
				if is := decoded(t, fmt.Sprintf("a byte %d at %d", v, k), b); byte(v) == old && !is {
					t.Fatalf("P1401: Decode does not tell %#v", x)
				}
			}
			b[k] = old
		}
	}
	b := node.Encode(mixed())
	for k := range b {
		for _, turn := range []byte{255, 1, 128} {
			b[k] ^= turn
			decoded(t, "a byte turned", b)
			b[k] ^= turn
		}
	}
}

func TestDecodeOfBytesBehind(t *testing.T) {
	for _, x := range []node.Tree{node.New("", 0), mixed(), chain(64, false)} {
		b := node.Encode(x)
		for n := 1; n < 80; n++ {
			none(t, fmt.Sprint(n, " zeros behind a tree"), append(bytes.Clone(b), make([]byte, n)...))
			none(t, fmt.Sprint(n, " ones behind a tree"), append(bytes.Clone(b), bytes.Repeat([]byte{255}, n)...))
		}
		none(t, "a tree behind a tree", append(bytes.Clone(b), b...))
		for n := range 40 {
			decoded(t, "a tree ahead of which something is", append(bytes.Repeat([]byte{1}, n+1), b...))
		}
	}
}

// Any bytes; and trees of which some bytes are any.
func TestDecodeOfAnyBytes(t *testing.T) {
	for n := range 400 {
		for _, v := range []byte{0, 1, 2, 'a', 127, 128, 255} {
			decoded(t, "one byte again and again", bytes.Repeat([]byte{v}, n))
		}
	}
	d := dice(99)
	trees := goodTrees()
	taken := 0
	for step := range 20000 {
		b := make([]byte, d.below(300))
		for k := range b {
			b[k] = byte(d.below(256))
			if step%2 == 0 && d.below(3) > 0 {
				b[k] = 0
			}
		}
		decoded(t, "any bytes", b)
		b = node.Encode(trees[step%9])
		for range 1 + d.below(3) {
			b[d.below(len(b))] = byte(d.below(256))
		}
		if decoded(t, "some bytes of a tree", b) {
			taken++
		}
	}
	if taken < 1000 {
		t.Errorf("%d taken", taken)
	}
}

// room: l with spare room behind it, and the whole of both.
func room[T any](l []T, filler T) (list, whole []T) {
	whole = slices.Clone(l)
	for range 70 {
		whole = append(whole, filler)
	}
	return whole[:len(l)], whole
}

// spoil changes all of l, its spare room too.
func spoil[T any](l []T, to T) {
	for k := range l[:cap(l)] {
		l[:cap(l)][k] = to
	}
}

// spoilt: a node that no tree has.
func spoilt() node.Node { return node.Node{Path: 12345, Name: "spoilt", Data: "spoilt"} }

// all: what each call that takes a tree answers, in words; all that it answers is spoilt.
func all(x, other node.Tree) string {
	var w strings.Builder
	tree := func(y node.Tree) {
		fmt.Fprintln(&w, y.Next, len(y.N), y.N)
		spoil(y.N, spoilt())
	}
	fmt.Fprintln(&w, x.Check(), x.Bytes(), x.Same(other), other.Same(x), x.Same(x))
	b := node.Encode(x)
	fmt.Fprintln(&w, b)
	spoil(b, 0xA5)
	ask := []uint64{0, 1, 2, 3, 4, 5, 6, 7, 9, 12, 30, 35, 99, 1 << 63, math.MaxUint64}
	for _, n := range x.N[:min(len(x.N), 9)] {
		ask = append(ask, n.Path)
	}
	for _, path := range ask {
		n, ok := x.Get(path)
		fmt.Fprintln(&w, n, ok)
		for _, name := range []string{"", "a", "b", "/", "zoo", "usr"} {
			n, ok := x.Find(path, name)
			fmt.Fprintln(&w, n, ok)
		}
		l := x.Kids(path)
		fmt.Fprintln(&w, len(l), l)
		spoil(l, spoilt())
		s := x.Way(path)
		fmt.Fprintf(&w, "%q\n", s)
		spoil(s, "spoilt")
		tree(x.Set(node.Node{Path: path, Name: "set"}))
		tree(x.Drop(path))
	}
	return w.String()
}

// useAll calls all that can be called of x, and spoils what it answers.
func useAll(x node.Tree) {
	x.Same(x.Set(node.Node{}))
	x.Bytes()
	node.Decode(node.Encode(x))
	for path := range uint64(12) {
		n, _ := x.Get(path)
		node.Qid(n)
		node.Stat(n)
		x.Find(path, "a")
		spoil(x.Kids(path), spoilt())
		spoil(x.Way(path), "spoilt")
		spoil(x.Set(node.Node{Path: path}).N, spoilt())
		spoil(x.Drop(path).N, spoilt())
	}
}

// wrongTrees: trees that Check refuses.
func wrongTrees() []node.Tree {
	l := []node.Tree{
		{}, {Next: 7}, {N: make(nodes, 3)}, {Next: 1, N: nodes{{Path: 2, Up: 2, Mode: aDir}}}, {Next: 9, N: nodes{{Path: 2, Up: 3, Mode: aDir}, {Path: 3, Up: 2, Mode: aDir}}},
		treeOf(9, dirOf(2, 3, "a"), dirOf(3, 2, "b"), fileOf(4, 3, "a", "")), treeOf(9, dirOf(2, 2, "a")), treeOf(0, fileOf(5, 1, "a", "x"), fileOf(4, 5, "a", "x"), fileOf(4, 1, "a", "y"), fileOf(2, 9, "", "")),
		{Next: 4, N: nodes{fileOf(9, 1, "a", ""), fileOf(1, 9, "b", ""), dirOf(4, 4, "zoo"), rootOf()}}, chain(65, false), chain(200, true), wide(100, long(5000)), {N: nodes{{Path: math.MaxUint64, Up: math.MaxUint64, Mode: math.MaxUint32}}},
	}
	for _, b := range breaks {
		x := row(6)
		b.do(x, 3)
		l = append(l, x)
	}
	return l
}

// Trees that are handed in are left as they are, right ones and wrong ones, and no answer shares memory with them or with another answer.
func TestTreesChangeNothing(t *testing.T) {
	other := mixed()
	for k, x := range append(goodTrees(), wrongTrees()...) {
		list, whole := room(x.N, fileOf(70, 1, "behind", "behind"))
		old := slices.Clone(whole)
		handed := node.Tree{Next: x.Next, N: list}
		want := all(copied(x), other)
		for range 2 {
			if got := all(handed, other); got != want {
				t.Fatalf("P2, P3: of tree %d: %s, not %s", k, got, want)
			}
			if !slices.Equal(whole, old) || handed.Next != x.Next {
				t.Fatalf("P2: tree %d: %#v turned into %#v", k, old, whole)
			}
		}
	}
	if !other.Same(mixed()) {
		t.Errorf("P2: %#v turned into %#v", mixed(), other)
	}
}

func TestDecodeChangesNothing(t *testing.T) {
	for k, x := range append(goodTrees(), wrongTrees()...) {
		for _, b := range [][]byte{node.Encode(x), node.Encode(x)[:4], append(node.Encode(x), 0)} {
			list, whole := room(b, 0xEE)
			old := bytes.Clone(whole)
			want, wantError := node.Decode(bytes.Clone(b))
			y, err := node.Decode(list)
			if !bytes.Equal(whole, old) {
				t.Errorf("P2: Decode changed the bytes of tree %d", k)
			}
			spoil(list, 0xA5)
			if !y.Same(want) || err != wantError {
				t.Errorf("P2: Decode of tree %d's bytes, spoilt later: %#v, %v", k, y, err)
			}
			spoil(y.N, spoilt())
			if !bytes.Equal(whole, bytes.Repeat([]byte{0xA5}, len(whole))) {
				t.Errorf("P2: an answer of Decode shares memory with what was handed in")
			}
		}
	}
}

// Answers stay as they are when what was handed in, or another answer, is spoilt later.
func TestAnswersAreKept(t *testing.T) {
	fresh := func() []any {
		list, _ := room(mixed().N, fileOf(70, 1, "behind", "behind"))
		x := node.Tree{Next: 40, N: list}
		b := node.Encode(x)
		y, _ := node.Decode(b)
		l := []any{x.Kids(1), x.Kids(3), x.Way(7), x.Set(fileOf(5, 1, "new", "")), x.Set(fileOf(2, 1, "new", "")), x.Set(fileOf(80, 1, "new", "")), x.Drop(1), x.Drop(2), x.Drop(39), x.Drop(5), y, node.New("me", 3)}
		spoil(list, spoilt())
		spoil(b, 0xA5)
		return l
	}
	want := fmt.Sprint(fresh())
	if strings.Contains(want, "spoilt") {
		t.Errorf("P2: a tree spoilt, answers are %s", want)
	}
	a, b := fresh(), fresh()
	for k := range a {
		switch l := a[k].(type) {
		case nodes:
			spoil(l, spoilt())
		case []string:
			spoil(l, "spoilt")
		case node.Tree:
			spoil(l.N, spoilt())
		}
		for j := k + 1; j < len(a); j++ {
			if fmt.Sprint(a[j]) != fmt.Sprint(b[j]) {
				t.Errorf("P2: answers %d and %d share memory", k, j)
			}
		}
	}
	if got := fmt.Sprint(b); got != want {
		t.Errorf("P2: other answers spoilt: %s, not %s", got, want)
	}
}

func TestTheSameCallsAnswerTheSame(t *testing.T) {
	for k, x := range append(goodTrees(), wrongTrees()...) {
		want := all(copied(x), mixed())
		for range 3 {
			if got := all(copied(x), mixed()); got != want {
				t.Errorf("P3: of tree %d: %s, not %s", k, got, want)
			}
		}
		y, err := node.Decode(node.Encode(x))
		for range 3 {
			if z, again := node.Decode(node.Encode(x)); !z.Same(y) || again != err {
				t.Errorf("P3: Decode of tree %d's bytes: %#v, %v and %#v, %v", k, y, err, z, again)
			}
		}
	}
}

// Much that is wrong ends, and soon.
func TestMuchEnds(t *testing.T) {
	for _, x := range []node.Tree{chain(50000, false), chain(50000, true), wide(50000, "x"), {Next: 1, N: make(nodes, 50000)}} {
		x.Check()
		x.Find(1, "no")
		x.Get(math.MaxUint64)
		x.Kids(1)
		x.Kids(0)
		x.Bytes()
		for _, path := range []uint64{0, 1, 2, 3, 25000, 50000} {
			x.Way(path)
			x.Set(node.Node{Path: path}).Same(x.Drop(path))
		}
		none(t, "many nodes", node.Encode(x))
	}
	none(t, "many zeros", make([]byte, 1<<22))
	none(t, "many ones", bytes.Repeat([]byte{255}, 1<<22))
	none(t, "much data", node.Encode(treeOf(9, fileOf(2, 1, "a", strings.Repeat("d", 1<<22)))))
	for _, s := range []string{strings.Repeat("\x00", 1<<22), strings.Repeat("n", 1<<22)} {
		n := fileOf(2, 1, s, s)
		n.Uid, n.Gid, n.Muid = s, s, s
		refused(t, "long texts", treeOf(9, n), api.ErrName)
		if node.Stat(n).Length != 1<<22 {
			t.Errorf("P1401: Stat of much data: %d", node.Stat(n).Length)
		}
	}
}
