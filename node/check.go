package node

import (
	"loggia/api"
	"loggia/fault"
	"loggia/text"
)

const (
	// modes: the bits that a Mode may have.
	modes = api.DMDIR | fileModes | 0o777
	// fileModes: those of them that no directory has.
	fileModes = api.DMAPPEND | api.DMEXCL
)

// called: by this a node that is not Gone is told from all others.
type called struct {
	up   uint64
	name string
}

// Check tells what is wrong with t: its first node; then what is wrong with a node, of the first that has an error; then t as a whole.
func (t Tree) Check() api.Errno {
	return fault.Caught(func() {
		t.mustRoot()
		t.mustNodes()
		fault.Must(len(t.N) <= api.MaxNodes, api.ErrLong)
		fault.Must(t.Bytes() <= api.MaxBytes, api.ErrFull)
		t.mustEndAtRoot()
	})
}

// mustRoot panics with ErrForm if the first node is not the root.
func (t Tree) mustRoot() {
	fault.Must(len(t.N) > 0, api.ErrForm)
	n := t.N[0]
	fault.Must(n.Path == root && n.Up == root && isDir(n) && !n.Gone && n.Name == rootName, api.ErrForm)
}

// mustNodes panics with the error of the first node that has one.
func (t Tree) mustNodes() {
	dirs := t.dirs()
	ahead := map[called]struct{}{}
	for k, n := range t.N {
		fault.Must(k == 0 || t.N[k-1].Path < n.Path, api.ErrArg)
		fault.Must(n.Path < t.Next, api.ErrArg)
		mustNode(n)
		if n.Gone {
			fault.Must(n.Up == 0, api.ErrArg)
			continue
		}
		_, isIn := dirs[n.Up]
		fault.Must(isIn, api.ErrFile)
		name := called{n.Up, n.Name}
		_, isTwice := ahead[name]
		fault.Must(!isTwice, api.ErrTwice)
		ahead[name] = struct{}{}
	}
}

// mustNode panics with what is wrong with n alone.
func mustNode(n Node) {
	fault.Must(n.Mode&^modes == 0, api.ErrArg)
	fault.Must(!isDir(n) || n.Data == "" && n.Mode&fileModes == 0, api.ErrArg)
	fault.Must(n.Path == root || text.Name(n.Name) == api.OK, api.ErrName)
	fault.Must(text.Valid(n.Uid) && text.Valid(n.Gid) && text.Valid(n.Muid), api.ErrName)
	fault.Must(len(n.Data) <= api.MaxFile, api.ErrLong)
}

// dirs tells the paths of the directories that are not Gone.
func (t Tree) dirs() map[uint64]struct{} {
	l := map[uint64]struct{}{}
	for _, n := range t.N {
		if isDir(n) && !n.Gone {
			l[n.Path] = struct{}{}
		}
	}
	return l
}

// mustEndAtRoot panics with ErrForm if there is a directory from which no way up comes to the root. What else is there is in a directory, and so comes to the root if that does.
func (t Tree) mustEndAtRoot() {
	for _, n := range t.N {
		if !n.Gone {
			t.way(n.Path)
		}
	}
}
