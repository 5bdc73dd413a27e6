package node

import (
	"bytes"

	"loggia/api"
	"loggia/fault"
	"loggia/num"
)

// A tree's bytes: Next, then its nodes, one behind the other.
const (
	pathBytes  = 8
	versBytes  = 4
	modeBytes  = 4
	timeBytes  = 4
	goneBytes  = 1
	countBytes = 4
)

// Encode tells all of t in bytes.
func Encode(t Tree) []byte {
	var o num.Out
	o.Put(pathBytes, t.Next)
	for _, n := range t.N {
		putNode(&o, n)
	}
	return o.Bytes()
}

// Decode tells the tree that Encode made b of. ErrForm: there is none that Check takes.
func Decode(b []byte) (Tree, api.Errno) {
	var t Tree
	err := fault.Caught(func() { t = read(b) })
	return t, err
}

// read tells the tree that b is of, and panics with ErrForm if it is none's. What ends early, or tells Gone otherwise than Encode does, is found by writing the tree again.
func read(b []byte) Tree {
	i := num.Of(b)
	t := Tree{Next: i.Take(pathBytes)}
	for i.Left() > 0 {
		t.N = append(t.N, takeNode(i))
	}
	fault.Must(t.Check() == api.OK, api.ErrForm)
	fault.Must(bytes.Equal(Encode(t), b), api.ErrForm)
	return t
}

func putNode(o *num.Out, n Node) {
	o.Put(pathBytes, n.Path)
	o.Put(versBytes, uint64(n.Vers))
	o.Put(modeBytes, uint64(n.Mode))
	o.Put(timeBytes, uint64(n.Atime))
	o.Put(timeBytes, uint64(n.Mtime))
	putString(o, n.Name)
	putString(o, n.Uid)
	putString(o, n.Gid)
	putString(o, n.Muid)
	o.Put(pathBytes, n.Up)
	o.Put(goneBytes, bit(n.Gone))
	putString(o, n.Data)
}

func takeNode(i *num.In) Node {
	return Node{
		Path:  i.Take(pathBytes),
		Vers:  uint32(i.Take(versBytes)),
		Mode:  uint32(i.Take(modeBytes)),
		Atime: uint32(i.Take(timeBytes)),
		Mtime: uint32(i.Take(timeBytes)),
		Name:  takeString(i),
		Uid:   takeString(i),
		Gid:   takeString(i),
		Muid:  takeString(i),
		Up:    i.Take(pathBytes),
		Gone:  i.Take(goneBytes) != 0,
		Data:  takeString(i),
	}
}

// putString puts s behind its length. Package text has the same for a message's texts alone; Data may be longer and of any bytes, and Encode refuses no tree.
func putString(o *num.Out, s string) {
	o.Put(countBytes, uint64(len(s)))
	o.Raw([]byte(s))
}

func takeString(i *num.In) string { return string(i.Raw(int(i.Take(countBytes)))) }

func bit(is bool) uint64 {
	if is {
		return 1
	}
	return 0
}
