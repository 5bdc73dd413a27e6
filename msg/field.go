package msg

import (
	"bytes"
	"slices"

	"loggia/api"
	"loggia/fault"
	"loggia/num"
	"loggia/qid"
	"loggia/stat"
	"loggia/text"
)

const (
	// What goes ahead of a list, of Data, of a record, and counts it, in bytes.
	listBytes   = 2
	dataBytes   = 4
	recordBytes = 2
)

// put adds the field that is there, a number in as many bytes as its kind has. It panics with the error of what may not be told.
func put(o *num.Out, field any) {
	switch f := field.(type) {
	case *uint8:
		o.Put(1, uint64(*f))
	case *uint16:
		o.Put(2, uint64(*f))
	case *uint32:
		o.Put(4, uint64(*f))
	case *uint64:
		o.Put(8, *f)
	case *string:
		putText(o, *f)
	case *[]string:
		putList(o, *f, putText)
	case *qid.Qid:
		qid.Put(o, *f)
	case *[]qid.Qid:
		putList(o, *f, qid.Put)
	case *[]byte:
		putData(o, *f)
	case *stat.Stat:
		putRecord(o, *f)
	}
}

// take fills the field that is there with what put added of one. It panics with ErrForm at what put adds of none; of numbers that i ends ahead of, i's error tells.
func take(i *num.In, field any) {
	switch f := field.(type) {
	case *uint8:
		*f = uint8(i.Take(1))
	case *uint16:
		*f = uint16(i.Take(2))
	case *uint32:
		*f = uint32(i.Take(4))
	case *uint64:
		*f = i.Take(8)
	case *string:
		*f = takeText(i)
	case *[]string:
		*f = takeList(i, takeText)
	case *qid.Qid:
		*f = qid.Take(i)
	case *[]qid.Qid:
		*f = takeList(i, qid.Take)
	case *[]byte:
		*f = takeData(i)
	case *stat.Stat:
		*f = takeRecord(i)
	}
}

// same tells whether two fields of one kind are the same.
func same(a, b any) bool {
	switch f := a.(type) {
	case *uint8:
		return *f == *b.(*uint8)
	case *uint16:
		return *f == *b.(*uint16)
	case *uint32:
		return *f == *b.(*uint32)
	case *uint64:
		return *f == *b.(*uint64)
	case *string:
		return *f == *b.(*string)
	case *[]string:
		return slices.Equal(*f, *b.(*[]string))
	case *qid.Qid:
		return *f == *b.(*qid.Qid)
	case *[]qid.Qid:
		return slices.Equal(*f, *b.(*[]qid.Qid))
	case *[]byte:
		return bytes.Equal(*f, *b.(*[]byte))
	case *stat.Stat:
		return *f == *b.(*stat.Stat)
	}
	return false
}

func putText(o *num.Out, s string) {
	e := text.Put(o, s)
	fault.Must(e == api.OK, e)
}

func takeText(i *num.In) string {
	s, e := text.Take(i)
	fault.Must(e == api.OK, api.ErrForm)
	return s
}

// putList looks at how many there are ahead of each one: that they are too many is told first.
func putList[T any](o *num.Out, l []T, each func(*num.Out, T)) {
	fault.Must(len(l) <= api.MaxWalk, api.ErrLong)
	o.Put(listBytes, uint64(len(l)))
	for _, x := range l {
		each(o, x)
	}
}

func takeList[T any](i *num.In, each func(*num.In) T) []T {
	n := i.Take(listBytes)
	fault.Must(n <= api.MaxWalk, api.ErrForm)
	var l []T
	for range n {
		l = append(l, each(i))
	}
	return l
}

func putData(o *num.Out, b []byte) {
	fault.Must(len(b) <= api.MaxMsize, api.ErrLong)
	o.Put(dataBytes, uint64(len(b)))
	o.Raw(b)
}

func takeData(i *num.In) []byte {
	n := i.Take(dataBytes)
	fault.Must(n <= api.MaxMsize, api.ErrForm)
	return i.Raw(int(n))
}

func putRecord(o *num.Out, s stat.Stat) {
	b, e := stat.Encode(s)
	fault.Must(e == api.OK, e)
	o.Put(recordBytes, uint64(len(b)))
	o.Raw(b)
}

// takeRecord wants one record that takes all that was counted for it.
func takeRecord(i *num.In) stat.Stat {
	b := i.Raw(int(i.Take(recordBytes)))
	s, n, e := stat.Decode(b)
	fault.Must(e == api.OK && n == len(b), api.ErrForm)
	return s
}
