package journal

import (
	"drogher/api"
	"drogher/octet"
	"drogher/sha"
)

// mark is what a record begins with.
const mark = "JRNL"

// Where a record's sum begins, and how many bytes of it there are.
const (
	sumAt   = 91
	sumSize = 8
	size    = sumAt + sumSize
)

// all tells whether all of the numbers may be.
func all(may func(int) bool, numbers ...int) bool {
	for _, x := range numbers {
		if !may(x) {
			return false
		}
	}
	return true
}

// May tells whether a record may be.
func May(r api.Record) bool {
	sizes := all(func(n int) bool { return n >= 0 && n <= api.MaxImage }, r.Length, r.NewLen, r.Done, r.Block, r.AsideSize)
	kinds := all(func(n int) bool { return n <= 3 }, int(r.State), int(r.Mode))
	return sizes && kinds && r.Active <= 1
}

// sum is the first bytes of the sum of a record's bytes.
func sum(b []byte) []byte {
	d := sha.Sum(b)
	return append([]byte(nil), d[:sumSize]...)
}

// Put is a record's writing.
func Put(r api.Record) ([]byte, api.Errno) {
	if !May(r) {
		return nil, api.ErrForm
	}
	b := octet.Put([]byte(mark), 8, r.Seq)
	b = octet.Put(append(b, r.Active), 8, r.Version)
	b = octet.Put(b, 4, uint64(r.Length))
	b = append(b, r.State, r.Mode)
	b = octet.Put(append(b, r.Manifest[:]...), 8, r.NewVersion)
	b = octet.Put(b, 4, uint64(r.NewLen))
	b = octet.Put(b, 4, uint64(r.Done))
	b = octet.Put(b, 8, r.At)
	b = octet.Put(b, 4, uint64(r.Block))
	b = octet.Put(b, 4, uint64(r.AsideSize))
	return append(b, sum(b)...), api.OK
}

// Get is the record that stands in front.
func Get(b []byte) (api.Record, api.Errno) {
	if len(b) < size {
		return api.Record{}, api.ErrShort
	}
	if string(b[:len(mark)]) != mark {
		return api.Record{}, api.ErrForm
	}
	if string(b[sumAt:size]) != string(sum(b[:sumAt])) {
		return api.Record{}, api.ErrHash
	}
	at := len(mark)
	next := func(n int) uint64 {
		x, _ := octet.Get(b, at, n)
		at += n
		return x
	}
	r := api.Record{Seq: next(8), Active: uint8(next(1)), Version: next(8), Length: int(next(4)), State: uint8(next(1)), Mode: uint8(next(1))}
	at += copy(r.Manifest[:], b[at:])
	r.NewVersion = next(8)
	r.NewLen = int(next(4))
	r.Done = int(next(4))
	r.At = next(8)
	r.Block = int(next(4))
	r.AsideSize = int(next(4))
	if !May(r) {
		return api.Record{}, api.ErrForm
	}
	return r, api.OK
}
