package lms

import (
	"drogher/api"
	"drogher/octet"
	"drogher/ots"
)

// wrong is thrown where a signature, or a public key, isn't right.
type wrong struct{ why api.Errno }

// caught is the error that a thrown value tells.
func caught(thrown any) api.Errno {
	switch x := thrown.(type) {
	case nil:
		return api.OK
	case wrong:
		return x.why
	default:
		panic(x)
	}
}

// refuse throws an error, if one of the faults is there.
func refuse(why api.Errno, faults ...bool) {
	for _, is := range faults {
		if is {
			panic(wrong{why})
		}
	}
}

// parts are what a signature is made of.
type parts struct {
	level api.Level
	q     uint32
	one   []byte
	way   []byte
	size  int
}

// number is the number of four bytes at a place; it is thrown, if it isn't there as a whole.
func number(b []byte, at int) uint32 {
	x, e := octet.Get(b, at, 4)
	refuse(api.ErrShort, e != api.OK)
	return uint32(x)
}

// split is the signature that stands at the front, in its parts.
func split(sig []byte) parts {
	refuse(api.ErrShort, len(sig) < 8)
	var p parts
	p.q = number(sig, 0)
	p.level.Ots = number(sig, 4)
	size := ots.Size(p.level.Ots)
	refuse(api.ErrKind, size == 0)
	p.level.Lms = number(sig, 4+size)
	p.size = Size(p.level)
	refuse(api.ErrKind, p.size == 0)
	refuse(api.ErrShort, len(sig) < p.size)
	p.one = sig[4 : 4+size]
	p.way = sig[8+size : p.size]
	return p
}

// Take is how many bytes the signature at the front has.
func Take(sig []byte) (n int, e api.Errno) {
	defer func() { e = caught(recover()) }()
	return split(sig).size, api.OK
}

// Verify tells whether a signature is right.
func Verify(key, text, sig []byte) (e api.Errno) {
	defer func() { e = caught(recover()) }()
	refuse(api.ErrForm, len(key) != publicSize)
	level := api.Level{Lms: number(key, 0), Ots: number(key, 4)}
	refuse(api.ErrKind, Size(level) == 0)
	p := split(sig)
	refuse(api.ErrForm, len(sig) > p.size)
	refuse(api.ErrKind, p.level.Ots != level.Ots, p.level.Lms != level.Lms)
	refuse(api.ErrSpent, p.q >= 1<<High(level.Lms))
	var id api.Ident
	copy(id[:], key[8:])
	refuse(api.ErrSign, p.root(id, text) != digest(key[24:]))
	return api.OK
}

// digest is the sum that stands at the front.
func digest(b []byte) api.Digest {
	var d api.Digest
	copy(d[:], b)
	return d
}

// root is the root's sum that a signature leads to.
func (p parts) root(id api.Ident, text []byte) api.Digest {
	d, e := ots.Candidate(p.level.Ots, id, p.q, p.one, text)
	refuse(e, e != api.OK)
	node := 1<<High(p.level.Lms) + int(p.q)
	d = leaf(id, node, d)
	for way := p.way; node > 1; way = way[32:] {
		beside := digest(way)
		if node%2 == 0 {
			d = inner(id, node/2, d, beside)
		} else {
			d = inner(id, node/2, beside, d)
		}
		node /= 2
	}
	return d
}
