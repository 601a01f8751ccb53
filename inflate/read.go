package inflate

import (
	"drogher/api"
	"drogher/bits"
	"drogher/huff"
)

// missing is thrown where bits are missing: what was begun is read anew, when there are more.
type missing struct{}

// broken is thrown where the text isn't right.
type broken struct{ why api.Errno }

// refuse throws an error, if it is so.
func refuse(is bool, why api.Errno) {
	if is {
		panic(broken{why})
	}
}

// pass reads what is there by now; the tables are those of the block that is read.
type pass struct {
	*bits.Reader
	symbols *huff.Table
	dists   *huff.Table
}

// number takes a number.
func (p *pass) number(n int) int {
	v, e := p.Get(n)
	if e != api.OK {
		panic(missing{})
	}
	return int(v)
}

// symbol takes a symbol.
func (p *pass) symbol(t *huff.Table) int {
	s, e := t.Next(p.Reader)
	if e == api.ErrShort {
		panic(missing{})
	}
	refuse(e != api.OK, api.ErrDeflate)
	return s
}

// read reads thing by thing, until something is missing; it leaves the reader at the begin of what is missing.
func (x *Inflater) read(r *bits.Reader) (e api.Errno) {
	begin := r.At()
	defer func() {
		switch t := recover().(type) {
		case nil:
		case missing:
			r.Seek(begin)
		case broken:
			e = t.why
		default:
			panic(t)
		}
	}()
	p := &pass{Reader: r}
	for x.phase != atEnd {
		begin = r.At()
		switch x.phase {
		case atBlock:
			x.open(p)
		case inStored:
			x.copy(p)
		default:
			x.step(p)
		}
	}
	r.Align()
	refuse(r.Left() > 0, api.ErrForm)
	return api.OK
}

// full throws that so many bytes are too many, if they are.
func (x *Inflater) full(n int) { refuse(n > x.most-len(x.out), api.ErrCap) }

// open reads what a block begins with.
func (x *Inflater) open(p *pass) {
	last := p.number(1) == 1
	var symbols, dists []uint8
	next, left := inCodes, 0
	switch p.number(2) {
	case 0:
		p.Align()
		left = p.number(16)
		refuse(p.number(16) != left^0xffff, api.ErrDeflate)
		x.full(left)
		next = inStored
	case 1:
		symbols, dists = fixed()
	case 2:
		symbols, dists = p.dynamic()
	default:
		refuse(true, api.ErrDeflate)
	}
	// Nothing is thrown any more: all of it is there.
	x.last, x.left, x.phase = last, left, next
	x.symbols, x.dists = symbols, dists
	p.symbols, p.dists = nil, nil
}

// copy reads what is there of a stored block's bytes.
func (x *Inflater) copy(p *pass) {
	n := min(x.left, p.Left()/8)
	if n == 0 && x.left > 0 {
		panic(missing{})
	}
	b, _ := p.Raw(n)
	x.tell(b...)
	x.left -= n
	if x.left == 0 {
		x.closeBlock()
	}
}

// step reads a symbol, and what belongs to it.
func (x *Inflater) step(p *pass) {
	if p.symbols == nil {
		p.symbols, _ = huff.New(x.symbols)
		p.dists, _ = huff.New(x.dists)
	}
	s := p.symbol(p.symbols)
	switch {
	case s < 256:
		x.full(1)
		x.tell(byte(s))
	case s == 256:
		x.closeBlock()
	default:
		x.match(p, s-257)
	}
}

// match reads a match, behind the symbol of its length.
func (x *Inflater) match(p *pass, s int) {
	refuse(s > 28, api.ErrDeflate)
	least, more := length(s)
	n := least + p.number(more)
	s = p.symbol(p.dists)
	refuse(s > 29, api.ErrDeflate)
	least, more = distance(s)
	dist := least + p.number(more)
	refuse(dist > len(x.out), api.ErrDeflate)
	x.full(n)
	x.repeat(n, dist)
}

// length is the least length of a symbol, from 0 on, and how many bits belong to it.
func length(s int) (int, int) {
	if s < 8 {
		return 3 + s, 0
	}
	if s == 28 {
		return 258, 0
	}
	more := s/4 - 1
	return 3 + (4+s%4)<<more, more
}

// distance is the least distance of a symbol, and how many bits belong to it.
func distance(s int) (int, int) {
	if s < 2 {
		return 1 + s, 0
	}
	more := s/2 - 1
	return 1 + (2+s%2)<<more, more
}
