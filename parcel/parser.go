package parcel

import (
	"drogher/api"
	"drogher/manifest"
	"drogher/merkle"
)

// mark is what a package begins with.
const mark = "DRGH"

// The least and the most bytes of a manifest's writing.
const (
	leastManifest = 118
	mostManifest  = leastManifest + 2*api.MaxBlocks
)

// stage is what is told with the last byte that is wanted.
type stage uint8

const (
	atMark stage = iota
	atSize
	atManifest
	atSigSize
	atSig
	atBlock
	atPaySize
	atWaySize
	atPay
)

// Parser reads a package. Of a thing that comes it keeps the bytes in held; want is how many are to be there for the next look
// at them. The room of a thing that is left behind waits in spare for the next one.
type Parser struct {
	held   []byte
	want   int
	stage  stage
	ready  bool
	err    api.Errno
	spare  chan []byte
	header []byte
	past   bool
	place  int
	blocks int
	block  int
	order  []uint16
}

// New is a parser that has read nothing.
func New() *Parser {
	return &Parser{want: len(mark), spare: make(chan []byte, 1)}
}

// Feed takes bytes.
func (p *Parser) Feed(b []byte) (int, api.Errno) {
	if p == nil {
		return 0, api.ErrArg
	}
	if p.err == api.OK && p.Done() && len(b) > 0 {
		p.err = api.ErrForm
	}
	if p.err != api.OK || p.Done() {
		return 0, p.err
	}
	taken := 0
	for !p.ready {
		n := min(p.want-len(p.held), len(b)-taken)
		p.take(b[taken : taken+n])
		taken += n
		if len(p.held) < p.want {
			break
		}
		if p.err = p.look(); p.err != api.OK {
			return 0, p.err
		}
	}
	return taken, api.OK
}

// take keeps bytes of the thing that comes.
func (p *Parser) take(b []byte) {
	if p.held == nil {
		select {
		case p.held = <-p.spare:
		default:
		}
	}
	if cap(p.held) < p.want {
		l := make([]byte, len(p.held), p.want)
		copy(l, p.held)
		p.held = l
	}
	p.held = append(p.held, b...)
}

// look looks at what was wanted, and tells what is wanted next.
func (p *Parser) look() api.Errno {
	if p.stage < atBlock {
		return p.lookHeader()
	}
	return p.lookChunk()
}

// next wants more bytes, for the next stage.
func (p *Parser) next(s stage, more int) api.Errno {
	p.stage = s
	p.want = len(p.held) + more
	return api.OK
}

// lookHeader looks at what there is of the header.
func (p *Parser) lookHeader() api.Errno {
	end := len(p.held)
	switch p.stage {
	case atMark:
		if string(p.held) != mark {
			return api.ErrForm
		}
		return p.next(atSize, 4)
	case atSize:
		n := number(p.held, end-4, 4)
		if n < leastManifest || n > mostManifest {
			return api.ErrForm
		}
		return p.next(atManifest, n)
	case atManifest:
		m, e := manifest.Get(p.held[8:])
		if e != api.OK {
			return api.ErrForm
		}
		p.block, p.blocks = m.Block, manifest.Blocks(m)
		p.order = make([]uint16, len(m.Order))
		for k, i := range m.Order {
			p.order[k] = uint16(i)
		}
		return p.next(atSigSize, 4)
	case atSigSize:
		n := number(p.held, end-4, 4)
		if n > api.HeaderCap-end {
			return api.ErrLong
		}
		return p.next(atSig, n)
	}
	p.header, p.held, p.ready = p.held, nil, true
	return api.OK
}

// lookChunk looks at what there is of a chunk.
func (p *Parser) lookChunk() api.Errno {
	switch p.stage {
	case atBlock:
		if number(p.held, 0, 4) != p.coming() {
			return api.ErrOrder
		}
		return p.next(atPaySize, 4)
	case atPaySize:
		if number(p.held, 4, 4) > PayCap(p.block) {
			return api.ErrCap
		}
		return p.next(atWaySize, 1)
	case atWaySize:
		n := number(p.held, 8, 1)
		if n != merkle.Steps(p.place, p.blocks) {
			return api.ErrForm
		}
		return p.next(atPay, sumSize*n+number(p.held, 4, 4))
	}
	p.ready = true
	return api.OK
}

// coming is the number of the block that comes next.
func (p *Parser) coming() int {
	if p.place < len(p.order) {
		return int(p.order[p.place])
	}
	return p.place
}

// Ready tells whether a thing is there.
func (p *Parser) Ready() bool { return p != nil && p.ready }

// Header is the header.
func (p *Parser) Header() (api.Manifest, []byte, []byte) {
	if p == nil || len(p.header) == 0 {
		return api.Manifest{}, nil, nil
	}
	end := 8 + number(p.header, 4, 4)
	m, _ := manifest.Get(p.header[8:end])
	return m, append([]byte(nil), p.header[8:end]...), append([]byte(nil), p.header[end+4:]...)
}

// Chunk is the chunk that is ready.
func (p *Parser) Chunk() api.Chunk {
	if !p.Ready() || !p.past {
		return api.Chunk{}
	}
	return get(p.held)
}

// Next leaves the thing that is ready behind.
func (p *Parser) Next() {
	if !p.Ready() {
		return
	}
	if p.past {
		p.place++
		select {
		case p.spare <- p.held[:0]:
		default:
		}
		p.held = nil
	}
	p.past, p.ready = true, false
	p.next(atBlock, 4)
}

// Skip goes on with a later chunk.
func (p *Parser) Skip(k int) api.Errno {
	if p == nil {
		return api.ErrArg
	}
	if !p.past || len(p.held) > 0 {
		return api.ErrState
	}
	if k < p.place || k > p.blocks {
		return api.ErrArg
	}
	p.place = k
	return api.OK
}

// Done tells whether all chunks are behind.
func (p *Parser) Done() bool { return p != nil && p.past && p.place == p.blocks }

// Held is how many bytes there is room for.
func (p *Parser) Held() int {
	if p == nil {
		return 0
	}
	spare := 0
	select {
	case b := <-p.spare:
		spare = cap(b)
		p.spare <- b
	default:
	}
	return cap(p.held) + cap(p.header) + 2*cap(p.order) + spare
}
