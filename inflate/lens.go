package inflate

import (
	"drogher/api"
	"drogher/huff"
)

// turns is the order in which the lengths of lengths stand.
var turns = [19]int{16, 17, 18, 0, 8, 7, 9, 6, 10, 5, 11, 4, 12, 3, 13, 2, 14, 1, 15}

// fixed are the lengths of a fixed block's symbols, and distances.
func fixed() ([]uint8, []uint8) {
	symbols, dists := make([]uint8, 288), make([]uint8, 32)
	for i := range symbols {
		switch {
		case i < 144:
			symbols[i] = 8
		case i < 256:
			symbols[i] = 9
		case i < 280:
			symbols[i] = 7
		default:
			symbols[i] = 8
		}
	}
	for i := range dists {
		dists[i] = 5
	}
	return symbols, dists
}

// dynamic reads the lengths of a dynamic block's symbols, and distances.
func (p *pass) dynamic() ([]uint8, []uint8) {
	many := p.number(5) + 257
	dists := p.number(5) + 1
	ahead := p.number(4) + 4
	refuse(many > 286 || dists > 30, api.ErrDeflate)
	lens := make([]uint8, len(turns))
	for i := range ahead {
		lens[turns[i]] = uint8(p.number(3))
	}
	t, e := huff.New(lens)
	refuse(e != api.OK, api.ErrDeflate)
	row := p.row(t, many+dists)
	// They are kept: in lists that have no more room than they need.
	a, b := make([]uint8, many), make([]uint8, dists)
	copy(a, row)
	copy(b, row[many:])
	refuse(!huff.May(a) || !huff.May(b), api.ErrDeflate)
	return a, b
}

// row reads so many lengths.
func (p *pass) row(t *huff.Table, many int) []uint8 {
	var l []uint8
	for len(l) < many {
		s := p.symbol(t)
		x, n := uint8(0), 1
		switch s {
		case 16:
			refuse(len(l) == 0, api.ErrDeflate)
			x, n = l[len(l)-1], p.number(2)+3
		case 17:
			n = p.number(3) + 3
		case 18:
			n = p.number(7) + 11
		default:
			x = uint8(s)
		}
		refuse(n > many-len(l), api.ErrDeflate)
		for range n {
			l = append(l, x)
		}
	}
	return l
}
