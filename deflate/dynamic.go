package deflate

import (
	"drogher/api"
	"drogher/bits"
	"drogher/limit"
)

// The symbols of lengths that come again: the one ahead, few zeros, many zeros.
const (
	again     = 16
	fewZeros  = 17
	manyZeros = 18
)

// mostAhead is how many bits a code of a length's symbol has at most.
const mostAhead = 7

// turns is the order in which the lengths of lengths stand.
var turns = [19]int{16, 17, 18, 0, 8, 7, 9, 6, 10, 5, 11, 4, 12, 3, 13, 2, 14, 1, 15}

// ahead is what stands ahead of a block's tokens for lengths: a symbol, and a number of so many bits.
type ahead struct {
	symbol, bits int
	number       uint32
}

// folded tells lengths, those that come again in short.
func folded(lens []uint8) []ahead {
	var l []ahead
	for i := 0; i < len(lens); {
		n := 1
		for i+n < len(lens) && lens[i+n] == lens[i] {
			n++
		}
		x := lens[i]
		i += n
		if x > 0 {
			l = append(l, ahead{int(x), 0, 0})
			n--
		}
		l = append(l, run(x, n)...)
	}
	return l
}

// run tells that a length comes again so often; of another one than 0 it stands ahead already.
func run(x uint8, n int) []ahead {
	var l []ahead
	for n > 0 {
		k := 1
		switch {
		case n < 3:
			l = append(l, ahead{int(x), 0, 0})
		case x > 0:
			k = min(n, 6)
			l = append(l, ahead{again, 2, uint32(k - 3)})
		case n < 11:
			k = n
			l = append(l, ahead{fewZeros, 3, uint32(k - 3)})
		default:
			k = min(n, 138)
			l = append(l, ahead{manyZeros, 7, uint32(k - 11)})
		}
		n -= k
	}
	return l
}

// shortest are the lengths for how often symbols come.
func shortest(often []uint32, most int) []uint8 {
	lens, _ := limit.Lengths(often, most)
	return lens
}

// trimmed are lengths without the zeros at their end, but so many at least.
func trimmed(lens []uint8, least int) []uint8 {
	n := len(lens)
	for n > least && lens[n-1] == 0 {
		n--
	}
	return lens[:n]
}

// lensFor are the lengths of symbols, and of distances, for tokens.
func lensFor(l []api.Token) ([]uint8, []uint8) {
	symbols, dists := make([]uint32, 286), make([]uint32, 30)
	symbols[end] = 1
	for _, t := range l {
		if t.Len == 0 {
			symbols[t.Lit]++
			continue
		}
		s, _, _ := Length(t.Len)
		d, _, _ := Distance(t.Dist)
		symbols[s]++
		dists[d]++
	}
	return trimmed(shortest(symbols, api.MaxBits), end+1), trimmed(shortest(dists, api.MaxBits), 1)
}

// Dynamic is tokens in a dynamic block.
func Dynamic(l []api.Token) ([]byte, api.Errno) {
	if !are(l) {
		return nil, api.ErrForm
	}
	symbols, dists := lensFor(l)
	row := folded(append(append([]uint8(nil), symbols...), dists...))
	often := make([]uint32, len(turns))
	for _, a := range row {
		often[a.symbol]++
	}
	lens := shortest(often, mostAhead)
	turned := make([]uint8, len(turns))
	for i, s := range turns {
		turned[i] = lens[s]
	}
	turned = trimmed(turned, 4)

	w := bits.NewWriter()
	begin(w, true, dynamic)
	w.Put(uint32(len(symbols)-257), 5)
	w.Put(uint32(len(dists)-1), 5)
	w.Put(uint32(len(turned)-4), 4)
	for _, n := range turned {
		w.Put(uint32(n), 3)
	}
	of := coderOf(lens)
	for _, a := range row {
		of.put(w, a.symbol)
		w.Put(a.number, a.bits)
	}
	tokens(w, l, coderOf(symbols), coderOf(dists))
	return w.Bytes(), api.OK
}
