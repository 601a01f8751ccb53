package script

import (
	"iter"
	"strings"

	"drogher/api"
)

// The most of a script: line feeds, and bytes.
const (
	mostLines = 1000
	mostBytes = 1 << 20
)

// What is thrown where a line lacks something: its line feed, a first word that may stand there, what else belongs to it.
type (
	noEnd  struct{}
	noKind struct{}
	noForm struct{}
)

// mostWords is how many words a line has at most.
const mostWords = 7

// words are a line's words; those that were taken are behind.
type words struct {
	list  [mostWords]string
	many  int
	taken int
}

// split is a line's words.
func split(line string) *words {
	w := &words{}
	for rest, more := line, true; more; w.many++ {
		var s string
		s, rest, more = strings.Cut(rest, " ")
		if w.many < mostWords {
			w.list[w.many] = s
		}
	}
	return w
}

// take takes the next word.
func (w *words) take() string {
	if w.taken >= min(w.many, mostWords) {
		panic(noForm{})
	}
	w.taken++
	return w.list[w.taken-1]
}

// number takes a number.
func (w *words) number(most int) int {
	s := w.take()
	if s == "" || len(s) > 1 && s[0] == '0' {
		panic(noForm{})
	}
	x := 0
	for i := range len(s) {
		if s[i] < '0' || s[i] > '9' {
			panic(noForm{})
		}
		if x = 10*x + int(s[i]-'0'); x > most {
			panic(noForm{})
		}
	}
	return x
}

// text takes a text.
func (w *words) text() []byte {
	b, ok := Unhex(w.take())
	if !ok {
		panic(noForm{})
	}
	return b
}

// end is where no word is left.
func (w *words) end() {
	if w.taken < w.many {
		panic(noForm{})
	}
}

// act takes an act, behind its first word.
func (w *words) act(kind uint8) api.Act {
	a := api.Act{Kind: kind}
	for _, f := range []byte(fields(kind)) {
		switch f {
		case 'M':
			a.Mode = uint8(w.number(mostByte))
		case 'V':
			a.Version = uint64(w.number(mostNumber))
		case 'T':
			a.Data = w.text()
		case 'P':
			a.P = w.number(mostNumber)
		case 'N':
			a.N = w.number(mostNumber)
		}
	}
	w.end()
	return a
}

// line is a line, and whether a line feed stands behind it.
type line struct {
	text    string
	isEnded bool
}

// lines goes through a text's lines, with their numbers.
func lines(text string) iter.Seq2[int, line] {
	return func(yield func(int, line) bool) {
		for n := 1; text != ""; n++ {
			s, rest, ok := strings.Cut(text, "\n")
			text = rest
			if !yield(n, line{s, ok}) {
				return
			}
		}
	}
}

// parsed is what the lines told by now.
type parsed struct {
	isBegun     bool
	disk        api.Disk
	seed, image []byte
	version     uint64
	acts        []api.Act
}

// world takes the first line that says something.
func (p *parsed) world(w *words) {
	p.disk = api.Disk{Sector: w.number(mostNumber), Block: w.number(mostNumber), Slot: w.number(mostNumber)}
	p.version = uint64(w.number(mostNumber))
	p.seed = w.text()
	p.image = w.text()
	w.end()
	p.isBegun = true
}

// kindOf is the kind of a first word; it is thrown, if there is none.
func kindOf(first string) uint8 {
	for kind := api.ActBuild; kind <= api.ActStatus; kind++ {
		if word(kind) == first {
			return kind
		}
	}
	panic(noKind{})
}

// line takes a line.
func (p *parsed) line(l line) (e api.Errno) {
	defer func() {
		switch t := recover().(type) {
		case nil:
		case noEnd:
			e = api.ErrLine
		case noKind:
			e = api.ErrKind
		case noForm:
			e = api.ErrForm
		default:
			panic(t)
		}
	}()
	if !l.isEnded {
		panic(noEnd{})
	}
	if l.text == "" || l.text[0] == '#' {
		return api.OK
	}
	w := split(l.text)
	first := w.take()
	if p.isBegun {
		p.acts = append(p.acts, w.act(kindOf(first)))
		return api.OK
	}
	if first != "world" {
		panic(noKind{})
	}
	p.world(w)
	return api.OK
}

// Parse is what a text tells.
func Parse(text string) (api.Disk, []byte, []byte, uint64, []api.Act, int, api.Errno) {
	if len(text) > mostBytes || strings.Count(text, "\n") > mostLines {
		return api.Disk{}, nil, nil, 0, nil, 0, api.ErrLong
	}
	var p parsed
	for n, l := range lines(text) {
		if e := p.line(l); e != api.OK {
			return api.Disk{}, nil, nil, 0, nil, n, e
		}
	}
	if !p.isBegun {
		return api.Disk{}, nil, nil, 0, nil, 0, api.ErrForm
	}
	return p.disk, p.seed, p.image, p.version, p.acts, 0, api.OK
}
