package plan

import "drogher/api"

// mostNumber is how many bytes a number has at most.
const mostNumber = 5

// missing is thrown where bytes are missing.
type missing struct{}

// broken is thrown where something isn't right.
type broken struct{ why api.Errno }

// refuse throws an error, if it is so.
func refuse(is bool, why api.Errno) {
	if is {
		panic(broken{why})
	}
}

// reader takes bytes of a writing.
type reader struct{ rest []byte }

// take takes so many bytes.
func (r *reader) take(n int) []byte {
	if n > len(r.rest) {
		panic(missing{})
	}
	b := r.rest[:n]
	r.rest = r.rest[n:]
	return b
}

// number takes a number.
func (r *reader) number() int {
	x := 0
	for i := range mostNumber {
		c := int(r.take(1)[0])
		x |= c & 127 << (7 * i)
		if c < 128 {
			refuse(c == 0 && i > 0, api.ErrPlan)
			return x
		}
	}
	panic(broken{api.ErrPlan})
}

// step takes a step.
func (r *reader) step() api.Step {
	s := api.Step{Kind: r.take(1)[0]}
	refuse(s.Kind != api.Lit && s.Kind != api.Copy && s.Kind != api.Add, api.ErrPlan)
	s.Len = r.number()
	if s.Kind != api.Lit {
		s.From = r.number()
	}
	refuse(s.Len < 1 || s.Len > api.MaxBlock || s.From > api.MaxImage, api.ErrPlan)
	if s.Kind != api.Copy {
		s.Data = append([]byte(nil), r.take(s.Len)...)
	}
	return s
}

// Get is the plan that is written.
func Get(b []byte, most int) (l []api.Step, e api.Errno) {
	if len(b) > most {
		return nil, api.ErrCap
	}
	defer func() {
		switch t := recover().(type) {
		case nil:
		case missing:
			l, e = nil, api.ErrShort
		case broken:
			l, e = nil, t.why
		default:
			panic(t)
		}
	}()
	for r := (&reader{b}); len(r.rest) > 0; {
		l = append(l, r.step())
	}
	return l, api.OK
}
