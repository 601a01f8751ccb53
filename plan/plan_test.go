package plan_test

import (
	"bytes"
	"math"
	"math/rand"
	"reflect"
	"testing"

	"drogher/api"
	"drogher/plan"
)

func lit(s string) api.Step { return api.Step{Kind: api.Lit, Len: len(s), Data: []byte(s)} }

func cp(from, n int) api.Step { return api.Step{Kind: api.Copy, From: from, Len: n} }

func add(from int, d ...byte) api.Step {
	return api.Step{Kind: api.Add, From: from, Len: len(d), Data: d}
}

// P16.1: bytes in memory.
func TestBytes(t *testing.T) {
	b := plan.Bytes("hello")
	for _, c := range []struct {
		from, n int
		text    string
		want    api.Errno
	}{
		{0, 5, "hello", api.OK}, {1, 3, "ell", api.OK}, {5, 0, "", api.OK}, {0, 0, "", api.OK},
		{6, 0, "", api.ErrRange}, {-1, 1, "", api.ErrRange}, {0, -1, "", api.ErrRange}, {0, 6, "", api.ErrRange}, {4, 2, "", api.ErrRange},
		{math.MaxInt, math.MaxInt, "", api.ErrRange}, {1, math.MaxInt, "", api.ErrRange}, {math.MinInt, math.MinInt, "", api.ErrRange},
	} {
		if got, e := b.Range(c.from, c.n); string(got) != c.text || e != c.want {
			t.Error("P16.1: range", c, e)
		}
	}
	if got, e := plan.Bytes(nil).Range(0, 0); e != api.OK || len(got) != 0 {
		t.Error("P16.1: range of nothing", e)
	}
	got, _ := b.Range(0, 2)
	clear(got)
	_ = append(got, 'x')
	if string(b) != "hello" {
		t.Error("P0.3: shared")
	}
}

// wrong are steps that aren't right.
func wrong() []api.Step {
	return []api.Step{
		{}, {Kind: 4, Len: 1, Data: []byte{1}}, {Kind: 255, Len: 1}, {Kind: api.Lit}, {Kind: api.Lit, Len: 2, Data: []byte{1}}, {Kind: api.Lit, Len: 1, Data: []byte{1, 2}},
		{Kind: api.Lit, Len: 1, From: 1, Data: []byte{1}}, {Kind: api.Lit, Len: 1, From: -1, Data: []byte{1}}, {Kind: api.Lit, Len: 4097, Data: make([]byte, 4097)},
		cp(0, 0), cp(0, -1), cp(0, 4097), cp(-1, 1), cp(1<<31, 1), {Kind: api.Copy, Len: 1, Data: []byte{1}}, cp(math.MaxInt, math.MaxInt), cp(math.MinInt, math.MinInt),
		add(0), add(-1, 1), add(1<<31, 1), {Kind: api.Add, Len: 2, Data: []byte{1}}, {Kind: api.Add, Len: 1}, {Kind: api.Add, Len: 4097, Data: make([]byte, 4097)},
	}
}

// P16.1: which steps are right, and what is told of those that aren't.
func TestRight(t *testing.T) {
	for i, s := range []api.Step{
		lit("a"), cp(0, 1), cp(1<<31-1, 4096), add(0, 0), add(1<<31-1, 255), {Kind: api.Lit, Len: 4096, Data: make([]byte, 4096)}, {Kind: api.Add, Len: 4096, Data: make([]byte, 4096)},
		{Kind: api.Copy, Len: 1, Data: []byte{}},
	} {
		if !plan.Right(s) {
			t.Error("P16.1: right", i)
		}
	}
	for i, s := range wrong() {
		l := []api.Step{lit("a"), s}
		b, e := plan.Put(l)
		c, f := plan.Eval(l, plan.Bytes("abc"), 2)
		if plan.Right(s) || e != api.ErrForm || f != api.ErrForm || len(b)+len(c) != 0 || plan.Size(l) != 0 {
			t.Error("P16.1: wrong", i, e, f)
		}
	}
}

// steps is a plan by chance.
func steps(r *rand.Rand) []api.Step {
	var l []api.Step
	for range r.Intn(8) {
		n := 1 + r.Intn(300)
		if r.Intn(5) == 0 {
			n = 4096
		}
		d := make([]byte, n)
		r.Read(d)
		from := r.Intn(1 << (1 + r.Intn(31)))
		l = append(l, []api.Step{{Kind: api.Lit, Len: n, Data: d}, cp(from, n), {Kind: api.Add, From: from, Len: n, Data: d}}[r.Intn(3)])
	}
	return l
}

// P16.2: there and back.
func TestThereAndBack(t *testing.T) {
	r := rand.New(rand.NewSource(16))
	for range 300 {
		l := steps(r)
		b, e := plan.Put(l)
		if e != api.OK || plan.Size(l) != len(b) {
			t.Fatal("P16.1: put", e)
		}
		got, e := plan.Get(b, len(b))
		if e != api.OK || len(got) != len(l) || len(l) > 0 && !reflect.DeepEqual(got, l) {
			t.Fatal("P16.2: got", e)
		}
		if _, e := plan.Get(b, len(b)-1); e != api.ErrCap {
			t.Fatal("P16.1: too many", e)
		}
		// What is cut off is short, unless it ends where a step does.
		for n := range b {
			if k, e := plan.Get(b[:n], n); e == api.OK && plan.Size(k) != n || e != api.OK && (e != api.ErrShort || len(k) != 0) {
				t.Fatal("P16.1: cut", n, e)
			}
		}
	}
	for range 20000 {
		b := make([]byte, r.Intn(12))
		r.Read(b)
		for i := range b {
			if r.Intn(2) == 0 {
				b[i] %= 4
			}
		}
		if l, e := plan.Get(b, math.MaxInt); e == api.OK {
			if back, f := plan.Put(l); f != api.OK || !bytes.Equal(back, b) {
				t.Fatal("P16.2: put as it stood", b, back, f)
			}
		} else if len(l) != 0 {
			t.Fatal("P0.2:", l)
		}
	}
}

// P16.1: writings, byte for byte.
func TestWriting(t *testing.T) {
	for i, c := range []struct {
		l    []api.Step
		want []byte
	}{
		{nil, nil}, {[]api.Step{lit("ab")}, []byte{1, 2, 'a', 'b'}}, {[]api.Step{cp(0, 127)}, []byte{2, 127, 0}}, {[]api.Step{cp(128, 128)}, []byte{2, 128, 1, 128, 1}},
		{[]api.Step{add(300, 7), cp(1<<31-1, 4096)}, []byte{3, 1, 172, 2, 7, 2, 128, 32, 255, 255, 255, 255, 7}},
	} {
		if b, e := plan.Put(c.l); e != api.OK || !bytes.Equal(b, c.want) {
			t.Error("P16.1: put", i, b, e)
		}
	}
}

// P16.1: which error goes ahead.
func TestGetErrors(t *testing.T) {
	for i, c := range []struct {
		b    []byte
		most int
		want api.Errno
	}{
		{nil, 0, api.OK}, {nil, -1, api.ErrCap}, {nil, math.MinInt, api.ErrCap}, {[]byte{9}, 0, api.ErrCap}, {[]byte{1, 1, 7}, 2, api.ErrCap},
		{[]byte{0}, 9, api.ErrPlan}, {[]byte{4}, 9, api.ErrPlan}, {[]byte{255}, 9, api.ErrPlan}, {[]byte{1, 1, 7, 0}, 9, api.ErrPlan},
		{[]byte{1}, 9, api.ErrShort}, {[]byte{2, 128}, 9, api.ErrShort}, {[]byte{2, 1}, 9, api.ErrShort}, {[]byte{2, 1, 128, 128, 128, 128}, 9, api.ErrShort},
		{[]byte{2, 129, 0}, 9, api.ErrPlan}, {[]byte{2, 1, 128, 0}, 9, api.ErrPlan}, {[]byte{2, 1, 129, 128, 128, 128, 0}, 9, api.ErrPlan},
		{[]byte{2, 1, 128, 128, 128, 128, 128}, 9, api.ErrPlan}, {[]byte{2, 128, 128, 128, 128, 128}, 9, api.ErrPlan}, {[]byte{2, 255, 255, 255, 255, 255, 1}, 9, api.ErrPlan},
		{[]byte{2, 0}, 9, api.ErrShort}, {[]byte{2, 0, 0}, 9, api.ErrPlan}, {[]byte{1, 0}, 9, api.ErrPlan}, {[]byte{2, 129, 32, 0}, 9, api.ErrPlan}, {[]byte{1, 129, 32, 7}, 9, api.ErrPlan},
		{[]byte{2, 1, 128, 128, 128, 128, 8}, 9, api.ErrPlan}, {[]byte{2, 1, 255, 255, 255, 255, 7}, 9, api.OK}, {[]byte{2, 1, 255, 255, 255, 255, 127}, 9, api.ErrPlan},
		{[]byte{1, 2, 7}, 9, api.ErrShort}, {[]byte{3, 2, 0, 7}, 9, api.ErrShort}, {[]byte{3, 129, 32, 0}, 9, api.ErrPlan}, {[]byte{3, 2, 0, 7, 7}, 5, api.OK},
	} {
		if l, e := plan.Get(c.b, c.most); e != c.want || e != api.OK && len(l) != 0 {
			t.Error("P16.1: get", i, e, c.want)
		}
	}
}

// odd is a source that answers something else.
type odd struct {
	b []byte
	e api.Errno
}

func (o odd) Range(from, n int) ([]byte, api.Errno) { return o.b, o.e }

// P16.1, P16.3: what plans make.
func TestEval(t *testing.T) {
	old := plan.Bytes("hello, world")
	for i, c := range []struct {
		l    []api.Step
		s    plan.Source
		want int
		text string
		e    api.Errno
	}{
		{nil, old, 0, "", api.OK}, {nil, nil, 0, "", api.OK}, {nil, old, 1, "", api.ErrPlan}, {nil, old, -1, "", api.ErrPlan}, {[]api.Step{lit("ab")}, nil, 2, "ab", api.OK},
		{[]api.Step{lit("ab"), cp(7, 5), add(0, 1, 0, 255)}, old, 10, "abworldiek", api.OK}, {[]api.Step{add(0, 200, 200)}, plan.Bytes{100, 55}, 2, string([]byte{44, 255}), api.OK},
		{[]api.Step{lit("ab")}, old, 1, "", api.ErrPlan}, {[]api.Step{lit("ab")}, old, 3, "", api.ErrPlan}, {[]api.Step{cp(99, 1)}, old, 2, "", api.ErrPlan}, {[]api.Step{lit("a")}, old, math.MinInt, "", api.ErrPlan},
		{[]api.Step{cp(8, 5)}, old, 5, "", api.ErrRange}, {[]api.Step{cp(0, 1)}, nil, 1, "", api.ErrRange}, {[]api.Step{lit("a"), add(0, 1)}, nil, 2, "", api.ErrRange},
		{[]api.Step{cp(0, 1)}, odd{[]byte("x"), api.ErrUnread}, 1, "", api.ErrUnread}, {[]api.Step{cp(0, 2)}, odd{[]byte("x"), api.OK}, 2, "", api.ErrRange},
		{[]api.Step{cp(0, 2)}, odd{[]byte("xyz"), api.OK}, 2, "", api.ErrRange}, {[]api.Step{cp(0, 1), cp(0, 2)}, odd{[]byte("x"), api.OK}, 3, "", api.ErrRange},
		{[]api.Step{lit("ab")}, odd{nil, api.ErrDown}, 2, "ab", api.OK}, {[]api.Step{cp(0, 1)}, (*pointer)(nil), 1, "", api.ErrRange},
	} {
		if b, e := plan.Eval(c.l, c.s, c.want); string(b) != c.text || e != c.e {
			t.Error("P16.3:", i, b, e, c.e)
		}
	}
}

// pointer is a source that panics, if it is nil.
type pointer struct{ b []byte }

func (p *pointer) Range(from, n int) ([]byte, api.Errno) { return p.b, api.OK }

// P0.3: what is handed in isn't changed, what is answered is new.
func TestMemory(t *testing.T) {
	b := []byte{1, 2, 'a', 'b', 3, 1, 0, 5}
	l, _ := plan.Get(b, 99)
	clear(b)
	if string(l[0].Data) != "ab" || l[1].Data[0] != 5 {
		t.Error("P0.3: kept")
	}
	source := []byte("xyz")
	made, _ := plan.Eval([]api.Step{add(0, 1, 1)}, odd{source[:2], api.OK}, 2)
	if string(source) != "xyz" || string(made) != "yz" {
		t.Error("P0.3: the source's bytes", string(source), string(made))
	}
	data := []byte("ab")
	made, _ = plan.Eval([]api.Step{{Kind: api.Lit, Len: 2, Data: data}}, nil, 2)
	clear(made)
	if string(data) != "ab" {
		t.Error("P0.3: shared")
	}
}
