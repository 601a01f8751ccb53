package safe_test

import (
	"bytes"
	"math"
	"math/rand"
	"testing"

	"drogher/api"
	"drogher/delta"
	"drogher/plan"
	"drogher/safe"
)

func cp(from, n int) api.Step { return api.Step{Kind: api.Copy, From: from, Len: n} }

func lit(n int) api.Step {
	return api.Step{Kind: api.Lit, Len: n, Data: bytes.Repeat([]byte{7}, n)}
}

func add(from, n int) api.Step {
	return api.Step{Kind: api.Add, From: from, Len: n, Data: bytes.Repeat([]byte{1}, n)}
}

type steps = []api.Step

// P20.1: which error goes ahead.
func TestCheck(t *testing.T) {
	own := [][]api.Step{{cp(0, 128)}, {cp(128, 128)}}
	cross := [][]api.Step{{cp(128, 128)}, {cp(0, 128)}}
	for i, c := range []struct {
		plans           [][]api.Step
		order           []int
		block, old, new int
		want            api.Errno
	}{
		{own, []int{0, 1}, 128, 256, 256, api.OK}, {own, []int{1, 0}, 128, 256, 256, api.OK}, {nil, nil, 128, 0, 0, api.OK}, {nil, nil, 4096, 1<<31 - 1, 0, api.OK},
		{own, []int{0, 1}, 127, 256, 256, api.ErrArg}, {own, []int{0, 1}, 4097, 256, 256, api.ErrArg}, {own, nil, 128, -1, 256, api.ErrArg}, {own, nil, 128, 256, -1, api.ErrArg},
		{own, nil, 128, 1 << 31, 256, api.ErrArg}, {own, nil, 128, 256, 1 << 31, api.ErrArg}, {nil, nil, math.MinInt, math.MaxInt, math.MinInt, api.ErrArg},
		{own, []int{0, 1}, 128, 256, 257, api.ErrOrder}, {own, []int{0, 1}, 128, 256, 128, api.ErrOrder}, {nil, nil, 128, 0, 1<<31 - 1, api.ErrOrder}, {own, []int{0}, 128, 256, 256, api.ErrOrder},
		{own, []int{0, 0}, 128, 256, 256, api.ErrOrder}, {own, []int{0, 2}, 128, 256, 256, api.ErrOrder}, {own, []int{-1, 0}, 128, 256, 256, api.ErrOrder}, {own, []int{0, 1, 1}, 128, 256, 256, api.ErrOrder},
		{[][]api.Step{{lit(128)}, {lit(128)}}, []int{0, 0}, 128, 256, 256, api.ErrOrder}, {[][]api.Step{{lit(128)}, {lit(128)}}, []int{1, 1}, 128, 256, 256, api.ErrOrder},
		{cross, []int{0, 1}, 128, 256, 256, api.ErrOrder}, {cross, []int{1, 0}, 128, 256, 256, api.ErrOrder},
		{[][]api.Step{{cp(128, 128)}, {lit(128)}}, []int{0, 1}, 128, 256, 256, api.OK}, {[][]api.Step{{cp(128, 128)}, {lit(128)}}, []int{1, 0}, 128, 256, 256, api.ErrOrder},
		{[][]api.Step{{add(128, 128)}, {lit(128)}}, []int{1, 0}, 128, 256, 256, api.ErrOrder},
		// The place of a short last block is as great as a whole one's.
		{[][]api.Step{{cp(200, 56), lit(72)}, {lit(1)}}, []int{1, 0}, 128, 256, 129, api.ErrOrder}, {[][]api.Step{{cp(200, 56), lit(72)}, {lit(1)}}, []int{0, 1}, 128, 256, 129, api.OK},
		{[][]api.Step{{cp(256, 56), lit(72)}, {lit(1)}}, []int{1, 0}, 128, 400, 129, api.OK}, {[][]api.Step{{cp(127, 128)}, {lit(1)}}, []int{1, 0}, 128, 400, 129, api.ErrOrder},
		// Within a plan: form, how many bytes, range, order.
		{[][]api.Step{{cp(999, 1), {}}}, []int{0}, 128, 256, 128, api.ErrForm}, {[][]api.Step{{cp(999, 1)}}, []int{0}, 128, 256, 128, api.ErrPlan}, {[][]api.Step{{lit(1), lit(128)}}, []int{0}, 128, 256, 128, api.ErrPlan},
		{[][]api.Step{nil}, []int{0}, 128, 256, 128, api.ErrPlan}, {[][]api.Step{{cp(129, 128)}}, []int{0}, 128, 256, 128, api.ErrRange}, {[][]api.Step{{cp(128, 128)}}, []int{0}, 128, 256, 128, api.OK},
		{[][]api.Step{{cp(0, 128)}, {cp(0, 1), cp(256, 127)}}, []int{0, 1}, 128, 256, 256, api.ErrRange}, {[][]api.Step{{cp(1<<31-1, 128)}}, []int{0}, 128, 1<<31 - 1, 128, api.ErrRange},
		// Block by block in the order.
		{[][]api.Step{{{}}, {cp(999, 128)}}, []int{1, 0}, 128, 256, 256, api.ErrRange}, {[][]api.Step{{{}}, {cp(999, 128)}}, []int{0, 1}, 128, 256, 256, api.ErrForm},
	} {
		if e := safe.Check(c.plans, c.order, c.block, c.old, c.new); e != c.want {
			t.Error("P20.1: check", i, e, c.want)
		}
	}
}

// P20.1: what plans make in place, safe or not.
func TestFold(t *testing.T) {
	old := append(bytes.Repeat([]byte{1}, 128), bytes.Repeat([]byte{2}, 128)...)
	of := func(l ...int) (b []byte) {
		for i := 0; i < len(l); i += 2 {
			b = append(b, bytes.Repeat([]byte{byte(l[i])}, l[i+1])...)
		}
		return b
	}
	for i, c := range []struct {
		b     []byte
		plans [][]api.Step
		order []int
		new   int
		want  []byte
		e     api.Errno
	}{
		{old, [][]api.Step{{cp(128, 128)}, {cp(0, 128)}}, []int{0, 1}, 256, of(2, 256), api.OK}, {old, [][]api.Step{{cp(128, 128)}, {cp(0, 128)}}, []int{1, 0}, 256, of(1, 256), api.OK},
		{old, [][]api.Step{{cp(128, 100)}}, []int{0}, 100, of(2, 100), api.OK}, {old, nil, nil, 0, nil, api.OK}, {nil, nil, nil, 0, nil, api.OK},
		{old, [][]api.Step{{lit(128)}, {add(0, 128)}, {cp(128, 10)}}, []int{0, 1, 2}, 266, of(7, 128, 8, 138), api.OK},
		{old[:100], [][]api.Step{{lit(128)}, {cp(0, 100), lit(28)}}, []int{0, 1}, 256, of(7, 256), api.OK}, {old[:100], [][]api.Step{{lit(128)}, {cp(0, 101), lit(27)}}, []int{0, 1}, 256, nil, api.ErrRange},
		{old, [][]api.Step{{cp(256, 128)}}, []int{0}, 128, nil, api.ErrRange}, {old, [][]api.Step{{lit(127)}}, []int{0}, 128, nil, api.ErrPlan}, {old, [][]api.Step{{{}}}, []int{0}, 128, nil, api.ErrForm},
		{old, [][]api.Step{{lit(128)}, {lit(128)}}, []int{1, 1}, 256, nil, api.ErrOrder}, {old, [][]api.Step{{lit(128)}, {lit(128)}}, []int{-1, 1}, 256, nil, api.ErrOrder},
		{old, [][]api.Step{{lit(128)}}, nil, 128, nil, api.ErrOrder}, {old, nil, nil, 128, nil, api.ErrOrder}, {old, nil, nil, -1, nil, api.ErrArg}, {old, nil, nil, 1 << 31, nil, api.ErrArg},
	} {
		before := bytes.Clone(c.b)
		got, e := safe.Fold(c.b, c.plans, c.order, 128, c.new)
		if e != c.e || !bytes.Equal(got, c.want) || !bytes.Equal(c.b, before) {
			t.Error("P20.1: fold", i, e, c.e)
		}
	}
	for _, block := range []int{127, 4097, math.MinInt} {
		if b, e := safe.Fold(old, nil, nil, block, 0); e != api.ErrArg || len(b) != 0 {
			t.Error("P20.1: block", block, e)
		}
	}
}

// P20.2: what is checked makes what it makes of the old image.
func TestSafe(t *testing.T) {
	r := rand.New(rand.NewSource(20))
	checked, late := 0, 0
	for range 6000 {
		old := make([]byte, r.Intn(600))
		r.Read(old)
		size := r.Intn(600)
		n := delta.Blocks(size, 128)
		plans := make([]steps, n)
		for i := range plans {
			for want := min(128, size-i*128); want > 0; {
				k := min(want, 40+r.Intn(128))
				want -= k
				from := r.Intn(len(old) + 1)
				if r.Intn(2) == 0 {
					from = min(i*128, from)
				}
				plans[i] = append(plans[i], []api.Step{lit(k), cp(from, k), add(from, k), lit(k)}[r.Intn(4)])
			}
		}
		order := r.Perm(n)
		e := safe.Check(plans, order, 128, len(old), size)
		if e == api.ErrOrder {
			late++
		}
		if e != api.OK {
			continue
		}
		checked++
		var want []byte
		for i, p := range plans {
			b, e := plan.Eval(p, plan.Bytes(old), min(128, size-i*128))
			if e != api.OK {
				t.Fatal("P20.2:", e)
			}
			want = append(want, b...)
		}
		if got, e := safe.Fold(old, plans, order, 128, size); e != api.OK || !bytes.Equal(got, want) {
			t.Fatal("P20.2: not safe", e)
		}
	}
	if checked < 100 || late < 50 {
		t.Error("P20.2: too few tried", checked, late)
	}
}
