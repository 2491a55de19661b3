package tests

import (
	"math"
	"slices"
	"testing"

	"loop.example/g01277/impl"
)

// opEdges are numbers at and beside all bounds that a field of an op has.
var opEdges = []int{math.MinInt, -65536, -1, 0, 1, 2, 3, 4, 7, 8, 19, 20, 21, 65535, 65536, math.MaxInt}

// opKinds are all kinds, and numbers that are none.
var opKinds = []int{math.MinInt, -1, 0, 1, 2, 3, 4, 5, 6, 7, 8, 9, 10, 11, 12, 13, 14, 15, 16, 17, 18, 32, 257, math.MaxInt}

// edgeOps are all ops of these kinds with edges in each field.
func edgeOps() []impl.Op {
	var l []impl.Op
	for _, kind := range opKinds {
		for _, a := range opEdges {
			for _, b := range opEdges {
				for _, c := range opEdges {
					l = append(l, impl.Op{Kind: kind, A: a, B: b, C: c})
				}
			}
		}
	}
	return l
}

func fromTo(n, low, high int) bool { return n >= low && n <= high }

// plainOp takes the chapter's words one by one.
func plainOp(o impl.Op) bool {
	switch o.Kind {
	case 1: // set
		return fromTo(o.A, 0, 3) && fromTo(o.B, 0, 65535) && o.C == 0
	case 2, 3, 4: // add, sub, less
		return fromTo(o.A, 0, 3) && fromTo(o.B, 0, 3) && fromTo(o.C, 0, 3)
	case 5: // read
		return fromTo(o.A, 0, 3) && fromTo(o.B, 0, 7) && o.C == 0
	case 6: // write
		return fromTo(o.A, 0, 7) && fromTo(o.B, 0, 3) && o.C == 0
	case 7: // skip
		return fromTo(o.A, 0, 3) && fromTo(o.B, 1, 20) && o.C == 0
	case 8, 15, 16: // begin, bump, count
		return fromTo(o.A, 0, 3) && o.B == 0 && o.C == 0
	case 9, 10, 11: // end, abort, fork
		return o.A == 0 && o.B == 0 && o.C == 0
	case 12: // put
		return fromTo(o.A, 0, 7) && fromTo(o.B, 0, 3) && fromTo(o.C, 0, 3)
	case 13: // get
		return fromTo(o.A, 0, 3) && fromTo(o.B, 0, 7) && o.C == 0
	case 14: // drop
		return fromTo(o.A, 0, 7) && fromTo(o.B, 0, 3) && o.C == 0
	}
	return false
}

func plainRegs(regs []int) bool {
	if len(regs) != 4 {
		return false
	}
	for _, v := range regs {
		if !fromTo(v, 0, 65535) {
			return false
		}
	}
	return true
}

// plainModulo counts up and down by 65536, as one would by hand.
func plainModulo(n int) int {
	for n < 0 {
		n += 65536
	}
	for n >= 65536 {
		n -= 65536
	}
	return n
}

// plainCalc takes the chapter's words one by one.
func plainCalc(o impl.Op, regs []int) ([]int, bool) {
	next := slices.Clone(regs)
	if !plainOp(o) || !plainRegs(regs) {
		return next, false
	}
	switch o.Kind {
	case 1:
		next[o.A] = o.B
	case 2:
		next[o.A] = plainModulo(regs[o.B] + regs[o.C])
	case 3:
		next[o.A] = plainModulo(regs[o.B] - regs[o.C])
	case 4:
		next[o.A] = 0
		if regs[o.B] < regs[o.C] {
			next[o.A] = 1
		}
	default:
		return next, false
	}
	return next, true
}

func rightRegs() [][]int {
	return [][]int{
		{0, 0, 0, 0},
		{1, 2, 3, 4},
		{65535, 65535, 65535, 65535},
		{0, 65535, 1, 65534},
		{32768, 32767, 32769, 32768},
		{9, 9, 8, 10},
	}
}

// wrongRegs are registers that are too few, too many, or have one among them that is no value.
func wrongRegs() [][]int {
	l := [][]int{nil, {}, {1}, {1, 2, 3}, {1, 2, 3, 4, 5}, make([]int, 8), {-1, -2, -3, -4, -5}}
	for _, v := range []int{-1, 65536, -65536, math.MinInt, math.MaxInt} {
		for i := range impl.Regs {
			regs := []int{1, 2, 3, 4}
			regs[i] = v
			l = append(l, regs)
		}
	}
	return l
}

// calc asks Calc, and checks that it wrote nothing into what it was given nor behind it, and shares nothing with it.
func calc(t *testing.T, o impl.Op, regs []int) ([]int, bool) {
	t.Helper()
	room := append(slices.Clone(regs), -7, -8, -9)
	before := slices.Clone(room)
	got, ok := impl.Calc(o, room[:len(regs)])
	answer := slices.Clone(got)
	if !slices.Equal(room, before) {
		t.Errorf("Calc(%v, %v) wrote into what it was given", o, regs)
	}
	all := got[:cap(got)]
	for i := range all {
		all[i] = -11
	}
	if !slices.Equal(room, before) {
		t.Errorf("Calc(%v, %v) shares memory with what it was given", o, regs)
	}
	return answer, ok
}

func TestOpConstants(t *testing.T) {
	if impl.Regs != 4 || impl.Keys != 8 {
		t.Error("limits are", impl.Regs, impl.Keys)
	}
	for i, kind := range []int{
		impl.OpSet, impl.OpAdd, impl.OpSub, impl.OpLess, impl.OpRead, impl.OpWrite, impl.OpSkip, impl.OpBegin,
		impl.OpEnd, impl.OpAbort, impl.OpFork, impl.OpPut, impl.OpGet, impl.OpDrop, impl.OpBump, impl.OpCount,
	} {
		if kind != i+1 {
			t.Errorf("kind number %d is %d", i+1, kind)
		}
	}
}

// Each field of each kind, at its bounds and one beyond them, the other fields being right.
func TestOpOkOfEachField(t *testing.T) {
	register := map[int]bool{0: true, 3: true, 4: false, -1: false}
	eight := map[int]bool{0: true, 7: true, 8: false, -1: false}
	value := map[int]bool{0: true, 65535: true, 65536: false, -1: false}
	skip := map[int]bool{0: false, 1: true, 20: true, 21: false, -1: false}
	unnamed := map[int]bool{0: true, 1: false, -1: false, 3: false}
	for _, c := range []struct {
		kinds []int
		a     map[int]bool
		b     map[int]bool
		c     map[int]bool
	}{
		{[]int{impl.OpSet}, register, value, unnamed},
		{[]int{impl.OpAdd, impl.OpSub, impl.OpLess}, register, register, register},
		{[]int{impl.OpRead}, register, eight, unnamed},
		{[]int{impl.OpWrite}, eight, register, unnamed},
		{[]int{impl.OpSkip}, register, skip, unnamed},
		{[]int{impl.OpBegin, impl.OpBump, impl.OpCount}, register, unnamed, unnamed},
		{[]int{impl.OpEnd, impl.OpAbort, impl.OpFork}, unnamed, unnamed, unnamed},
		{[]int{impl.OpPut}, eight, register, register},
		{[]int{impl.OpGet}, register, eight, unnamed},
		{[]int{impl.OpDrop}, eight, register, unnamed},
	} {
		for _, kind := range c.kinds {
			for a, aIs := range c.a {
				for b, bIs := range c.b {
					for cc, cIs := range c.c {
						o := impl.Op{Kind: kind, A: a, B: b, C: cc}
						if want := aIs && bIs && cIs; impl.OpOk(o) != want {
							t.Errorf("OpOk(%v) is %v", o, !want)
						}
					}
				}
			}
		}
	}
}

// So many right ops there are of each kind; OpSet has more than can be gone through so.
func TestOpOkCountsRightOps(t *testing.T) {
	want := map[int]int{
		impl.OpAdd: 64, impl.OpSub: 64, impl.OpLess: 64, impl.OpRead: 32, impl.OpWrite: 32, impl.OpSkip: 80,
		impl.OpBegin: 4, impl.OpEnd: 1, impl.OpAbort: 1, impl.OpFork: 1,
		impl.OpPut: 128, impl.OpGet: 32, impl.OpDrop: 32, impl.OpBump: 4, impl.OpCount: 4,
	}
	for kind := -20; kind < 40; kind++ {
		if kind == impl.OpSet {
			continue
		}
		n := 0
		for a := -2; a < 24; a++ {
			for b := -2; b < 24; b++ {
				for c := -2; c < 24; c++ {
					if impl.OpOk(impl.Op{Kind: kind, A: a, B: b, C: c}) {
						n++
					}
				}
			}
		}
		if n != want[kind] {
			t.Errorf("of kind %d there are %d right ops, not %d", kind, n, want[kind])
		}
	}
}

func TestOpOkOfEachSet(t *testing.T) {
	for b := -3; b < 65540; b++ {
		for a := -1; a < 5; a++ {
			want := a >= 0 && a < 4 && b >= 0 && b < 65536
			if impl.OpOk(impl.Op{Kind: impl.OpSet, A: a, B: b}) != want {
				t.Fatalf("setting register %d to %d is %v", a, b, !want)
			}
		}
	}
}

func TestOpOkAtAllEdges(t *testing.T) {
	for _, o := range edgeOps() {
		if impl.OpOk(o) != plainOp(o) {
			t.Errorf("OpOk(%v) is %v", o, !plainOp(o))
		}
	}
}

func TestCalcReckons(t *testing.T) {
	for _, c := range []struct {
		kind int
		a    int
		b    int
		c    int
		regs []int
		want []int
	}{
		{impl.OpSet, 0, 0, 0, []int{7, 8, 9, 10}, []int{0, 8, 9, 10}},
		{impl.OpSet, 3, 65535, 0, []int{7, 8, 9, 10}, []int{7, 8, 9, 65535}},
		{impl.OpSet, 2, 3, 0, []int{7, 8, 9, 10}, []int{7, 8, 3, 10}},
		{impl.OpAdd, 0, 1, 2, []int{7, 8, 9, 10}, []int{17, 8, 9, 10}},
		{impl.OpAdd, 3, 0, 1, []int{65535, 0, 5, 6}, []int{65535, 0, 5, 65535}},
		{impl.OpAdd, 3, 0, 1, []int{65535, 1, 5, 6}, []int{65535, 1, 5, 0}},
		{impl.OpAdd, 2, 0, 1, []int{65535, 65535, 5, 6}, []int{65535, 65535, 65534, 6}},
		{impl.OpAdd, 1, 1, 1, []int{3, 32768, 5, 6}, []int{3, 0, 5, 6}},
		{impl.OpAdd, 1, 1, 1, []int{3, 32767, 5, 6}, []int{3, 65534, 5, 6}},
		{impl.OpAdd, 0, 0, 3, []int{3, 4, 5, 6}, []int{9, 4, 5, 6}},
		{impl.OpSub, 0, 1, 2, []int{7, 9, 9, 10}, []int{0, 9, 9, 10}},
		{impl.OpSub, 0, 1, 2, []int{7, 8, 9, 10}, []int{65535, 8, 9, 10}},
		{impl.OpSub, 0, 2, 1, []int{7, 8, 9, 10}, []int{1, 8, 9, 10}},
		{impl.OpSub, 1, 0, 3, []int{0, 8, 9, 65535}, []int{0, 1, 9, 65535}},
		{impl.OpSub, 1, 3, 0, []int{0, 8, 9, 65535}, []int{0, 65535, 9, 65535}},
		{impl.OpSub, 2, 2, 2, []int{7, 8, 9, 10}, []int{7, 8, 0, 10}},
		{impl.OpSub, 3, 0, 3, []int{7, 8, 9, 10}, []int{7, 8, 9, 65533}},
		{impl.OpLess, 0, 1, 2, []int{7, 8, 9, 10}, []int{1, 8, 9, 10}},
		{impl.OpLess, 0, 2, 1, []int{7, 8, 9, 10}, []int{0, 8, 9, 10}},
		{impl.OpLess, 0, 1, 2, []int{7, 9, 9, 10}, []int{0, 9, 9, 10}},
		{impl.OpLess, 3, 3, 3, []int{7, 8, 9, 10}, []int{7, 8, 9, 0}},
		{impl.OpLess, 1, 0, 1, []int{0, 65535, 9, 10}, []int{0, 1, 9, 10}},
		{impl.OpLess, 0, 0, 1, []int{65535, 0, 9, 10}, []int{0, 0, 9, 10}},
	} {
		o := impl.Op{Kind: c.kind, A: c.a, B: c.b, C: c.c}
		if got, ok := calc(t, o, c.regs); !ok || !slices.Equal(got, c.want) {
			t.Errorf("Calc(%v, %v) is %v, %v, not %v", o, c.regs, got, ok, c.want)
		}
	}
}

// Each place of A, B and C, alike and apart, with all pairs of numbers at the bounds.
func TestCalcOfEachPlace(t *testing.T) {
	numbers := []int{0, 1, 2, 32767, 32768, 65534, 65535}
	for kind := impl.OpAdd; kind <= impl.OpLess; kind++ {
		for place := range 64 {
			o := impl.Op{Kind: kind, A: place % 4, B: place / 4 % 4, C: place / 16}
			for _, x := range numbers {
				for _, y := range numbers {
					regs := []int{11, 12, 13, 14}
					regs[o.B], regs[o.C] = x, y
					want, _ := plainCalc(o, regs)
					if got, ok := calc(t, o, regs); !ok || !slices.Equal(got, want) {
						t.Fatalf("Calc(%v, %v) is %v, %v, not %v", o, regs, got, ok, want)
					}
				}
			}
		}
	}
}

func TestCalcSetsEachValue(t *testing.T) {
	regs := []int{1, 2, 3, 4}
	for v := range 65536 {
		want := slices.Clone(regs)
		want[v%4] = v
		if got, ok := impl.Calc(impl.Op{Kind: impl.OpSet, A: v % 4, B: v}, regs); !ok || !slices.Equal(got, want) {
			t.Fatalf("setting %d makes %v, %v", v, got, ok)
		}
	}
}

// Sums and differences of each value with those beside the bounds.
func TestCalcOfEachValue(t *testing.T) {
	add := impl.Op{Kind: impl.OpAdd, A: 0, B: 1, C: 2}
	sub := impl.Op{Kind: impl.OpSub, A: 0, B: 1, C: 2}
	for x := range 65536 {
		for _, y := range []int{0, 1, 65535, 65535 - x, (65536 - x) % 65536, x} {
			regs := []int{5, x, y, 6}
			if got, ok := impl.Calc(add, regs); !ok || got[0] != plainModulo(x+y) {
				t.Fatalf("%d and %d make %v, %v", x, y, got, ok)
			}
			if got, ok := impl.Calc(sub, regs); !ok || got[0] != plainModulo(x-y) {
				t.Fatalf("%d less %d makes %v, %v", x, y, got, ok)
			}
		}
	}
}

func TestCalcRefusesOtherKinds(t *testing.T) {
	regs := []int{1, 2, 3, 65535}
	for _, o := range []impl.Op{
		{Kind: impl.OpRead, A: 1, B: 7}, {Kind: impl.OpWrite, A: 7, B: 1}, {Kind: impl.OpSkip, A: 1, B: 20},
		{Kind: impl.OpBegin, A: 1}, {Kind: impl.OpEnd}, {Kind: impl.OpAbort}, {Kind: impl.OpFork},
		{Kind: impl.OpPut, A: 7, B: 1, C: 2}, {Kind: impl.OpGet, A: 1, B: 7}, {Kind: impl.OpDrop, A: 7, B: 1},
		{Kind: impl.OpBump, A: 1}, {Kind: impl.OpCount, A: 1},
	} {
		if !impl.OpOk(o) {
			t.Errorf("%v is refused", o)
		}
		if got, ok := calc(t, o, regs); ok || !slices.Equal(got, regs) {
			t.Errorf("Calc(%v, %v) is %v, %v", o, regs, got, ok)
		}
	}
	for _, kind := range []int{0, -1, 17, 18, math.MinInt, math.MaxInt} {
		if got, ok := calc(t, impl.Op{Kind: kind}, regs); ok || !slices.Equal(got, regs) {
			t.Errorf("Calc of kind %d is %v, %v", kind, got, ok)
		}
	}
}

func TestCalcRefusesWrongOps(t *testing.T) {
	regs := []int{1, 2, 3, 65535}
	for _, o := range edgeOps() {
		if plainOp(o) {
			continue
		}
		if got, ok := calc(t, o, regs); ok || !slices.Equal(got, regs) {
			t.Errorf("Calc(%v, %v) is %v, %v", o, regs, got, ok)
		}
	}
}

func TestCalcRefusesWrongRegisters(t *testing.T) {
	ops := []impl.Op{{}, {Kind: 17}, {Kind: impl.OpRead}, {Kind: impl.OpSet, A: 4}, {Kind: impl.OpAdd, C: -1}}
	for kind := impl.OpSet; kind <= impl.OpLess; kind++ {
		ops = append(ops, impl.Op{Kind: kind}, impl.Op{Kind: kind, A: 3})
	}
	ops = append(ops, impl.Op{Kind: impl.OpSet, A: 1, B: 5}, impl.Op{Kind: impl.OpAdd, A: 3, B: 3, C: 3}, impl.Op{Kind: impl.OpSub, A: 1, B: 2, C: 3})
	for _, regs := range wrongRegs() {
		for _, o := range ops {
			if got, ok := calc(t, o, regs); ok || !slices.Equal(got, regs) {
				t.Errorf("Calc(%v, %v) is %v, %v", o, regs, got, ok)
			}
		}
	}
}

// Promise 4, of right ops and registers: no register but A is another one behind it, and all are values.
func TestCalcChangesOneRegisterAtMost(t *testing.T) {
	for _, o := range edgeOps() {
		if !plainOp(o) {
			continue
		}
		for _, regs := range rightRegs() {
			got, ok := calc(t, o, regs)
			want, may := plainCalc(o, regs)
			if ok != may || !slices.Equal(got, want) {
				t.Errorf("Calc(%v, %v) is %v, %v, not %v, %v", o, regs, got, ok, want, may)
			}
			if !plainRegs(got) {
				t.Errorf("Calc(%v, %v) keeps no values: %v", o, regs, got)
				continue
			}
			for i := range regs {
				if got[i] != regs[i] && (i != o.A || !ok) {
					t.Errorf("Calc(%v, %v) changes register %d: %v", o, regs, i, got)
				}
			}
		}
	}
}

// A long row of ops, picked by a rule, one behind the other, right ones and wrong ones mixed.
func TestCalcKeepsValues(t *testing.T) {
	regs := make([]int, impl.Regs)
	seed := uint32(54321)
	pick := func(below int) int {
		seed = seed*1664525 + 1013904223
		return int(seed>>8) % below
	}
	for step := range 50000 {
		o := impl.Op{Kind: pick(6), A: pick(5), B: pick(5), C: pick(5)}
		if o.Kind == impl.OpSet && pick(2) == 0 {
			o.B, o.C = pick(65540)-2, 0
		}
		want, may := plainCalc(o, regs)
		got, ok := impl.Calc(o, regs)
		if ok != may || !slices.Equal(got, want) || !plainRegs(got) {
			t.Fatalf("step %d: Calc(%v, %v) is %v, %v, not %v, %v", step, o, regs, got, ok, want, may)
		}
		regs = got
	}
}

func TestTouches(t *testing.T) {
	for _, c := range []struct {
		o    impl.Op
		want int
	}{
		{impl.Op{Kind: impl.OpRead, A: 3, B: 7}, 1}, {impl.Op{Kind: impl.OpRead, A: 4, B: 7}, 0},
		{impl.Op{Kind: impl.OpRead, A: 3, B: 8}, 0}, {impl.Op{Kind: impl.OpRead, C: 1}, 0},
		{impl.Op{Kind: impl.OpWrite, A: 7, B: 3}, 1}, {impl.Op{Kind: impl.OpWrite, A: 8, B: 3}, 0},
		{impl.Op{Kind: impl.OpWrite, A: 7, B: 4}, 0}, {impl.Op{Kind: impl.OpWrite, A: -1}, 0},
		{impl.Op{Kind: impl.OpPut, A: 7, B: 3, C: 3}, 2}, {impl.Op{Kind: impl.OpPut, A: 7, B: 3, C: 4}, 0},
		{impl.Op{Kind: impl.OpGet, A: 3, B: 7}, 2}, {impl.Op{Kind: impl.OpGet, A: 3, B: 8}, 0},
		{impl.Op{Kind: impl.OpDrop, A: 7, B: 3}, 2}, {impl.Op{Kind: impl.OpDrop, A: 8, B: 3}, 0},
		{impl.Op{Kind: impl.OpBump, A: 3}, 2}, {impl.Op{Kind: impl.OpBump, A: 4}, 0},
		{impl.Op{Kind: impl.OpCount, A: 3}, 2}, {impl.Op{Kind: impl.OpCount, B: 1}, 0},
		{impl.Op{Kind: impl.OpSet, A: 1, B: 2}, 0}, {impl.Op{Kind: impl.OpAdd, A: 1, B: 2, C: 3}, 0},
		{impl.Op{Kind: impl.OpSub}, 0}, {impl.Op{Kind: impl.OpLess}, 0}, {impl.Op{Kind: impl.OpSkip, B: 1}, 0},
		{impl.Op{Kind: impl.OpBegin, A: 1}, 0}, {impl.Op{Kind: impl.OpEnd}, 0},
		{impl.Op{Kind: impl.OpAbort}, 0}, {impl.Op{Kind: impl.OpFork}, 0},
		{impl.Op{}, 0}, {impl.Op{Kind: 17}, 0}, {impl.Op{Kind: -5}, 0},
	} {
		if got := impl.Touches(c.o); got != c.want {
			t.Errorf("Touches(%v) is %d, not %d", c.o, got, c.want)
		}
	}
}

func TestTouchesAtAllEdges(t *testing.T) {
	for _, o := range edgeOps() {
		want := 0
		if plainOp(o) && (o.Kind == 5 || o.Kind == 6) {
			want = 1
		}
		if plainOp(o) && o.Kind >= 12 {
			want = 2
		}
		if got := impl.Touches(o); got != want {
			t.Errorf("Touches(%v) is %d, not %d", o, got, want)
		}
	}
}
