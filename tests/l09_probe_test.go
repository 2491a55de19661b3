package tests

import (
	"math"
	"slices"
	"testing"

	"loop.example/g01277/impl"
)

// Each of the plain ones takes the chapter's words one by one, without a table.

func plainProbe(p impl.Probe) bool {
	return fromTo(p.Cell, 0, 7) && fromTo(p.Phase, 0, 4) && fromTo(p.Ver, 0, 1000000) && fromTo(p.Val, 0, 65535)
}

func plainStep(m impl.Mem, rv int, p impl.Probe) impl.Probe {
	if !plainRight(m) || !plainProbe(p) {
		return p
	}
	w := m.Cells[p.Cell]
	if p.Phase == 0 && (w.Owner != 0 || w.Ver > rv) {
		return impl.Probe{Cell: p.Cell, Phase: 4, Ver: p.Ver, Val: p.Val}
	}
	if p.Phase == 0 {
		return impl.Probe{Cell: p.Cell, Phase: 1, Ver: w.Ver, Val: p.Val}
	}
	if p.Phase == 1 {
		return impl.Probe{Cell: p.Cell, Phase: 2, Ver: p.Ver, Val: w.Val}
	}
	if p.Phase == 2 && w.Owner == 0 && w.Ver == p.Ver {
		return impl.Probe{Cell: p.Cell, Phase: 3, Ver: p.Ver, Val: p.Val}
	}
	if p.Phase == 2 {
		return impl.Probe{Cell: p.Cell, Phase: 4, Ver: p.Ver, Val: p.Val}
	}
	return p
}

// probeStep asks twice of one memory, and looks whether it, or the room behind its cells, was written into.
func probeStep(t *testing.T, m impl.Mem, rv int, p impl.Probe) impl.Probe {
	t.Helper()
	given, room := marked(m)
	before := slices.Clone(room)
	want := plainStep(m, rv, p)
	for time := range 2 {
		if got := impl.ProbeStep(given, rv, p); got != want {
			t.Errorf("ProbeStep(%v, %d, %v) is %v at time %d, not %v", m, rv, p, got, time, want)
		}
		if !slices.Equal(room, before) || given.Clock != m.Clock {
			t.Fatalf("ProbeStep(%v, %d, %v) wrote into the memory that it was given", m, rv, p)
		}
	}
	return impl.ProbeStep(given, rv, p)
}

// stepIs holds a step against one worked out by hand.
func stepIs(t *testing.T, m impl.Mem, rv int, p, want impl.Probe) {
	t.Helper()
	if got := probeStep(t, m, rv, p); got != want {
		t.Errorf("ProbeStep(%v, %d, %v) is %v, not %v", m, rv, p, got, want)
	}
}

func probeOk(t *testing.T, p impl.Probe) bool {
	t.Helper()
	ok := impl.ProbeOk(p)
	if ok != plainProbe(p) || ok != impl.ProbeOk(p) {
		t.Errorf("ProbeOk(%v) is %v", p, ok)
	}
	return ok
}

// rightProbes are of each phase, with the least and the greatest numbers, and with those that the words of someMem have.
func rightProbes() []impl.Probe {
	var l []impl.Probe
	for phase := range 5 {
		for _, cell := range []int{0, 1, 2, 3, 4, 5, 6, 7} {
			for _, ver := range []int{0, 3, 6, 7, 8, impl.MaxClock} {
				for _, val := range []int{0, 13, 65535} {
					l = append(l, impl.Probe{Cell: cell, Phase: phase, Ver: ver, Val: val})
				}
			}
		}
	}
	return l
}

// wrongProbes have one number past a bound, or all of them, and else those of a probe that would step, at each phase.
func wrongProbes() []impl.Probe {
	l := []impl.Probe{
		{Cell: -1, Phase: -1, Ver: -1, Val: -1},
		{Cell: 8, Phase: 5, Ver: impl.MaxClock + 1, Val: 65536},
	}
	for phase := range 5 {
		p := impl.Probe{Cell: 5, Phase: phase, Ver: 6, Val: 13}
		for _, n := range []int{-1, -8, 8, 9, 100, math.MinInt, math.MaxInt} {
			x := p
			x.Cell = n
			l = append(l, x)
		}
		for _, n := range []int{-1, -6, impl.MaxClock + 1, impl.MaxClock + 2, math.MinInt, math.MaxInt} {
			x := p
			x.Ver = n
			l = append(l, x)
		}
		for _, n := range []int{-1, -13, 65536, 65537, math.MinInt, math.MaxInt} {
			x := p
			x.Val = n
			l = append(l, x)
		}
	}
	for _, phase := range []int{-1, -2, 5, 6, 100, math.MinInt, math.MaxInt} {
		l = append(l, impl.Probe{Cell: 5, Phase: phase, Ver: 6, Val: 13}, impl.Probe{Phase: phase})
	}
	return l
}

var probeRvs = []int{math.MinInt, -1, 0, 1, 2, 3, 5, 6, 7, 8, impl.MaxClock - 1, impl.MaxClock, impl.MaxClock + 1, math.MaxInt}

// oneCell is a memory with that clock, of whose cells one has this word; the others are locked, by others each, and newer.
func oneCell(clock int, cell int, w impl.Word) impl.Mem {
	m := impl.Mem{Clock: clock, Cells: make([]impl.Word, impl.Cells)}
	for i := range m.Cells {
		m.Cells[i] = impl.Word{Val: 500 + i, Ver: clock, Owner: 50 + i}
	}
	m.Cells[cell] = w
	return m
}

func TestProbeConstants(t *testing.T) {
	if impl.PbLock != 0 || impl.PbVal != 1 || impl.PbAgain != 2 || impl.PbGot != 3 || impl.PbLost != 4 {
		t.Error("phases are", impl.PbLock, impl.PbVal, impl.PbAgain, impl.PbGot, impl.PbLost)
	}
}

func TestProbeOkTakesWhatIsRight(t *testing.T) {
	for _, p := range append(rightProbes(), impl.Probe{}, impl.Probe{Cell: 7, Phase: 4, Ver: 1000000, Val: 65535}) {
		if !probeOk(t, p) {
			t.Errorf("%v is refused", p)
		}
	}
	for _, p := range wrongProbes() {
		if probeOk(t, p) {
			t.Errorf("%v is taken", p)
		}
	}
}

// Each number at and past its bounds, with the others at each of theirs.
func TestProbeOkAtEachBound(t *testing.T) {
	for _, cell := range []int{math.MinInt, -1, 0, 1, 6, 7, 8, math.MaxInt} {
		for _, phase := range []int{math.MinInt, -1, 0, 1, 2, 3, 4, 5, math.MaxInt} {
			for _, ver := range []int{math.MinInt, -1, 0, 1, 65536, 999999, 1000000, 1000001, math.MaxInt} {
				for _, val := range []int{math.MinInt, -1, 0, 1, 65534, 65535, 65536, 1000000, math.MaxInt} {
					probeOk(t, impl.Probe{Cell: cell, Phase: phase, Ver: ver, Val: val})
				}
			}
		}
	}
}

func TestProbeNewOfEachCell(t *testing.T) {
	for cell := range 8 {
		for range 2 {
			p, ok := impl.ProbeNew(cell)
			if !ok || p != (impl.Probe{Cell: cell}) || p.Phase != impl.PbLock || !probeOk(t, p) {
				t.Errorf("ProbeNew(%d) is %v, %v", cell, p, ok)
			}
		}
	}
}

func TestProbeNewRefuses(t *testing.T) {
	for _, cell := range []int{-1, 8, -2, 9, -8, 16, impl.MaxClock, math.MinInt, math.MaxInt} {
		if p, ok := impl.ProbeNew(cell); ok || p != (impl.Probe{}) {
			t.Errorf("ProbeNew(%d) is %v, %v", cell, p, ok)
		}
	}
}

func TestProbeLock(t *testing.T) {
	for _, c := range []struct {
		word impl.Word
		rv   int
		lost bool
	}{
		{impl.Word{Val: 9, Ver: 5}, 5, false},
		{impl.Word{Val: 9, Ver: 4}, 5, false},
		{impl.Word{Val: 9, Ver: 6}, 5, true},
		{impl.Word{Val: 9, Ver: 0}, 5, false},
		{impl.Word{Val: 9, Ver: 10}, 5, true},
		{impl.Word{Val: 9, Ver: 0}, 0, false},
		{impl.Word{Val: 9, Ver: 1}, 0, true},
		{impl.Word{Val: 9, Ver: 10}, 10, false},
		{impl.Word{Val: 9, Ver: 10}, 9, true},
		{impl.Word{Val: 0, Ver: 5}, 5, false},
		{impl.Word{Val: 65535, Ver: 5}, 5, false},
		{impl.Word{Val: 9, Ver: 5, Owner: 1}, 5, true},
		{impl.Word{Val: 9, Ver: 4, Owner: 1}, 5, true},
		{impl.Word{Val: 9, Ver: 6, Owner: 1}, 5, true},
		{impl.Word{Val: 9, Ver: 4, Owner: impl.MaxOwner}, 5, true},
		{impl.Word{Val: 9, Ver: 0, Owner: 3}, math.MaxInt, true},
		{impl.Word{Val: 9, Ver: 0}, -1, true},
		{impl.Word{Val: 9, Ver: 0}, math.MinInt, true},
		{impl.Word{Val: 9, Ver: 10}, -1, true},
		{impl.Word{Val: 9, Ver: 10}, impl.MaxClock, false},
		{impl.Word{Val: 9, Ver: 10}, impl.MaxClock + 1, false},
		{impl.Word{Val: 9, Ver: 10}, math.MaxInt, false},
	} {
		for cell := range 8 {
			m := oneCell(10, cell, c.word)
			want := impl.Probe{Cell: cell, Phase: impl.PbVal, Ver: c.word.Ver}
			if c.lost {
				want = impl.Probe{Cell: cell, Phase: impl.PbLost}
			}
			stepIs(t, m, c.rv, impl.Probe{Cell: cell}, want)
		}
	}
}

// A Ver at the very end of the clock, and an rv beside it.
func TestProbeLockAtMaxClock(t *testing.T) {
	m := oneCell(impl.MaxClock, 2, impl.Word{Val: 9, Ver: impl.MaxClock})
	stepIs(t, m, impl.MaxClock-1, impl.Probe{Cell: 2}, impl.Probe{Cell: 2, Phase: impl.PbLost})
	stepIs(t, m, impl.MaxClock, impl.Probe{Cell: 2}, impl.Probe{Cell: 2, Phase: impl.PbVal, Ver: impl.MaxClock})
	stepIs(t, m, impl.MaxClock+1, impl.Probe{Cell: 2}, impl.Probe{Cell: 2, Phase: impl.PbVal, Ver: impl.MaxClock})
}

// What a step does not name stays, be it what no probe from ProbeNew would have there.
func TestProbeLockLeavesTheRest(t *testing.T) {
	p := impl.Probe{Cell: 3, Ver: 8, Val: 70}
	stepIs(t, oneCell(10, 3, impl.Word{Val: 9, Ver: 5}), 5, p, impl.Probe{Cell: 3, Phase: impl.PbVal, Ver: 5, Val: 70})
	stepIs(t, oneCell(10, 3, impl.Word{Val: 9, Ver: 6}), 5, p, impl.Probe{Cell: 3, Phase: impl.PbLost, Ver: 8, Val: 70})
	stepIs(t, oneCell(10, 3, impl.Word{Val: 9, Ver: 5, Owner: 1}), 5, p, impl.Probe{Cell: 3, Phase: impl.PbLost, Ver: 8, Val: 70})
}

func TestProbeVal(t *testing.T) {
	for _, w := range []impl.Word{
		{Val: 9, Ver: 5}, {Val: 9, Ver: 4}, {Val: 9, Ver: 6}, {Val: 9, Ver: 0}, {Val: 9, Ver: 10},
		{Val: 9, Ver: 5, Owner: 1}, {Val: 9, Ver: 4, Owner: 7}, {Val: 9, Ver: 6, Owner: impl.MaxOwner}, {Val: 9, Ver: 10, Owner: 2},
		{Val: 0, Ver: 5}, {Val: 65535, Ver: 5}, {Val: 0, Ver: 9, Owner: 4}, {Val: 65535, Ver: 9, Owner: 4},
	} {
		for _, rv := range []int{math.MinInt, -1, 0, 4, 5, 6, 10, impl.MaxClock, impl.MaxClock + 1, math.MaxInt} {
			for cell := range 8 {
				want := impl.Probe{Cell: cell, Phase: impl.PbAgain, Ver: 5, Val: w.Val}
				stepIs(t, oneCell(10, cell, w), rv, impl.Probe{Cell: cell, Phase: impl.PbVal, Ver: 5}, want)
				stepIs(t, oneCell(10, cell, w), rv, impl.Probe{Cell: cell, Phase: impl.PbVal, Ver: 5, Val: 77}, want)
			}
		}
	}
}

func TestProbeAgain(t *testing.T) {
	for _, c := range []struct {
		word impl.Word
		got  bool
	}{
		{impl.Word{Val: 9, Ver: 5}, true},
		{impl.Word{Val: 8, Ver: 5}, true},
		{impl.Word{Val: 0, Ver: 5}, true},
		{impl.Word{Val: 9, Ver: 4}, false},
		{impl.Word{Val: 9, Ver: 6}, false},
		{impl.Word{Val: 9, Ver: 0}, false},
		{impl.Word{Val: 9, Ver: 10}, false},
		{impl.Word{Val: 9, Ver: 5, Owner: 1}, false},
		{impl.Word{Val: 9, Ver: 5, Owner: impl.MaxOwner}, false},
		{impl.Word{Val: 9, Ver: 6, Owner: 5}, false},
		{impl.Word{Val: 9, Ver: 4, Owner: 5}, false},
	} {
		for _, rv := range []int{math.MinInt, -1, 0, 4, 5, 6, 10, impl.MaxClock, impl.MaxClock + 1, math.MaxInt} {
			for cell := range 8 {
				want := impl.Probe{Cell: cell, Phase: impl.PbLost, Ver: 5, Val: 9}
				if c.got {
					want.Phase = impl.PbGot
				}
				stepIs(t, oneCell(10, cell, c.word), rv, impl.Probe{Cell: cell, Phase: impl.PbAgain, Ver: 5, Val: 9}, want)
			}
		}
	}
}

// A probe may have a Ver that the memory's clock has not come to.
func TestProbeAgainOfALaterVer(t *testing.T) {
	for _, ver := range []int{11, 12, impl.MaxClock} {
		p := impl.Probe{Cell: 4, Phase: impl.PbAgain, Ver: ver, Val: 9}
		want := p
		want.Phase = impl.PbLost
		stepIs(t, oneCell(10, 4, impl.Word{Val: 9, Ver: 10}), ver, p, want)
	}
}

func TestProbeThatHasEndedStays(t *testing.T) {
	for _, phase := range []int{impl.PbGot, impl.PbLost} {
		for _, w := range []impl.Word{{Val: 9, Ver: 5}, {Val: 8, Ver: 6}, {Val: 9, Ver: 5, Owner: 1}, {Val: 0, Ver: 0}, {Val: 8, Ver: 10, Owner: impl.MaxOwner}} {
			for _, p := range []impl.Probe{{}, {Ver: 5, Val: 9}, {Ver: 6, Val: 8}, {Ver: 0, Val: 65535}, {Ver: impl.MaxClock, Val: 0}} {
				for _, rv := range probeRvs {
					for cell := range 8 {
						p.Cell, p.Phase = cell, phase
						stepIs(t, oneCell(10, cell, w), rv, p, p)
					}
				}
			}
		}
	}
}

func TestProbeStaysWhereTheMemoryIsNotRight(t *testing.T) {
	for _, m := range wrongMems() {
		for _, p := range append(rightProbes(), wrongProbes()...) {
			stepIs(t, m, 6, p, p)
		}
		for phase := range 5 {
			for _, rv := range probeRvs {
				p := impl.Probe{Cell: 5, Phase: phase, Ver: 6, Val: 13}
				stepIs(t, m, rv, p, p)
			}
		}
	}
}

func TestProbeThatIsNotRightStays(t *testing.T) {
	for _, p := range wrongProbes() {
		for _, m := range allMems() {
			stepIs(t, m, 7, p, p)
		}
		for _, rv := range probeRvs {
			stepIs(t, someMem(), rv, p, p)
		}
	}
}

// must is for what has to be done before a probe goes on.
func must(t *testing.T, m impl.Mem, ok bool) impl.Mem {
	t.Helper()
	if !ok {
		t.Fatal("refused", m)
	}
	return m
}

// written is the memory when who has locked cell i, stored v and let it go under ver.
func written(t *testing.T, m impl.Mem, i, who, v, ver int) impl.Mem {
	t.Helper()
	m, ok := impl.Lock(m, i, who)
	m, ok = impl.Store(must(t, m, ok), i, who, v)
	m, ok = impl.Unlock(must(t, m, ok), i, who, ver)
	return must(t, m, ok)
}

// resting is a memory whose clock is 2, and whose cell 1 has Val 6 and Ver 1; all is free.
func resting(t *testing.T) impl.Mem {
	t.Helper()
	m, ok := impl.MemNew([]int{5, 8, 7, 0, 0, 0, 0, 65535})
	m, n := impl.Tick(must(t, m, ok))
	m, n = impl.Tick(written(t, m, 1, 9, 6, n))
	if n != 2 {
		t.Fatal("the clock is", n)
	}
	return m
}

func TestALockThatCameAndWent(t *testing.T) {
	m := resting(t)
	p, _ := impl.ProbeNew(1)
	p = probeStep(t, m, 1, p)
	early := p
	p = probeStep(t, m, 1, p)
	if p != (impl.Probe{Cell: 1, Phase: impl.PbAgain, Ver: 1, Val: 6}) {
		t.Fatal("the probe is", p)
	}
	got, lost := p, p
	got.Phase, lost.Phase = impl.PbGot, impl.PbLost
	// With a new Ver it is seen, with the old one it is not, be the value another one.
	stepIs(t, written(t, m, 1, 3, 60, 2), 1, p, lost)
	stepIs(t, written(t, m, 1, 3, 60, 2), 2, p, lost)
	stepIs(t, written(t, m, 1, 3, 6, 2), 2, p, lost)
	stepIs(t, written(t, m, 1, 3, 60, 1), 1, p, got)
	stepIs(t, written(t, m, 1, 3, 6, 1), 1, p, got)
	// Of another cell none of it is seen.
	stepIs(t, written(t, m, 2, 3, 60, 2), 1, p, got)
	locked, ok := impl.Lock(m, 1, 3)
	stepIs(t, must(t, locked, ok), 1, p, lost)
	locked, ok = impl.Lock(m, 0, 3)
	stepIs(t, must(t, locked, ok), 1, p, got)

	// The lock came ahead of the value, and went behind it: the value is taken, and lost.
	locked, ok = impl.Lock(m, 1, 3)
	stored, ok := impl.Store(must(t, locked, ok), 1, 3, 60)
	torn := probeStep(t, must(t, stored, ok), 1, early)
	if torn != (impl.Probe{Cell: 1, Phase: impl.PbAgain, Ver: 1, Val: 60}) {
		t.Fatal("the probe is", torn)
	}
	free, ok := impl.Unlock(stored, 1, 3, 2)
	stepIs(t, must(t, free, ok), 1, torn, impl.Probe{Cell: 1, Phase: impl.PbLost, Ver: 1, Val: 60})
	free, ok = impl.Unlock(stored, 1, 3, 1)
	stepIs(t, must(t, free, ok), 1, torn, impl.Probe{Cell: 1, Phase: impl.PbGot, Ver: 1, Val: 60})
}

// Promise 9: of each cell that rests, at each rv from its Ver on; below it the probe is lost at once.
func TestThreeStepsOfACellThatRests(t *testing.T) {
	for _, m := range append(rightMems(), resting(t)) {
		for cell, w := range m.Cells {
			for _, rv := range append([]int{w.Ver - 1, w.Ver, w.Ver + 1, m.Clock}, probeRvs...) {
				p, ok := impl.ProbeNew(cell)
				if !ok {
					t.Fatal("there is no cell", cell)
				}
				var phases []int
				for range 5 {
					p = probeStep(t, m, rv, p)
					phases = append(phases, p.Phase)
				}
				want := []int{impl.PbVal, impl.PbAgain, impl.PbGot, impl.PbGot, impl.PbGot}
				end := impl.Probe{Cell: cell, Phase: impl.PbGot, Ver: w.Ver, Val: w.Val}
				if w.Owner != 0 || w.Ver > rv {
					want = slices.Repeat([]int{impl.PbLost}, 5)
					end = impl.Probe{Cell: cell, Phase: impl.PbLost}
				}
				if !slices.Equal(phases, want) || p != end {
					t.Errorf("cell %d of %v at %d: phases %v, at the end %v", cell, m, rv, phases, p)
				}
			}
		}
	}
}

// Each right probe at each memory and each rv: a step leaves it right, of the same cell, and changes no more than its phase's number.
func TestEachProbeOfEachMemory(t *testing.T) {
	for _, m := range rightMems() {
		for _, p := range rightProbes() {
			for _, rv := range probeRvs {
				got := probeStep(t, m, rv, p)
				if !probeOk(t, got) || got.Cell != p.Cell {
					t.Errorf("ProbeStep(%v, %d, %v) is %v", m, rv, p, got)
				}
				if p.Phase != impl.PbLock && got.Ver != p.Ver || p.Phase != impl.PbVal && got.Val != p.Val {
					t.Errorf("ProbeStep(%v, %d, %v) is %v", m, rv, p, got)
				}
			}
		}
	}
}

// A probe steps while others lock, store and unlock, by a rule. Where each value goes with a Ver of its own, what is got is what the cell had under its Ver.
func TestProbesBesideWriters(t *testing.T) {
	pick := picker(90909)
	ended := map[int]int{}
	for range 4000 {
		m, _ := impl.MemNew(make([]int, impl.Cells))
		had := map[[2]int]int{}
		rv := pick(4)
		p, _ := impl.ProbeNew(pick(2))
		for range 40 {
			i, who := pick(2), 1+pick(2)
			switch pick(9) {
			case 0, 1:
				m, _ = impl.Lock(m, i, who)
			case 2, 3:
				m, _ = impl.Store(m, i, who, 1+pick(65535))
			case 4, 5:
				next, n := impl.Tick(m)
				if let, ok := impl.Unlock(next, i, who, n); ok {
					m = let
					had[[2]int{i, n}] = m.Cells[i].Val
				}
			default:
				p = probeStep(t, m, rv, p)
			}
		}
		ended[p.Phase]++
		if p.Phase == impl.PbGot && (p.Ver > rv || p.Val != had[[2]int{p.Cell, p.Ver}]) {
			t.Fatalf("got %v at %d, of %v", p, rv, had)
		}
	}
	if ended[impl.PbGot] < 100 || ended[impl.PbLost] < 100 {
		t.Error("the probes ended so:", ended)
	}
}

func TestProbeAnswersStayTheSame(t *testing.T) {
	m := someMem()
	for _, p := range append(rightProbes(), wrongProbes()...) {
		ok, first := impl.ProbeOk(p), impl.ProbeStep(m, 6, p)
		made, is := impl.ProbeNew(p.Cell)
		for range 20 {
			again, still := impl.ProbeNew(p.Cell)
			if impl.ProbeOk(p) != ok || impl.ProbeStep(m, 6, p) != first || again != made || is != still {
				t.Fatalf("the answers of %v change", p)
			}
		}
	}
	if !sameMem(m, someMem()) {
		t.Error("the memory was written into:", m)
	}
}
