package tests

import (
	"math"
	"slices"
	"testing"

	"loop.example/g01277/impl"
)

// Each of the plain ones takes the chapter's words one by one, without a table and without the layers below.

func plainRising(cells []int) bool {
	for i, cell := range cells {
		if !fromTo(cell, 0, 7) || i > 0 && cells[i-1] >= cell {
			return false
		}
	}
	return true
}

func plainPhaseSteps(c impl.Commit) int {
	if c.Phase == 1 || c.Phase == 4 || c.Phase == 5 || c.Phase == 7 {
		return len(c.Puts)
	}
	if c.Phase == 3 {
		return len(c.Reads)
	}
	return 1
}

func plainCommit(c impl.Commit) bool {
	var cells []int
	for _, r := range c.Puts {
		cells = append(cells, r.Cell)
	}
	if !fromTo(c.Who, 1, 99) || !fromTo(c.Rv, 0, 1000000) || !fromTo(c.Wv, 0, 1000000) || !fromTo(c.Phase, 1, 8) {
		return false
	}
	return plainRows(c.Puts) && plainRising(cells) && plainRising(c.Reads) && fromTo(c.At, 0, plainPhaseSteps(c)-1)
}

func plainCommitNew(who, rv int, puts, reads []impl.Row) (impl.Commit, bool) {
	if !fromTo(who, 1, 99) || !fromTo(rv, 0, 1000000) || !plainRows(puts) || !plainRows(reads) {
		return impl.Commit{}, false
	}
	phase := 1
	if len(puts) == 0 {
		phase = 2
	}
	return impl.Commit{Who: who, Rv: rv, Phase: phase, Puts: plainNet(puts), Reads: plainCellsOf(reads)}, true
}

func plainBackOver(c impl.Commit, n int) impl.Commit {
	if n == 0 {
		return inPhase(c, 8, 0)
	}
	return inPhase(c, 7, n-1)
}

func plainGoOn(c impl.Commit, phase int) impl.Commit {
	if phase == 3 && len(c.Reads) == 0 {
		return plainGoOn(c, 4)
	}
	if phase == 4 && len(c.Puts) == 0 {
		return inPhase(c, 6, 0)
	}
	return inPhase(c, phase, 0)
}

func plainNext(c impl.Commit, phase int) impl.Commit {
	if c.At+1 == plainPhaseSteps(c) {
		return plainGoOn(c, phase)
	}
	return inPhase(c, c.Phase, c.At+1)
}

func plainCommitStep(m impl.Mem, c impl.Commit) (impl.Mem, impl.Commit) {
	if !plainRight(m) || !plainCommit(c) || c.Phase == 6 || c.Phase == 8 {
		return m, c
	}
	var put impl.Row
	if c.Phase != 2 && c.Phase != 3 {
		put = c.Puts[c.At]
	}
	w := m.Cells[put.Cell]
	switch c.Phase {
	case 1:
		if w.Owner != 0 {
			return m, plainBackOver(c, c.At)
		}
		return withWord(m, put.Cell, impl.Word{Val: w.Val, Ver: w.Ver, Owner: c.Who}), plainNext(c, 2)
	case 2:
		if m.Clock == 1000000 {
			return m, plainBackOver(c, len(c.Puts))
		}
		c.Wv = m.Clock + 1
		return impl.Mem{Clock: m.Clock + 1, Cells: m.Cells}, plainGoOn(c, 3)
	case 3:
		w = m.Cells[c.Reads[c.At]]
		if w.Owner != 0 && w.Owner != c.Who || w.Ver > c.Rv {
			return m, plainBackOver(c, len(c.Puts))
		}
		return m, plainNext(c, 4)
	case 4:
		if w.Owner == c.Who {
			m = withWord(m, put.Cell, impl.Word{Val: put.Val, Ver: w.Ver, Owner: w.Owner})
		}
		return m, plainNext(c, 5)
	case 5:
		if w.Owner == c.Who && fromTo(c.Wv, w.Ver, m.Clock) {
			m = withWord(m, put.Cell, impl.Word{Val: w.Val, Ver: c.Wv})
		}
		return m, plainNext(c, 6)
	}
	if w.Owner == c.Who {
		m = withWord(m, put.Cell, impl.Word{Val: w.Val, Ver: w.Ver})
	}
	return m, plainBackOver(c, c.At)
}

func plainBreak(c impl.Commit) (impl.Commit, bool) {
	if plainCommit(c) && c.Phase == 1 {
		return plainBackOver(c, c.At), true
	}
	if plainCommit(c) && (c.Phase == 2 || c.Phase == 3) {
		return plainBackOver(c, len(c.Puts)), true
	}
	return c, false
}

func plainLeft(c impl.Commit) int {
	p, r := len(c.Puts), len(c.Reads)
	if !plainCommit(c) || c.Phase == 6 || c.Phase == 8 {
		return 0
	}
	return []int{p - c.At + 1 + r + 2*p, 1 + r + 2*p, r - c.At + 2*p, 2*p - c.At, p - c.At, 0, c.At + 1}[c.Phase-1]
}

func inPhase(c impl.Commit, phase, at int) impl.Commit {
	c.Phase, c.At = phase, at
	return c
}

func copyCommit(c impl.Commit) impl.Commit {
	c.Puts, c.Reads = slices.Clone(c.Puts), slices.Clone(c.Reads)
	return c
}

func alikeCommit(a, b impl.Commit) bool {
	if a.Who != b.Who || a.Rv != b.Rv || a.Phase != b.Phase || a.At != b.At || a.Wv != b.Wv {
		return false
	}
	return slices.Equal(a.Puts, b.Puts) && slices.Equal(a.Reads, b.Reads)
}

// spoilCommit writes into the lists of an answer. (No two of them can share memory: their types differ.)
func spoilCommit(c impl.Commit) {
	spoilRows(c.Puts)
	spoilCells(c.Reads)
}

func spoilMem(m impl.Mem) {
	l := m.Cells[:cap(m.Cells)]
	for i := range l {
		l[i] = impl.Word{Val: -88, Ver: -88, Owner: -88}
	}
}

// onCommit asks twice of one commit with room behind its lists, and looks whether they or the room were written into: by the call, or by ask, which spoils the answer.
func onCommit(t *testing.T, name string, c impl.Commit, ask func(impl.Commit) bool) {
	t.Helper()
	given := c
	given.Puts, given.Reads = roomyRows(c.Puts), roomy(c.Reads)
	rows, cells := wholeRows(given.Puts), snapshot(given.Reads)
	for time := range 2 {
		if !ask(given) {
			t.Errorf("%s of %v is wrong at time %d", name, c, time)
		}
		if !slices.Equal(wholeRows(given.Puts), rows) || !slices.Equal(snapshot(given.Reads), cells) {
			t.Fatalf("%s of %v wrote into the commit it was given, or shares memory with it", name, c)
		}
	}
}

func commitOk(t *testing.T, c impl.Commit) bool {
	t.Helper()
	var ok bool
	onCommit(t, "CommitOk", c, func(c impl.Commit) bool {
		ok = impl.CommitOk(c)
		return ok == plainCommit(c)
	})
	return ok
}

func commitNew(t *testing.T, who, rv int, puts, reads []impl.Row) (impl.Commit, bool) {
	t.Helper()
	var answer impl.Commit
	var ok bool
	want, wantOk := plainCommitNew(who, rv, puts, reads)
	onRows(t, "CommitNew", puts, func(puts []impl.Row) bool {
		right := true
		onRows(t, "CommitNew", reads, func(reads []impl.Row) bool {
			var got impl.Commit
			got, ok = impl.CommitNew(who, rv, puts, reads)
			answer = copyCommit(got)
			spoilCommit(got)
			right = right && ok == wantOk && alikeCommit(answer, want)
			return right
		})
		return right
	})
	if ok != wantOk || !alikeCommit(answer, want) {
		t.Errorf("CommitNew(%d, %d, %v, %v) is %v, %v, not %v, %v", who, rv, puts, reads, answer, ok, want, wantOk)
	}
	return answer, ok
}

func commitStep(t *testing.T, m impl.Mem, c impl.Commit) (impl.Mem, impl.Commit) {
	t.Helper()
	given, room := marked(m)
	before := slices.Clone(room)
	var answer impl.Mem
	var next impl.Commit
	wantMem, want := plainCommitStep(m, c)
	onCommit(t, "CommitStep", c, func(c impl.Commit) bool {
		gotMem, got := impl.CommitStep(given, c)
		answer = impl.Mem{Clock: gotMem.Clock, Cells: slices.Clone(gotMem.Cells)}
		next = copyCommit(got)
		spoilMem(gotMem)
		spoilCommit(got)
		if !slices.Equal(room, before) {
			t.Fatalf("CommitStep(%v, %v) wrote into the memory it was given, or shares it", m, c)
		}
		return sameMem(answer, wantMem) && alikeCommit(next, want)
	})
	return answer, next
}

// stepsTo holds a step against one worked out by hand.
func stepsTo(t *testing.T, m impl.Mem, c impl.Commit, wantMem impl.Mem, want impl.Commit) {
	t.Helper()
	gotMem, got := commitStep(t, m, c)
	if !sameMem(gotMem, wantMem) || !alikeCommit(got, want) {
		t.Errorf("CommitStep(%v, %v) is %v, %v, not %v, %v", m, c, gotMem, got, wantMem, want)
	}
}

func commitBreak(t *testing.T, c impl.Commit) (impl.Commit, bool) {
	t.Helper()
	var answer impl.Commit
	var ok bool
	onCommit(t, "CommitBreak", c, func(c impl.Commit) bool {
		want, wantOk := plainBreak(c)
		var got impl.Commit
		got, ok = impl.CommitBreak(c)
		answer = copyCommit(got)
		right := ok == wantOk && alikeCommit(answer, want)
		spoilCommit(got)
		return right
	})
	return answer, ok
}

func commitLeft(t *testing.T, c impl.Commit) int {
	t.Helper()
	var left int
	onCommit(t, "CommitLeft", c, func(c impl.Commit) bool {
		left = impl.CommitLeft(c)
		return left == plainLeft(c)
	})
	return left
}

// calm is a memory at rest, each cell with a Val and a Ver of its own.
func calm() impl.Mem {
	m := impl.Mem{Clock: 7, Cells: make([]impl.Word, impl.Cells)}
	for i := range m.Cells {
		m.Cells[i] = impl.Word{Val: 10 + i, Ver: i}
	}
	return m
}

// owned is the memory with these cells locked by who.
func owned(m impl.Mem, who int, cells ...int) impl.Mem {
	for _, i := range cells {
		w := m.Cells[i]
		w.Owner = who
		m = withWord(m, i, w)
	}
	return m
}

// aCommit is one of three Puts and three Reads that share cell 4, and calm is not newer than it.
func aCommit(phase, at int) impl.Commit {
	return impl.Commit{Who: 3, Rv: 7, Phase: phase, At: at, Wv: 7, Puts: logOf(1, 101, 4, 104, 6, 106), Reads: []int{0, 4, 7}}
}

func withoutPuts(c impl.Commit) impl.Commit {
	c.Puts = nil
	return c
}

func withoutReads(c impl.Commit) impl.Commit {
	c.Reads = nil
	return c
}

// rising are lists of cells that rise, of each length.
func rising() [][]int {
	return [][]int{nil, {}, {0}, {7}, {3}, {0, 7}, {2, 3}, {1, 4, 6}, {0, 1, 2, 5}, {3, 4, 5, 6, 7}, {0, 1, 3, 4, 6, 7}, {0, 1, 2, 3, 4, 5, 7}, {0, 1, 2, 3, 4, 5, 6, 7}}
}

// notRising are lists that have two cells alike, one that falls, or one that is none, at the first, a middle and the last place.
func notRising() [][]int {
	return [][]int{
		{0, 0}, {7, 7}, {3, 3}, {0, 0, 1}, {0, 1, 1}, {2, 4, 4, 6}, {0, 1, 2, 3, 4, 5, 6, 7, 7}, {0, 0, 1, 2, 3, 4, 5, 6, 7},
		{1, 0}, {7, 0}, {4, 3}, {1, 0, 2}, {0, 2, 1}, {0, 5, 3, 7}, {7, 6, 5, 4, 3, 2, 1, 0}, {1, 2, 0}, {4, 5, 4},
		{-1}, {8}, {-8}, {9}, {math.MinInt}, {math.MaxInt}, {-1, 0}, {-2, -1}, {7, 8}, {8, 9}, {0, 1, 8}, {0, 8, 1}, {-1, 3, 5}, {3, -1, 5}, {0, 7, math.MaxInt}, {math.MinInt, 0, 7},
		{0, 1, 2, 3, 4, 5, 6, 7, 8}, {-1, 0, 1, 2, 3, 4, 5, 6, 7}, {math.MaxInt, math.MinInt}, {math.MaxInt, 0},
	}
}

// rowsAt are rows of these cells.
func rowsAt(cells []int) []impl.Row {
	var l []impl.Row
	for i, cell := range cells {
		l = append(l, impl.Row{Cell: cell, Val: []int{0, 65535, 100, 101, 102, 103, 104, 105}[i%8]})
	}
	return l
}

// rightCommits are of each phase and each At, of Puts and Reads of many lengths.
func rightCommits() []impl.Commit {
	var l []impl.Commit
	for i, puts := range rising() {
		for k, reads := range rising() {
			c := impl.Commit{Who: []int{1, 2, 5, 98, 99}[(i+k)%5], Rv: []int{0, 3, 6, 7, impl.MaxClock}[(i+2*k)%5], Wv: []int{0, 1, 6, 7, 8, impl.MaxClock}[(2*i+k)%6], Puts: rowsAt(puts), Reads: slices.Clone(reads)}
			for phase := impl.CmLock; phase <= impl.CmFail; phase++ {
				for at := range plainPhaseSteps(inPhase(c, phase, 0)) {
					l = append(l, inPhase(c, phase, at))
				}
			}
		}
	}
	return l
}

// wrongCommits have one thing that is not right, and else what a commit has that would step, at each phase.
func wrongCommits() []impl.Commit {
	l := []impl.Commit{{}, {Who: 1}, {Phase: impl.CmTick}, {Who: 100, Phase: 9, At: 1, Rv: -1, Wv: -1}}
	for phase := impl.CmLock; phase <= impl.CmFail; phase++ {
		turned := func(turn func(c *impl.Commit)) {
			c := aCommit(phase, 0)
			turn(&c)
			l = append(l, c)
		}
		for _, n := range []int{-1, -3, math.MinInt, math.MaxInt} {
			turned(func(c *impl.Commit) { c.Who = n })
			turned(func(c *impl.Commit) { c.Rv = n })
			turned(func(c *impl.Commit) { c.Wv = n })
			turned(func(c *impl.Commit) { c.Phase = n })
			turned(func(c *impl.Commit) { c.At = n })
		}
		for _, n := range []int{0, 100, 101} {
			turned(func(c *impl.Commit) { c.Who = n })
		}
		for _, n := range []int{impl.MaxClock + 1, impl.MaxClock + 2} {
			turned(func(c *impl.Commit) { c.Rv = n })
			turned(func(c *impl.Commit) { c.Wv = n })
		}
		for _, n := range []int{0, 9, 10} {
			turned(func(c *impl.Commit) { c.Phase = n })
		}
		for _, n := range []int{3, 4, 8} {
			turned(func(c *impl.Commit) { c.At = n })
		}
		for _, cells := range notRising() {
			turned(func(c *impl.Commit) { c.Puts = rowsAt(cells) })
			turned(func(c *impl.Commit) { c.Reads = cells })
		}
		for at := range 3 {
			for _, val := range []int{-1, 65536, math.MinInt, math.MaxInt} {
				turned(func(c *impl.Commit) { c.Puts[at].Val = val })
			}
		}
		turned(func(c *impl.Commit) { c.Puts = longLog(300) })
		turned(func(c *impl.Commit) { c.Puts = longLog(301) })
	}
	for _, phase := range []int{impl.CmLock, impl.CmStore, impl.CmFree, impl.CmBack} {
		l = append(l, withoutPuts(aCommit(phase, 0)), withoutPuts(withoutReads(aCommit(phase, 0))))
	}
	for _, phase := range []int{impl.CmTick, impl.CmDone, impl.CmFail} {
		l = append(l, aCommit(phase, 1), withoutPuts(aCommit(phase, 1)), withoutPuts(withoutReads(aCommit(phase, 1))))
	}
	return append(l, withoutReads(aCommit(impl.CmCheck, 0)), withoutPuts(withoutReads(aCommit(impl.CmCheck, 0))))
}

func TestCommitConstants(t *testing.T) {
	got := []int{impl.CmLock, impl.CmTick, impl.CmCheck, impl.CmStore, impl.CmFree, impl.CmDone, impl.CmBack, impl.CmFail}
	if !slices.Equal(got, []int{1, 2, 3, 4, 5, 6, 7, 8}) {
		t.Error("phases are", got)
	}
}

func TestCommitOkTakesWhatIsRight(t *testing.T) {
	for _, c := range rightCommits() {
		if !commitOk(t, c) {
			t.Errorf("%v is refused", c)
		}
	}
	for _, c := range wrongCommits() {
		if commitOk(t, c) {
			t.Errorf("%v is taken", c)
		}
	}
}

func TestCommitOkAtEachBound(t *testing.T) {
	for phase := impl.CmLock; phase <= impl.CmFail; phase++ {
		for who, ok := range map[int]bool{math.MinInt: false, -1: false, 0: false, 1: true, 2: true, 98: true, 99: true, 100: false, math.MaxInt: false} {
			c := aCommit(phase, 0)
			c.Who = who
			if commitOk(t, c) != ok {
				t.Errorf("CommitOk(%v) is not %v", c, ok)
			}
		}
		for n, ok := range map[int]bool{math.MinInt: false, -1: false, 0: true, 1: true, 999999: true, 1000000: true, 1000001: false, math.MaxInt: false} {
			c, d := aCommit(phase, 0), aCommit(phase, 0)
			c.Rv, d.Wv = n, n
			if commitOk(t, c) != ok || commitOk(t, d) != ok {
				t.Errorf("CommitOk(%v) or CommitOk(%v) is not %v", c, d, ok)
			}
		}
	}
	for phase, ok := range map[int]bool{math.MinInt: false, -1: false, 0: false, 1: true, 8: true, 9: false, 10: false, math.MaxInt: false} {
		if commitOk(t, aCommit(phase, 0)) != ok {
			t.Errorf("phase %d is not %v", phase, ok)
		}
	}
}

// The At up to which a phase goes, of two Puts and four Reads, and of four Puts and two Reads.
func TestCommitOkOfAt(t *testing.T) {
	two, four := []int{2, 5}, []int{0, 3, 4, 7}
	few := impl.Commit{Who: 1, Puts: rowsAt(two), Reads: four}
	many := impl.Commit{Who: 1, Puts: rowsAt(four), Reads: two}
	for _, x := range []struct{ phase, few, many int }{
		{impl.CmLock, 1, 3}, {impl.CmTick, 0, 0}, {impl.CmCheck, 3, 1}, {impl.CmStore, 1, 3},
		{impl.CmFree, 1, 3}, {impl.CmDone, 0, 0}, {impl.CmBack, 1, 3}, {impl.CmFail, 0, 0},
	} {
		for _, at := range []int{math.MinInt, -2, -1, 0, 1, 2, 3, 4, 5, math.MaxInt} {
			if commitOk(t, inPhase(few, x.phase, at)) != (at >= 0 && at <= x.few) {
				t.Errorf("two Puts and four Reads in phase %d at %d", x.phase, at)
			}
			if commitOk(t, inPhase(many, x.phase, at)) != (at >= 0 && at <= x.many) {
				t.Errorf("four Puts and two Reads in phase %d at %d", x.phase, at)
			}
		}
	}
}

// A phase that has no steps has no right At.
func TestCommitOkWithoutRows(t *testing.T) {
	for phase := impl.CmLock; phase <= impl.CmFail; phase++ {
		whole := aCommit(phase, 0)
		one := phase == impl.CmTick || phase == impl.CmDone || phase == impl.CmFail
		if commitOk(t, withoutPuts(whole)) != (one || phase == impl.CmCheck) {
			t.Errorf("phase %d without Puts", phase)
		}
		if commitOk(t, withoutReads(whole)) != (phase != impl.CmCheck) {
			t.Errorf("phase %d without Reads", phase)
		}
		if commitOk(t, withoutPuts(withoutReads(whole))) != one {
			t.Errorf("phase %d without rows", phase)
		}
	}
}

func TestCommitOkOfCells(t *testing.T) {
	for phase := impl.CmLock; phase <= impl.CmFail; phase++ {
		for _, cells := range rising()[2:] {
			c, d := aCommit(phase, 0), aCommit(phase, 0)
			c.Puts, d.Reads = rowsAt(cells), cells
			if !commitOk(t, c) || !commitOk(t, d) {
				t.Errorf("cells %v are refused in phase %d", cells, phase)
			}
		}
		for _, cells := range notRising() {
			c, d := aCommit(phase, 0), aCommit(phase, 0)
			c.Puts, d.Reads = rowsAt(cells), cells
			if commitOk(t, c) || commitOk(t, d) {
				t.Errorf("cells %v are taken in phase %d", cells, phase)
			}
		}
	}
}

func TestCommitNewByHand(t *testing.T) {
	for _, x := range []struct {
		puts, reads []impl.Row
		want        impl.Commit
	}{
		{nil, nil, impl.Commit{Phase: impl.CmTick}},
		{nil, logOf(5, 9), impl.Commit{Phase: impl.CmTick, Reads: []int{5}}},
		{logOf(5, 9), nil, impl.Commit{Phase: impl.CmLock, Puts: logOf(5, 9)}},
		{logOf(0, 0), logOf(0, 0), impl.Commit{Phase: impl.CmLock, Puts: logOf(0, 0), Reads: []int{0}}},
		{logOf(7, 65535), logOf(7, 65535), impl.Commit{Phase: impl.CmLock, Puts: logOf(7, 65535), Reads: []int{7}}},
		{logOf(1, 9, 0, 8, 1, 7), logOf(3, 0), impl.Commit{Phase: impl.CmLock, Puts: logOf(0, 8, 1, 7), Reads: []int{3}}},
		{logOf(2, 5, 2, 5), logOf(6, 1, 6, 1), impl.Commit{Phase: impl.CmLock, Puts: logOf(2, 5), Reads: []int{6}}},
		{logOf(2, 5, 2, 0), logOf(6, 1, 6, 2), impl.Commit{Phase: impl.CmLock, Puts: logOf(2, 0), Reads: []int{6}}},
		{logOf(6, 1, 4, 2, 2, 3), logOf(7, 1, 3, 2, 7, 3, 0, 4, 3, 5), impl.Commit{Phase: impl.CmLock, Puts: logOf(2, 3, 4, 2, 6, 1), Reads: []int{0, 3, 7}}},
	} {
		for _, who := range []int{1, 2, 98, 99} {
			for _, rv := range []int{0, 1, 7, 999999, 1000000} {
				want := x.want
				want.Who, want.Rv = who, rv
				if c, ok := commitNew(t, who, rv, x.puts, x.reads); !ok || !alikeCommit(c, want) || !commitOk(t, c) {
					t.Errorf("CommitNew(%d, %d, %v, %v) is %v, %v", who, rv, x.puts, x.reads, c, ok)
				}
			}
		}
	}
}

func TestCommitNewOfEachLog(t *testing.T) {
	for _, puts := range rightLogs() {
		for _, reads := range rightLogs() {
			if c, ok := commitNew(t, 4, 9, puts, reads); !ok || !commitOk(t, c) {
				t.Errorf("CommitNew(4, 9, %v, %v) is %v, %v", puts, reads, c, ok)
			}
		}
	}
}

func TestCommitNewRefuses(t *testing.T) {
	none := func(who, rv int, puts, reads []impl.Row) {
		t.Helper()
		if c, ok := commitNew(t, who, rv, puts, reads); ok || !alikeCommit(c, impl.Commit{}) {
			t.Errorf("CommitNew(%d, %d, %v, %v) is %v, %v", who, rv, puts, reads, c, ok)
		}
	}
	right := logOf(2, 5, 1, 6)
	for _, l := range [][]impl.Row{nil, right} {
		for _, who := range []int{0, 100, -1, 101, -99, math.MinInt, math.MaxInt} {
			none(who, 3, l, right)
			none(who, 3, right, l)
		}
		for _, rv := range []int{-1, 1000001, -2, 1000002, math.MinInt, math.MaxInt} {
			none(3, rv, l, right)
			none(3, rv, right, l)
		}
		for _, wrong := range wrongLogs() {
			none(3, 3, wrong, l)
			none(3, 3, l, wrong)
		}
	}
	none(0, -1, longLog(301), longLog(301))
}

func TestCommitLock(t *testing.T) {
	puts := []int{1, 4, 6}
	for at, cell := range puts {
		c := aCommit(impl.CmLock, at)
		m := owned(calm(), 3, puts[:at]...)
		want := aCommit(impl.CmLock, at+1)
		if at == 2 {
			want = aCommit(impl.CmTick, 0)
		}
		stepsTo(t, m, c, owned(m, 3, cell), want)
		// No other cell is looked at: neither at an Owner nor at a Ver above Rv.
		others := owned(m, 8, 0, 2, 3, 5, 7)
		stepsTo(t, others, c, owned(others, 3, cell), want)
		old := c
		old.Rv, want.Rv = 0, 0
		stepsTo(t, m, old, owned(m, 3, cell), want)
	}
}

// A lock that is refused: by another, or by who itself; over the first row nothing is to be given back.
func TestCommitLockRefused(t *testing.T) {
	for _, who := range []int{1, 2, 3, 4, 99} {
		stuck := owned(calm(), who, 1, 4, 6)
		stepsTo(t, stuck, aCommit(impl.CmLock, 0), stuck, aCommit(impl.CmFail, 0))
		stepsTo(t, stuck, aCommit(impl.CmLock, 1), stuck, aCommit(impl.CmBack, 0))
		stepsTo(t, stuck, aCommit(impl.CmLock, 2), stuck, aCommit(impl.CmBack, 1))
		first := owned(calm(), who, 1)
		stepsTo(t, first, aCommit(impl.CmLock, 1), owned(first, 3, 4), aCommit(impl.CmLock, 2))
	}
}

func TestCommitLockOfOneRow(t *testing.T) {
	for _, cell := range []int{0, 5, 7} {
		c := aCommit(impl.CmLock, 0)
		c.Puts = rowsAt([]int{cell})
		stepsTo(t, calm(), c, owned(calm(), 3, cell), inPhase(c, impl.CmTick, 0))
		stepsTo(t, owned(calm(), 9, cell), c, owned(calm(), 9, cell), inPhase(c, impl.CmFail, 0))
	}
}

func TestCommitTick(t *testing.T) {
	for _, clock := range []int{7, 8, 100, impl.MaxClock - 1} {
		for _, wv := range []int{0, 7, impl.MaxClock} {
			m := owned(calm(), 3, 1, 4, 6)
			m.Clock = clock
			next := m
			next.Clock = clock + 1
			c := aCommit(impl.CmTick, 0)
			c.Wv = wv
			want := aCommit(impl.CmCheck, 0)
			want.Wv = clock + 1
			stepsTo(t, m, c, next, want)
			stepsTo(t, m, withoutPuts(c), next, withoutPuts(want))
			want.Phase = impl.CmStore
			stepsTo(t, m, withoutReads(c), next, withoutReads(want))
			want.Phase = impl.CmDone
			stepsTo(t, m, withoutPuts(withoutReads(c)), next, withoutPuts(withoutReads(want)))
		}
	}
}

func TestCommitTickRefused(t *testing.T) {
	m := owned(calm(), 3, 1, 4, 6)
	m.Clock = impl.MaxClock
	c := aCommit(impl.CmTick, 0)
	stepsTo(t, m, c, m, inPhase(c, impl.CmBack, 2))
	stepsTo(t, m, withoutReads(c), m, withoutReads(inPhase(c, impl.CmBack, 2)))
	stepsTo(t, m, withoutPuts(c), m, withoutPuts(inPhase(c, impl.CmFail, 0)))
	stepsTo(t, m, withoutPuts(withoutReads(c)), m, withoutPuts(withoutReads(inPhase(c, impl.CmFail, 0))))
	c.Puts = logOf(4, 4)
	stepsTo(t, m, c, m, inPhase(c, impl.CmBack, 0))
}

func TestCommitCheck(t *testing.T) {
	for _, x := range []struct {
		word impl.Word
		rv   int
		fits bool
	}{
		{impl.Word{Ver: 5}, 5, true},
		{impl.Word{Ver: 4}, 5, true},
		{impl.Word{Ver: 0}, 5, true},
		{impl.Word{Ver: 0}, 0, true},
		{impl.Word{Ver: 10}, 10, true},
		{impl.Word{Ver: 10}, impl.MaxClock, true},
		{impl.Word{Ver: 6}, 5, false},
		{impl.Word{Ver: 10}, 5, false},
		{impl.Word{Ver: 1}, 0, false},
		{impl.Word{Ver: 5, Owner: 3}, 5, true},
		{impl.Word{Ver: 4, Owner: 3}, 5, true},
		{impl.Word{Ver: 6, Owner: 3}, 5, false},
		{impl.Word{Ver: 5, Owner: 1}, 5, false},
		{impl.Word{Ver: 5, Owner: 2}, 5, false},
		{impl.Word{Ver: 4, Owner: 4}, 5, false},
		{impl.Word{Ver: 0, Owner: 99}, impl.MaxClock, false},
		{impl.Word{Ver: 6, Owner: 4}, 5, false},
	} {
		for at, cell := range []int{0, 4, 7} {
			// All other cells are locked and as new as the clock.
			m := oneCell(10, cell, x.word)
			c := aCommit(impl.CmCheck, at)
			c.Rv = x.rv
			want, alone := inPhase(c, impl.CmBack, 2), inPhase(c, impl.CmFail, 0)
			if x.fits {
				want, alone = inPhase(c, impl.CmCheck, at+1), inPhase(c, impl.CmCheck, at+1)
			}
			if x.fits && at == 2 {
				want, alone = inPhase(c, impl.CmStore, 0), inPhase(c, impl.CmDone, 0)
			}
			stepsTo(t, m, c, m, want)
			stepsTo(t, m, withoutPuts(c), m, withoutPuts(alone))
		}
	}
}

func TestCommitStore(t *testing.T) {
	for at, cell := range []int{1, 4, 6} {
		want := aCommit(impl.CmStore, at+1)
		if at == 2 {
			want = aCommit(impl.CmFree, 0)
		}
		m := owned(calm(), 3, 1, 4, 6)
		stored := withWord(m, cell, impl.Word{Val: 100 + cell, Ver: cell, Owner: 3})
		stepsTo(t, m, aCommit(impl.CmStore, at), stored, want)
		for _, who := range []int{0, 1, 2, 4, 99} {
			lost := owned(m, who, cell)
			stepsTo(t, lost, aCommit(impl.CmStore, at), lost, want)
		}
	}
	for _, val := range []int{0, 65535} {
		c := impl.Commit{Who: 99, Phase: impl.CmStore, Puts: logOf(7, val)}
		stepsTo(t, owned(calm(), 99, 7), c, withWord(calm(), 7, impl.Word{Val: val, Ver: 7, Owner: 99}), inPhase(c, impl.CmFree, 0))
	}
}

func TestCommitFree(t *testing.T) {
	for at, cell := range []int{1, 4, 6} {
		for _, x := range []struct {
			ver, owner, wv int
			free           bool
		}{
			{5, 3, 7, true}, {7, 3, 7, true}, {5, 3, 10, true}, {10, 3, 10, true}, {0, 3, 0, true}, {5, 3, 5, true},
			{5, 3, 4, false}, {8, 3, 7, false}, {1, 3, 0, false}, {10, 3, 9, false},
			{5, 3, 11, false}, {10, 3, 11, false}, {0, 3, impl.MaxClock, false},
			{5, 0, 7, false}, {5, 1, 7, false}, {5, 2, 7, false}, {5, 4, 7, false}, {5, 99, 7, false},
		} {
			c := aCommit(impl.CmFree, at)
			c.Wv = x.wv
			want := inPhase(c, impl.CmFree, at+1)
			if at == 2 {
				want = inPhase(c, impl.CmDone, 0)
			}
			m := oneCell(10, cell, impl.Word{Val: 9, Ver: x.ver, Owner: x.owner})
			next := m
			if x.free {
				next = withWord(m, cell, impl.Word{Val: 9, Ver: x.wv})
			}
			stepsTo(t, m, c, next, want)
		}
	}
}

func TestCommitBack(t *testing.T) {
	for at, cell := range []int{1, 4, 6} {
		for _, ver := range []int{0, 5, 9, 10} {
			for _, owner := range []int{0, 1, 2, 3, 4, 99} {
				for _, wv := range []int{0, 7, impl.MaxClock} {
					c := aCommit(impl.CmBack, at)
					c.Wv = wv
					want := inPhase(c, impl.CmBack, at-1)
					if at == 0 {
						want = inPhase(c, impl.CmFail, 0)
					}
					m := oneCell(10, cell, impl.Word{Val: 9, Ver: ver, Owner: owner})
					next := m
					if owner == 3 {
						next = withWord(m, cell, impl.Word{Val: 9, Ver: ver})
					}
					stepsTo(t, m, c, next, want)
				}
			}
		}
	}
}

func TestCommitThatHasEndedStays(t *testing.T) {
	for _, phase := range []int{impl.CmDone, impl.CmFail} {
		whole := aCommit(phase, 0)
		for _, c := range []impl.Commit{whole, withoutPuts(whole), withoutReads(whole), withoutPuts(withoutReads(whole))} {
			for _, m := range append(allMems(), calm(), owned(calm(), 3, 1, 4, 6), owned(calm(), 5, 0, 1, 4)) {
				stepsTo(t, m, c, m, c)
			}
		}
	}
}

func TestCommitStaysWhereTheMemoryIsNotRight(t *testing.T) {
	for _, m := range wrongMems() {
		for phase := impl.CmLock; phase <= impl.CmFail; phase++ {
			stepsTo(t, m, aCommit(phase, 0), m, aCommit(phase, 0))
		}
		for _, c := range wrongCommits() {
			stepsTo(t, m, c, m, c)
		}
	}
}

func TestCommitThatIsNotRightStays(t *testing.T) {
	for _, c := range wrongCommits() {
		for _, m := range append(rightMems(), calm(), owned(calm(), 3, 1, 4, 6)) {
			stepsTo(t, m, c, m, c)
		}
	}
}

// Each right commit at memories of every kind: it stays right, and so does the memory, of which one word changes at most.
func TestEachCommitOfEachMemory(t *testing.T) {
	for _, m := range append(rightMems(), calm(), owned(calm(), 1, 0, 1, 2, 3), owned(calm(), 99, 4, 5, 6, 7)) {
		for _, c := range rightCommits() {
			next, d := commitStep(t, m, c)
			if !plainRight(next) || !plainCommit(d) {
				t.Fatalf("CommitStep(%v, %v) is %v, %v", m, c, next, d)
			}
			turned := 0
			for i, w := range next.Cells {
				if w != m.Cells[i] {
					turned++
				}
			}
			if turned > 1 || next.Clock-m.Clock > 1 || d.Who != c.Who || d.Rv != c.Rv || !slices.Equal(d.Puts, c.Puts) || !slices.Equal(d.Reads, c.Reads) {
				t.Errorf("CommitStep(%v, %v) is %v, %v", m, c, next, d)
			}
		}
	}
}

// runs steps a commit until it ends, and tells the steps that it took.
func runs(t *testing.T, m impl.Mem, c impl.Commit) (impl.Mem, impl.Commit, int) {
	t.Helper()
	for n := range 100 {
		if c.Phase == impl.CmDone || c.Phase == impl.CmFail {
			return m, c, n
		}
		m, c = commitStep(t, m, c)
	}
	t.Fatal("no end", m, c)
	return m, c, 0
}

// locksOf counts the cells that who has locked.
func locksOf(m impl.Mem, who int) int {
	n := 0
	for _, w := range m.Cells {
		if w.Owner == who {
			n++
		}
	}
	return n
}

// Promise 10, of one that fails over nothing: all its Puts under one Ver, the other cells as they were, in as many steps as were left.
func TestWholeCommitsToTheEnd(t *testing.T) {
	for _, puts := range rising() {
		for _, reads := range rising() {
			for _, m := range []impl.Mem{calm(), withWord(calm(), 2, impl.Word{Val: 65535})} {
				c, ok := commitNew(t, 3, 7, rowsAt(puts), rowsAt(reads))
				left := commitLeft(t, c)
				if !ok || left != 3*len(puts)+1+len(reads) {
					t.Fatalf("%d steps are left of %v", left, c)
				}
				want := m
				want.Clock = 8
				for _, r := range rowsAt(puts) {
					want = withWord(want, r.Cell, impl.Word{Val: r.Val, Ver: 8})
				}
				end, d, n := runs(t, m, c)
				c.Phase, c.Wv = impl.CmDone, 8
				if !sameMem(end, want) || !alikeCommit(d, c) || n != left {
					t.Errorf("%v ends as %v, %v in %d steps, not as %v", c, end, d, n, want)
				}
			}
		}
	}
}

// A lock of another's over each of the Puts, and over each cell that was read only: all cells stay as they were.
func TestWholeCommitsBesideALock(t *testing.T) {
	for _, cells := range rising() {
		for _, mine := range []int{1, 3, 99} {
			for cell := range impl.Cells {
				m := owned(calm(), 50, cell)
				c, _ := commitNew(t, mine, 7, rowsAt(cells), rowsAt([]int{2, 3, 4}))
				left := commitLeft(t, c)
				end, d, n := runs(t, m, c)
				if n > left || locksOf(end, mine) != 0 || end.Cells[cell].Owner != 50 {
					t.Errorf("%v of %v ends as %v, %v in %d steps", c, m, end, d, n)
				}
				fails := slices.Contains(cells, cell) || fromTo(cell, 2, 4)
				if fails != (d.Phase == impl.CmFail) || fails && !slices.Equal(end.Cells, m.Cells) {
					t.Errorf("%v of %v ends as %v, %v", c, m, end, d)
				}
			}
		}
	}
}

// A cell that was read and is newer than Rv, be it one of the Puts or not; at the same Rv it would do.
func TestWholeCommitsThatReadTooEarly(t *testing.T) {
	for cell := range impl.Cells {
		for _, puts := range [][]int{nil, {cell}, {1, 4, 6}, {0, 1, 2, 3, 4, 5, 6, 7}} {
			for rv := range 8 {
				c, _ := commitNew(t, 3, rv, rowsAt(puts), rowsAt([]int{cell}))
				left := commitLeft(t, c)
				end, d, n := runs(t, calm(), c)
				fails := cell > rv
				if fails != (d.Phase == impl.CmFail) || fails && !slices.Equal(end.Cells, calm().Cells) || n > left || locksOf(end, 3) != 0 {
					t.Errorf("%v ends as %v, %v in %d steps", c, end, d, n)
				}
			}
		}
	}
}

func TestWholeCommitsAtTheEndOfTheClock(t *testing.T) {
	for _, puts := range rising() {
		m := calm()
		m.Clock = impl.MaxClock
		c, _ := commitNew(t, 3, 7, rowsAt(puts), nil)
		end, d, n := runs(t, m, c)
		if d.Phase != impl.CmFail || d.Wv != 0 || !sameMem(end, m) || n != 2*len(puts)+1 {
			t.Errorf("%v ends as %v, %v in %d steps", c, end, d, n)
		}
		m.Clock--
		end, d, n = runs(t, m, c)
		if d.Phase != impl.CmDone || d.Wv != impl.MaxClock || end.Clock != impl.MaxClock || locksOf(end, 3) != 0 || n != 3*len(puts)+1 {
			t.Errorf("%v ends as %v, %v in %d steps", c, end, d, n)
		}
	}
}

// The way of one commit, phase by phase.
func TestPhasesOfACommit(t *testing.T) {
	way := func(m impl.Mem, c impl.Commit) []int {
		var l []int
		for range 3*len(c.Puts) + len(c.Reads) + 3 {
			l = append(l, 10*c.Phase+c.At)
			m, c = commitStep(t, m, c)
		}
		return l
	}
	c, _ := commitNew(t, 3, 7, logOf(4, 1, 1, 2), logOf(6, 0, 4, 0, 0, 0))
	for _, x := range []struct {
		m    impl.Mem
		c    impl.Commit
		want []int
	}{
		{calm(), c, []int{10, 11, 20, 30, 31, 32, 40, 41, 50, 51, 60, 60}},
		{calm(), withoutReads(c), []int{10, 11, 20, 40, 41, 50, 51, 60, 60}},
		{calm(), inPhase(withoutPuts(c), impl.CmTick, 0), []int{20, 30, 31, 32, 60, 60}},
		{calm(), inPhase(withoutReads(withoutPuts(c)), impl.CmTick, 0), []int{20, 60, 60}},
		{owned(calm(), 5, 1), c, []int{10, 80, 80, 80, 80, 80, 80, 80, 80, 80, 80, 80}},
		{owned(calm(), 5, 4), c, []int{10, 11, 70, 80, 80, 80, 80, 80, 80, 80, 80, 80}},
		{owned(calm(), 5, 0), c, []int{10, 11, 20, 30, 71, 70, 80, 80, 80, 80, 80, 80}},
		{owned(calm(), 5, 6), c, []int{10, 11, 20, 30, 31, 32, 71, 70, 80, 80, 80, 80}},
		{owned(calm(), 5, 6), inPhase(withoutPuts(c), impl.CmTick, 0), []int{20, 30, 31, 32, 80, 80}},
	} {
		if got := way(x.m, x.c); !slices.Equal(got, x.want) {
			t.Errorf("%v goes by %v, not %v", x.c, got, x.want)
		}
	}
}

func TestCommitBreakInEachPhase(t *testing.T) {
	for _, x := range []struct {
		c, want impl.Commit
		broke   bool
	}{
		{aCommit(impl.CmLock, 0), aCommit(impl.CmFail, 0), true},
		{aCommit(impl.CmLock, 1), aCommit(impl.CmBack, 0), true},
		{aCommit(impl.CmLock, 2), aCommit(impl.CmBack, 1), true},
		{aCommit(impl.CmTick, 0), aCommit(impl.CmBack, 2), true},
		{aCommit(impl.CmCheck, 0), aCommit(impl.CmBack, 2), true},
		{aCommit(impl.CmCheck, 1), aCommit(impl.CmBack, 2), true},
		{aCommit(impl.CmCheck, 2), aCommit(impl.CmBack, 2), true},
		{withoutPuts(aCommit(impl.CmTick, 0)), withoutPuts(aCommit(impl.CmFail, 0)), true},
		{withoutPuts(aCommit(impl.CmCheck, 0)), withoutPuts(aCommit(impl.CmFail, 0)), true},
		{withoutPuts(aCommit(impl.CmCheck, 2)), withoutPuts(aCommit(impl.CmFail, 0)), true},
		{withoutReads(aCommit(impl.CmLock, 2)), withoutReads(aCommit(impl.CmBack, 1)), true},
		{withoutReads(aCommit(impl.CmTick, 0)), withoutReads(aCommit(impl.CmBack, 2)), true},
		{aCommit(impl.CmStore, 0), aCommit(impl.CmStore, 0), false},
		{aCommit(impl.CmStore, 2), aCommit(impl.CmStore, 2), false},
		{aCommit(impl.CmFree, 0), aCommit(impl.CmFree, 0), false},
		{aCommit(impl.CmFree, 2), aCommit(impl.CmFree, 2), false},
		{aCommit(impl.CmDone, 0), aCommit(impl.CmDone, 0), false},
		{aCommit(impl.CmBack, 0), aCommit(impl.CmBack, 0), false},
		{aCommit(impl.CmBack, 2), aCommit(impl.CmBack, 2), false},
		{aCommit(impl.CmFail, 0), aCommit(impl.CmFail, 0), false},
		{withoutPuts(aCommit(impl.CmDone, 0)), withoutPuts(aCommit(impl.CmDone, 0)), false},
		{withoutPuts(aCommit(impl.CmFail, 0)), withoutPuts(aCommit(impl.CmFail, 0)), false},
	} {
		if got, broke := commitBreak(t, x.c); broke != x.broke || !alikeCommit(got, x.want) {
			t.Errorf("CommitBreak(%v) is %v, %v", x.c, got, broke)
		}
	}
}

func TestCommitBreakOfEachCommit(t *testing.T) {
	for _, c := range rightCommits() {
		if got, broke := commitBreak(t, c); broke != (c.Phase <= impl.CmCheck) || !commitOk(t, got) {
			t.Errorf("CommitBreak(%v) is %v, %v", c, got, broke)
		}
	}
	for _, c := range wrongCommits() {
		if got, broke := commitBreak(t, c); broke || !alikeCommit(got, c) {
			t.Errorf("CommitBreak(%v) is %v, %v", c, got, broke)
		}
	}
}

// A commit that is broken at any of its steps up to CmCheck fails and leaves all cells as they were; later on it is done.
func TestCommitsThatAreBrokenOnTheirWay(t *testing.T) {
	for _, puts := range rising() {
		for _, reads := range [][]int{nil, {2}, {1, 4, 6}, {0, 1, 2, 3, 4, 5, 6, 7}} {
			first, _ := commitNew(t, 3, 7, rowsAt(puts), rowsAt(reads))
			left := commitLeft(t, first)
			for stop := range left + 1 {
				m, c := calm(), first
				for range stop {
					m, c = commitStep(t, m, c)
				}
				broken, broke := commitBreak(t, c)
				if broke != (stop < len(puts)+1+len(reads)) {
					t.Errorf("%v is broken: %v", c, broke)
				}
				end, d, n := runs(t, m, broken)
				if broke != (d.Phase == impl.CmFail) || broke && !slices.Equal(end.Cells, calm().Cells) || locksOf(end, 3) != 0 {
					t.Errorf("%v, broken at step %d, ends as %v, %v", first, stop, end, d)
				}
				if stop+n > left {
					t.Errorf("%v, broken at step %d, takes %d steps more", first, stop, n)
				}
			}
		}
	}
}

func TestCommitLeftInEachPhase(t *testing.T) {
	two := func(phase, at int) impl.Commit {
		return impl.Commit{Who: 1, Phase: phase, At: at, Puts: rowsAt([]int{2, 5}), Reads: []int{0, 3, 4, 7}}
	}
	for _, x := range []struct {
		c    impl.Commit
		left int
	}{
		{two(impl.CmLock, 0), 11}, {two(impl.CmLock, 1), 10}, {two(impl.CmTick, 0), 9},
		{two(impl.CmCheck, 0), 8}, {two(impl.CmCheck, 1), 7}, {two(impl.CmCheck, 2), 6}, {two(impl.CmCheck, 3), 5},
		{two(impl.CmStore, 0), 4}, {two(impl.CmStore, 1), 3}, {two(impl.CmFree, 0), 2}, {two(impl.CmFree, 1), 1},
		{two(impl.CmBack, 0), 1}, {two(impl.CmBack, 1), 2}, {two(impl.CmDone, 0), 0}, {two(impl.CmFail, 0), 0},
		{withoutReads(two(impl.CmLock, 0)), 7}, {withoutReads(two(impl.CmTick, 0)), 5},
		{withoutPuts(two(impl.CmTick, 0)), 5}, {withoutPuts(two(impl.CmCheck, 0)), 4}, {withoutPuts(two(impl.CmCheck, 3)), 1},
		{withoutPuts(withoutReads(two(impl.CmTick, 0))), 1}, {withoutPuts(withoutReads(two(impl.CmDone, 0))), 0},
		{two(impl.CmLock, 2), 0}, {two(impl.CmLock, -1), 0}, {two(impl.CmTick, 1), 0}, {two(impl.CmCheck, 4), 0},
		{two(impl.CmStore, 2), 0}, {two(impl.CmFree, 2), 0}, {two(impl.CmBack, 2), 0}, {two(0, 0), 0}, {two(9, 0), 0},
		{withoutPuts(two(impl.CmLock, 0)), 0}, {withoutReads(two(impl.CmCheck, 0)), 0}, {withoutPuts(two(impl.CmBack, 0)), 0},
	} {
		if left := commitLeft(t, x.c); left != x.left {
			t.Errorf("CommitLeft(%v) is %d, not %d", x.c, left, x.left)
		}
	}
	for _, c := range wrongCommits() {
		if left := commitLeft(t, c); left != 0 {
			t.Errorf("CommitLeft(%v) is %d", c, left)
		}
	}
}

// Each step that does not fail makes it one less; where it fails it never grows past what was left.
func TestCommitLeftFalls(t *testing.T) {
	for _, m := range append(rightMems(), calm(), owned(calm(), 1, 0, 1, 2, 3), owned(calm(), 99, 4, 5, 6, 7)) {
		for _, c := range rightCommits() {
			left := commitLeft(t, c)
			_, d := commitStep(t, m, c)
			ended := c.Phase == impl.CmDone || c.Phase == impl.CmFail
			failed := c.Phase <= impl.CmCheck && d.Phase >= impl.CmBack
			if now := commitLeft(t, d); ended && now != 0 || !ended && !failed && now != left-1 || failed && now >= left {
				t.Errorf("%d steps are left of %v, %d of %v behind it", left, c, now, d)
			}
		}
	}
}

// A trio is a moment of several commits beside each other on one memory.
type trio struct {
	m       impl.Mem
	commits []impl.Commit
	limit   []int
	taken   []int
}

func startTrio(t *testing.T, pick func(int) int) *trio {
	t.Helper()
	b := &trio{m: calm()}
	for i := range 3 {
		var puts, reads []impl.Row
		for range pick(4) {
			puts = append(puts, impl.Row{Cell: pick(8), Val: 1000*(i+1) + pick(100)})
		}
		for range pick(3) {
			reads = append(reads, impl.Row{Cell: pick(8), Val: pick(100)})
		}
		c, ok := commitNew(t, i+1, 5+pick(4), puts, reads)
		if !ok {
			t.Fatal("refused", puts, reads)
		}
		b.commits = append(b.commits, c)
		b.limit = append(b.limit, commitLeft(t, c))
	}
	b.taken = make([]int, 3)
	return b
}

// step is one of commit i, which writes no value and no Ver but in CmStore and CmFree, and then its own.
func (b *trio) step(t *testing.T, i int) {
	t.Helper()
	c := b.commits[i]
	if c.Phase == impl.CmDone || c.Phase == impl.CmFail {
		return
	}
	next, d := commitStep(t, b.m, c)
	for k, w := range next.Cells {
		was := b.m.Cells[k]
		if w.Val != was.Val && c.Phase != impl.CmStore || w.Ver != was.Ver && c.Phase != impl.CmFree {
			t.Errorf("%v has made %v of cell %d, which was %v", c, w, k, was)
		}
		if w != was && was.Owner != 0 && was.Owner != c.Who {
			t.Errorf("%v has changed cell %d, which was %v", c, k, was)
		}
	}
	if c.Phase == impl.CmFree && next.Cells[c.Puts[c.At].Cell] != (impl.Word{Val: c.Puts[c.At].Val, Ver: c.Wv}) {
		t.Errorf("%v leaves %v", c, next)
	}
	b.m, b.commits[i] = next, d
	b.taken[i]++
}

// left is the memory's cells when those that were done had been done one by one, by their Wv.
func (b *trio) left() []impl.Word {
	cells := calm().Cells
	done := slices.DeleteFunc(slices.Clone(b.commits), func(c impl.Commit) bool { return c.Phase != impl.CmDone })
	slices.SortFunc(done, func(x, y impl.Commit) int { return x.Wv - y.Wv })
	for _, c := range done {
		for _, r := range c.Puts {
			cells[r.Cell] = impl.Word{Val: r.Val, Ver: c.Wv}
		}
	}
	return cells
}

// Promise 10, beside others: whoever steps next, what is done is there under its Wv, what failed left nothing, and no lock stays.
func TestCommitsBesideEachOther(t *testing.T) {
	pick := picker(101010)
	ends := map[int]int{}
	for range 3000 {
		b := startTrio(t, pick)
		for range 150 {
			b.step(t, pick(3))
		}
		for i, c := range b.commits {
			ends[c.Phase]++
			if b.taken[i] > b.limit[i] {
				t.Errorf("%v took %d steps, not %d", c, b.taken[i], b.limit[i])
			}
		}
		if !slices.Equal(b.m.Cells, b.left()) {
			t.Fatalf("%v leave %v, not %v", b.commits, b.m, b.left())
		}
	}
	if ends[impl.CmDone] < 1000 || ends[impl.CmFail] < 1000 || ends[impl.CmDone]+ends[impl.CmFail] != 9000 {
		t.Error("the commits ended so:", ends)
	}
}

func TestCommitAnswersStayTheSame(t *testing.T) {
	m := owned(someMem(), 5, 0)
	for _, c := range append(rightCommits(), wrongCommits()...) {
		ok, left := impl.CommitOk(c), impl.CommitLeft(c)
		next, d := impl.CommitStep(m, c)
		broken, broke := impl.CommitBreak(c)
		made, is := impl.CommitNew(c.Who, c.Rv, c.Puts, c.Puts)
		for range 3 {
			againMem, again := impl.CommitStep(m, c)
			torn, still := impl.CommitBreak(c)
			like, was := impl.CommitNew(c.Who, c.Rv, c.Puts, c.Puts)
			if impl.CommitOk(c) != ok || impl.CommitLeft(c) != left || !sameMem(againMem, next) || !alikeCommit(again, d) {
				t.Fatalf("the answers of %v change", c)
			}
			if !alikeCommit(torn, broken) || still != broke || !alikeCommit(like, made) || was != is {
				t.Fatalf("the answers of %v change", c)
			}
		}
	}
	if !sameMem(m, owned(someMem(), 5, 0)) {
		t.Error("the memory was written into:", m)
	}
}
