package tests

import (
	"math"
	"slices"
	"testing"

	"loop.example/g01277/impl"
)

// someMem is a right memory with a word of every kind: free and locked ones, with the least and the greatest Val, Ver and Owner.
func someMem() impl.Mem {
	return impl.Mem{Clock: 7, Cells: []impl.Word{
		{Val: 0, Ver: 0, Owner: 0},
		{Val: 65535, Ver: 7, Owner: 0},
		{Val: 10, Ver: 3, Owner: 1},
		{Val: 11, Ver: 7, Owner: impl.MaxOwner},
		{Val: 12, Ver: 0, Owner: 5},
		{Val: 13, Ver: 6, Owner: 0},
		{Val: 65535, Ver: 1, Owner: 2},
		{Val: 1, Ver: 7, Owner: impl.MaxOwner - 1},
	}}
}

// withWord is the memory with one word turned.
func withWord(m impl.Mem, i int, w impl.Word) impl.Mem {
	m.Cells = slices.Clone(m.Cells)
	m.Cells[i] = w
	return m
}

func rightMems() []impl.Mem {
	fresh := impl.Mem{Cells: make([]impl.Word, impl.Cells)}
	early := impl.Mem{Cells: slices.Clone(someMem().Cells)}
	for i := range early.Cells {
		early.Cells[i].Ver = 0
	}
	late := someMem()
	late.Clock = impl.MaxClock
	late.Cells[2].Ver = impl.MaxClock
	late.Cells[1].Ver = impl.MaxClock
	nearly := someMem()
	nearly.Clock = impl.MaxClock - 1
	return []impl.Mem{fresh, early, late, nearly, someMem()}
}

// wrongMems are memories with one thing in them that is not right, at the first, a middle and the last cell.
func wrongMems() []impl.Mem {
	l := []impl.Mem{{}, {Clock: 7}, {Cells: []impl.Word{}}, {Cells: []impl.Word{{}}}}
	for _, clock := range []int{-1, impl.MaxClock + 1, math.MinInt, math.MaxInt} {
		m := impl.Mem{Clock: clock, Cells: make([]impl.Word, impl.Cells)}
		l = append(l, m)
		m = someMem()
		m.Clock = clock
		l = append(l, m)
	}
	m := someMem()
	m.Clock = 6
	l = append(l, m)
	m = someMem()
	m.Cells = m.Cells[:impl.Cells-1]
	l = append(l, m)
	m = someMem()
	m.Cells = append(m.Cells, impl.Word{})
	l = append(l, m)
	for _, i := range []int{0, 3, impl.Cells - 1} {
		for _, w := range []impl.Word{
			{Val: -1}, {Val: 65536}, {Val: math.MinInt}, {Val: math.MaxInt},
			{Ver: -1}, {Ver: 8}, {Ver: impl.MaxClock}, {Ver: math.MinInt}, {Ver: math.MaxInt},
			{Owner: -1}, {Owner: impl.MaxOwner + 1}, {Owner: math.MinInt}, {Owner: math.MaxInt},
			{Val: 65536, Ver: 8, Owner: impl.MaxOwner + 1}, {Val: -1, Ver: -1, Owner: -1},
		} {
			l = append(l, withWord(someMem(), i, w))
		}
	}
	for _, w := range []impl.Word{{Ver: impl.MaxClock + 1}, {Ver: -1}} {
		late := someMem()
		late.Clock = impl.MaxClock
		l = append(l, withWord(late, 4, w))
	}
	return l
}

func allMems() []impl.Mem {
	return append(rightMems(), wrongMems()...)
}

func sameMem(a, b impl.Mem) bool {
	return a.Clock == b.Clock && slices.Equal(a.Cells, b.Cells)
}

// plainRight takes the chapter's words one by one.
func plainRight(m impl.Mem) bool {
	if len(m.Cells) != 8 || m.Clock < 0 || m.Clock > 1000000 {
		return false
	}
	for _, w := range m.Cells {
		if w.Val < 0 || w.Val > 65535 || w.Ver < 0 || w.Ver > m.Clock || w.Owner < 0 || w.Owner > 99 {
			return false
		}
	}
	return true
}

// marked is the memory with marked room behind its cells, and all of that room.
func marked(m impl.Mem) (impl.Mem, []impl.Word) {
	room := make([]impl.Word, len(m.Cells)+3)
	copy(room, m.Cells)
	for i := len(m.Cells); i < len(room); i++ {
		room[i] = impl.Word{Val: -7, Ver: -8, Owner: -9}
	}
	m.Cells = room[:len(m.Cells)]
	return m, room
}

// changed asks a function that changes a memory, and checks that it wrote nothing into what it was given and shares nothing with it.
func changed[R any](t *testing.T, name string, m impl.Mem, call func(impl.Mem) (impl.Mem, R)) (impl.Mem, R) {
	t.Helper()
	given, room := marked(m)
	before := slices.Clone(room)
	got, r := call(given)
	answer := impl.Mem{Clock: got.Clock, Cells: slices.Clone(got.Cells)}
	if !slices.Equal(room, before) {
		t.Errorf("%s of %v wrote into what it was given", name, m)
	}
	all := got.Cells[:cap(got.Cells)]
	for i := range all {
		all[i] = impl.Word{Val: -1, Ver: -2, Owner: -3}
	}
	if !slices.Equal(room, before) {
		t.Errorf("%s of %v shares memory with what it was given", name, m)
	}
	return answer, r
}

var wordCells = []int{0, 1, 2, 3, 4, 5, 6, 7, impl.Cells, impl.Cells + 1, -1, -8, math.MinInt, math.MaxInt}

var wordOwners = []int{0, 1, 2, 3, 5, impl.MaxOwner - 1, impl.MaxOwner, impl.MaxOwner + 1, -1, -5, math.MinInt, math.MaxInt}

func TestWordLimits(t *testing.T) {
	if impl.Cells != 8 || impl.MaxClock != 1000000 || impl.MaxOwner != 99 {
		t.Error("limits are", impl.Cells, impl.MaxClock, impl.MaxOwner)
	}
}

func TestMemOkTakesWhatIsRight(t *testing.T) {
	for _, m := range rightMems() {
		if !plainRight(m) || !impl.MemOk(m) {
			t.Errorf("%v is refused", m)
		}
	}
	for _, m := range wrongMems() {
		if plainRight(m) || impl.MemOk(m) {
			t.Errorf("%v is taken", m)
		}
	}
}

func TestMemOkOfEachWordAtItsBounds(t *testing.T) {
	edges := []int{math.MinInt, -1, 0, 1, 6, 7, 8, 98, 99, 100, 65534, 65535, 65536, 999999, 1000000, 1000001, math.MaxInt}
	for _, clock := range edges {
		for i := range impl.Cells {
			for _, n := range edges {
				for _, w := range []impl.Word{{Val: n}, {Ver: n}, {Owner: n}, {Val: 65535, Ver: n, Owner: 99}} {
					m := withWord(impl.Mem{Clock: clock, Cells: make([]impl.Word, impl.Cells)}, i, w)
					if impl.MemOk(m) != plainRight(m) {
						t.Fatalf("MemOk of %v is %v", m, !plainRight(m))
					}
				}
			}
		}
	}
}

func TestMemOkCountsWords(t *testing.T) {
	for n := range 20 {
		m := impl.Mem{Cells: make([]impl.Word, n)}
		if impl.MemOk(m) != (n == 8) {
			t.Errorf("MemOk of %d words is %v", n, n != 8)
		}
	}
}

func TestMemNewMakes(t *testing.T) {
	for _, l := range [][]int{
		{0, 0, 0, 0, 0, 0, 0, 0},
		{1, 2, 3, 4, 5, 6, 7, 8},
		{65535, 0, 65535, 0, 9, 9, 0, 65535},
		{0, 65535, 65535, 65535, 65535, 65535, 65535, 0},
	} {
		given := append(slices.Clone(l), -1, -2)[:len(l)]
		m, ok := impl.MemNew(given)
		if !ok || !impl.MemOk(m) || m.Clock != 0 || !slices.Equal(impl.Values(m), l) {
			t.Errorf("MemNew(%v) is %v, %v", l, m, ok)
			continue
		}
		for i, w := range m.Cells {
			if w != (impl.Word{Val: l[i]}) {
				t.Errorf("MemNew(%v) has the word %v at %d", l, w, i)
			}
		}
		if !slices.Equal(given[:len(l)+2], append(slices.Clone(l), -1, -2)) {
			t.Errorf("MemNew(%v) wrote into what it was given", l)
		}
	}
}

func TestMemNewRefuses(t *testing.T) {
	wrong := [][]int{nil, {}, {1}, make([]int, 7), make([]int, 9), make([]int, 16)}
	for _, v := range []int{-1, 65536, math.MinInt, math.MaxInt} {
		for i := range impl.Cells {
			l := []int{1, 2, 3, 4, 5, 6, 7, 8}
			l[i] = v
			wrong = append(wrong, l)
		}
	}
	for _, l := range wrong {
		if m, ok := impl.MemNew(l); ok || m.Clock != 0 || len(m.Cells) != 0 {
			t.Errorf("MemNew(%v) is %v, %v", l, m, ok)
		}
	}
}

func TestValuesTellsAllVal(t *testing.T) {
	if got := impl.Values(someMem()); !slices.Equal(got, []int{0, 65535, 10, 11, 12, 13, 65535, 1}) {
		t.Errorf("Values is %v", got)
	}
	for _, m := range allMems() {
		given, room := marked(m)
		before := slices.Clone(room)
		got := impl.Values(given)
		if !plainRight(m) {
			if len(got) != 0 {
				t.Errorf("Values of %v is %v", m, got)
			}
			continue
		}
		if len(got) != impl.Cells {
			t.Errorf("Values of %v is %v", m, got)
			continue
		}
		for i, w := range m.Cells {
			if got[i] != w.Val {
				t.Errorf("Values of %v is %v", m, got)
			}
		}
		got[0] = -1
		if !slices.Equal(room, before) {
			t.Errorf("Values of %v changed it", m)
		}
		if again := impl.Values(given); again[0] != m.Cells[0].Val {
			t.Errorf("Values of %v is kept", m)
		}
	}
}

func TestLoads(t *testing.T) {
	for _, m := range allMems() {
		for _, i := range wordCells {
			var want impl.Word
			is := plainRight(m) && i >= 0 && i < 8
			if is {
				want = m.Cells[i]
			}
			given, room := marked(m)
			before := slices.Clone(room)
			ver, owner, ok := impl.LoadLock(given, i)
			if ver != want.Ver || owner != want.Owner || ok != is {
				t.Errorf("LoadLock(%v, %d) is %d, %d, %v", m, i, ver, owner, ok)
			}
			v, ok := impl.LoadVal(given, i)
			if v != want.Val || ok != is {
				t.Errorf("LoadVal(%v, %d) is %d, %v", m, i, v, ok)
			}
			if !slices.Equal(room, before) {
				t.Errorf("a load of %v, %d wrote into it", m, i)
			}
		}
	}
}

// expect checks an answer: the memory with that word at i where it may be, else as it is.
func expect(t *testing.T, name string, m impl.Mem, i int, w impl.Word, may bool, got impl.Mem, ok bool, more ...int) {
	t.Helper()
	want := m
	if may {
		want = withWord(m, i, w)
	}
	if ok != may || !sameMem(got, want) {
		t.Errorf("%s(%v, %d, %v) is %v, %v, not %v, %v", name, m, i, more, got, ok, want, may)
	}
	if plainRight(m) && !plainRight(got) {
		t.Errorf("%s(%v, %d, %v) is not right: %v", name, m, i, more, got)
	}
}

func isOwner(who int) bool { return who >= 1 && who <= 99 }

func hasCell(m impl.Mem, i int) bool { return plainRight(m) && i >= 0 && i < 8 }

func TestLock(t *testing.T) {
	for _, m := range allMems() {
		for _, i := range wordCells {
			for _, who := range wordOwners {
				got, ok := changed(t, "Lock", m, func(m impl.Mem) (impl.Mem, bool) { return impl.Lock(m, i, who) })
				var w impl.Word
				may := hasCell(m, i) && isOwner(who) && m.Cells[i].Owner == 0
				if may {
					w = impl.Word{Val: m.Cells[i].Val, Ver: m.Cells[i].Ver, Owner: who}
				}
				expect(t, "Lock", m, i, w, may, got, ok, who)
			}
		}
	}
}

func TestStore(t *testing.T) {
	for _, m := range allMems() {
		for _, i := range wordCells {
			for _, who := range wordOwners {
				for _, v := range []int{0, 1, 9, 65534, 65535, 65536, -1, math.MinInt, math.MaxInt} {
					got, ok := changed(t, "Store", m, func(m impl.Mem) (impl.Mem, bool) { return impl.Store(m, i, who, v) })
					var w impl.Word
					may := hasCell(m, i) && isOwner(who) && m.Cells[i].Owner == who && v >= 0 && v <= 65535
					if may {
						w = impl.Word{Val: v, Ver: m.Cells[i].Ver, Owner: who}
					}
					expect(t, "Store", m, i, w, may, got, ok, who, v)
				}
			}
		}
	}
}

func TestUnlock(t *testing.T) {
	for _, m := range allMems() {
		for _, i := range wordCells {
			for _, who := range wordOwners {
				vers := []int{0, 1, 2, 3, 6, 7, 8, m.Clock - 1, m.Clock, m.Clock + 1, impl.MaxClock, impl.MaxClock + 1, -1, math.MinInt, math.MaxInt}
				for _, ver := range vers {
					got, ok := changed(t, "Unlock", m, func(m impl.Mem) (impl.Mem, bool) { return impl.Unlock(m, i, who, ver) })
					var w impl.Word
					may := hasCell(m, i) && isOwner(who) && m.Cells[i].Owner == who && ver >= m.Cells[i].Ver && ver <= m.Clock
					if may {
						w = impl.Word{Val: m.Cells[i].Val, Ver: ver}
					}
					expect(t, "Unlock", m, i, w, may, got, ok, who, ver)
				}
			}
		}
	}
}

func TestUnlockTakesNoEarlierVer(t *testing.T) {
	m := withWord(someMem(), 0, impl.Word{Val: 4, Ver: 5, Owner: 8})
	for ver := -1; ver < 10; ver++ {
		got, ok := impl.Unlock(m, 0, 8, ver)
		if ok != (ver >= 5 && ver <= 7) {
			t.Errorf("Unlock with %d is %v", ver, ok)
		}
		if ok && got.Cells[0] != (impl.Word{Val: 4, Ver: ver}) || !ok && !sameMem(got, m) {
			t.Errorf("Unlock with %d leaves %v", ver, got)
		}
	}
}

func TestTick(t *testing.T) {
	for _, m := range allMems() {
		got, n := changed(t, "Tick", m, impl.Tick)
		want := m
		told := 0
		if plainRight(m) && m.Clock < 1000000 {
			want.Clock++
			told = want.Clock
		}
		if n != told || !sameMem(got, want) {
			t.Errorf("Tick(%v) is %v, %d", m, got, n)
		}
		if plainRight(m) && !plainRight(got) {
			t.Errorf("Tick(%v) is not right: %v", m, got)
		}
	}
}

func TestTickUpToMaxClock(t *testing.T) {
	m := someMem()
	m.Clock = impl.MaxClock - 2
	for _, want := range []int{impl.MaxClock - 1, impl.MaxClock, 0, 0} {
		var n int
		if m, n = impl.Tick(m); n != want {
			t.Errorf("Tick tells %d, not %d", n, want)
		}
	}
	if m.Clock != impl.MaxClock || !impl.MemOk(m) {
		t.Error("Clock is", m.Clock)
	}
}

func TestLockedByOneAtMost(t *testing.T) {
	m, _ := impl.MemNew(make([]int, impl.Cells))
	for first := 1; first <= impl.MaxOwner; first++ {
		locked, ok := impl.Lock(m, 3, first)
		if !ok {
			t.Fatalf("%d may not lock a free cell", first)
		}
		for other := 0; other <= impl.MaxOwner+1; other++ {
			if _, ok := impl.Lock(locked, 3, other); ok {
				t.Errorf("%d locks what %d has locked", other, first)
			}
			_, stores := impl.Store(locked, 3, other, 1)
			_, unlocks := impl.Unlock(locked, 3, other, 0)
			if stores != (other == first) || unlocks != (other == first) {
				t.Errorf("what %d has locked: %d stores %v, unlocks %v", first, other, stores, unlocks)
			}
		}
		if free, _ := impl.Unlock(locked, 3, first, 0); !sameMem(free, m) {
			t.Errorf("unlocked it is %v", free)
		}
	}
}

func TestNobodyHasAFreeCell(t *testing.T) {
	m, _ := impl.MemNew(make([]int, impl.Cells))
	for i := range impl.Cells {
		if got, ok := impl.Store(m, i, 0, 5); ok || !sameMem(got, m) {
			t.Errorf("nobody stores into cell %d", i)
		}
		if got, ok := impl.Unlock(m, i, 0, 0); ok || !sameMem(got, m) {
			t.Errorf("nobody unlocks cell %d", i)
		}
		if got, ok := impl.Lock(m, i, 0); ok || !sameMem(got, m) {
			t.Errorf("nobody locks cell %d", i)
		}
	}
}

// A long row of calls, picked by a rule, right ones and wrong ones mixed: each memory on the way stays right, and who has a cell is the one that got it.
func TestMemoryStaysRight(t *testing.T) {
	m, _ := impl.MemNew([]int{1, 2, 3, 4, 5, 6, 7, 8})
	var owner [impl.Cells]int
	seed := uint32(12345)
	pick := func(below int) int {
		seed = seed*1664525 + 1013904223
		return int(seed>>8) % below
	}
	for step := range 20000 {
		i, who := pick(10)-1, pick(5)
		if pick(20) == 0 {
			who = impl.MaxOwner + pick(2)
		}
		before := impl.Mem{Clock: m.Clock, Cells: slices.Clone(m.Cells)}
		ok := false
		switch pick(4) {
		case 0:
			if m, ok = impl.Lock(m, i, who); ok {
				if owner[i] != 0 {
					t.Fatalf("step %d: %d locks what %d has", step, who, owner[i])
				}
				owner[i] = who
			}
		case 1:
			if m, ok = impl.Store(m, i, who, pick(65540)-2); ok && owner[i] != who {
				t.Fatalf("step %d: %d stores into what %d has", step, who, owner[i])
			}
		case 2:
			if m, ok = impl.Unlock(m, i, who, m.Clock+1-pick(4)); ok {
				if owner[i] != who {
					t.Fatalf("step %d: %d unlocks what %d has", step, who, owner[i])
				}
				owner[i] = 0
			}
		case 3:
			n := 0
			m, n = impl.Tick(m)
			ok = n == before.Clock+1 && n == m.Clock
		}
		if !ok && !sameMem(m, before) {
			t.Fatalf("step %d: what is refused made %v of %v", step, m, before)
		}
		if !impl.MemOk(m) || !plainRight(m) {
			t.Fatalf("step %d: %v is not right", step, m)
		}
		for c := range owner {
			if m.Cells[c].Owner != owner[c] {
				t.Fatalf("step %d: cell %d is locked by %d, not %d", step, c, m.Cells[c].Owner, owner[c])
			}
		}
	}
}
