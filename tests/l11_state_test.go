package tests

import (
	"math"
	"slices"
	"testing"

	"loop.example/g01277/impl"
)

// Each of the plain ones takes the chapter's words one by one, without sorting: it looks for the next stamp above the last one.

func plainHist(l []impl.Wrote) bool {
	for i, w := range l {
		for _, other := range l[:i] {
			if w.Stamp == other.Stamp {
				return false
			}
		}
		if !fromTo(w.Stamp, 1, 1000000) || !fromTo(w.Who, 1, 99) || !plainRows(w.Puts) {
			return false
		}
	}
	return len(l) <= 200
}

// plainNextEntry is the entry with the least stamp above this one.
func plainNextEntry(l []impl.Wrote, above int) (impl.Wrote, bool) {
	next, found := impl.Wrote{}, false
	for _, w := range l {
		if w.Stamp > above && (!found || w.Stamp < next.Stamp) {
			next, found = w, true
		}
	}
	return next, found
}

func plainStateAt(cells []int, l []impl.Wrote, n int) []int {
	if !plainCells(cells) || !plainHist(l) {
		return nil
	}
	state := slices.Clone(cells)
	for w, ok := plainNextEntry(l, 0); ok && w.Stamp <= n; w, ok = plainNextEntry(l, w.Stamp) {
		for _, r := range w.Puts {
			state[r.Cell] = r.Val
		}
	}
	return state
}

func plainStamps(l []impl.Wrote) []int {
	var stamps []int
	if !plainHist(l) {
		return nil
	}
	for w, ok := plainNextEntry(l, 0); ok; w, ok = plainNextEntry(l, w.Stamp) {
		stamps = append(stamps, w.Stamp)
	}
	return stamps
}

func plainLastWriter(l []impl.Wrote, cell int, n int) int {
	last := 0
	if !plainHist(l) {
		return 0
	}
	for _, w := range l {
		for _, r := range w.Puts {
			if r.Cell == cell && w.Stamp <= n && w.Stamp > last {
				last = w.Stamp
			}
		}
	}
	return last
}

// entry takes the cells and values of its Puts by turns.
func entry(stamp, who int, puts ...int) impl.Wrote {
	return impl.Wrote{Stamp: stamp, Who: who, Puts: logOf(puts...)}
}

func copyHist(l []impl.Wrote) []impl.Wrote {
	l = slices.Clone(l)
	for i, w := range l {
		l[i].Puts = slices.Clone(w.Puts)
	}
	return l
}

// roomyHist is the history with an entry behind it, and rows behind the Puts of each.
func roomyHist(l []impl.Wrote) []impl.Wrote {
	l = append(slices.Clone(l), entry(3, 4, 0, 55))
	for i, w := range l {
		l[i].Puts = roomyRows(w.Puts)
	}
	return l[:len(l)-1]
}

// wholeHist is a copy with all the spare room, of the Puts too.
func wholeHist(l []impl.Wrote) []impl.Wrote {
	l = slices.Clone(l[:cap(l)])
	for i, w := range l {
		l[i].Puts = wholeRows(w.Puts)
	}
	return l
}

func alikeWrote(a, b impl.Wrote) bool {
	return a.Stamp == b.Stamp && a.Who == b.Who && slices.Equal(a.Puts, b.Puts)
}

func alikeHist(a, b []impl.Wrote) bool {
	return slices.EqualFunc(a, b, alikeWrote)
}

// onHist asks twice, each time of the same history, and looks whether the entries, their Puts or the spare room were written into: by the call, or by ask, which spoils the answer.
func onHist(t *testing.T, name string, l []impl.Wrote, ask func([]impl.Wrote) bool) {
	t.Helper()
	given := roomyHist(l)
	before := wholeHist(given)
	for time := range 2 {
		if !ask(given) {
			t.Errorf("%s of %v is wrong at time %d", name, l, time)
		}
		if !alikeHist(wholeHist(given), before) {
			t.Fatalf("%s of %v wrote into what it was given, or shares memory with it", name, l)
		}
	}
}

func histOk(t *testing.T, l []impl.Wrote) bool {
	t.Helper()
	var ok bool
	onHist(t, "HistOk", l, func(l []impl.Wrote) bool {
		ok = impl.HistOk(l)
		return ok == plainHist(l)
	})
	return ok
}

func stateAt(t *testing.T, cells []int, l []impl.Wrote, n int) []int {
	t.Helper()
	given := roomy(cells)
	before := snapshot(given)
	var answer []int
	onHist(t, "StateAt", l, func(l []impl.Wrote) bool {
		got := impl.StateAt(given, l, n)
		answer = slices.Clone(got)
		spoilCells(got)
		if !slices.Equal(snapshot(given), before) {
			t.Errorf("StateAt(%v, %v, %d) wrote into the values it was given, or shares memory with them", cells, l, n)
		}
		return slices.Equal(answer, plainStateAt(cells, l, n))
	})
	return answer
}

func stamps(t *testing.T, l []impl.Wrote) []int {
	t.Helper()
	var answer []int
	onHist(t, "Stamps", l, func(l []impl.Wrote) bool {
		got := impl.Stamps(l)
		answer = slices.Clone(got)
		spoilCells(got)
		return slices.Equal(answer, plainStamps(l))
	})
	return answer
}

func lastWriter(t *testing.T, l []impl.Wrote, cell, n int) int {
	t.Helper()
	var last int
	onHist(t, "LastWriter", l, func(l []impl.Wrote) bool {
		last = impl.LastWriter(l, cell, n)
		return last == plainLastWriter(l, cell, n)
	})
	return last
}

// momentsOf are the bounds, and each stamp with the numbers ahead of it and behind it.
func momentsOf(l []impl.Wrote) []int {
	moments := []int{math.MinInt, -1, 0, 1, impl.MaxClock, impl.MaxClock + 1, math.MaxInt}
	for _, w := range l {
		moments = append(moments, w.Stamp-1, w.Stamp, w.Stamp+1)
	}
	slices.Sort(moments)
	return slices.Compact(moments)
}

// keepsPromise11 takes right cells and a right history in whatever order.
func keepsPromise11(t *testing.T, cells []int, l []impl.Wrote) {
	t.Helper()
	if !slices.Equal(stateAt(t, cells, l, 0), cells) {
		t.Errorf("ahead of all of %v the state is %v, not %v", l, stateAt(t, cells, l, 0), cells)
	}
	for _, w := range l {
		before, at := stateAt(t, cells, l, w.Stamp-1), stateAt(t, cells, l, w.Stamp)
		if want := plainOverlay(before, w.Puts); len(at) != 8 || !slices.Equal(at, want) {
			t.Errorf("with %v the state at %d is %v, not %v, which is %v with what was written put over it", l, w.Stamp, at, want, before)
		}
	}
}

// askHist asks all of a history that the chapter has a function for, promise 11 with it.
func askHist(t *testing.T, cells []int, l []impl.Wrote) {
	t.Helper()
	if !histOk(t, l) {
		t.Errorf("%v is refused", l)
	}
	stamps(t, l)
	for _, n := range momentsOf(l) {
		stateAt(t, cells, l, n)
		for _, cell := range []int{0, 3, 7, 8, -1} {
			lastWriter(t, l, cell, n)
		}
	}
	keepsPromise11(t, cells, l)
}

// inEveryOrder goes on with each order of the entries: at each place stands each of those that are left.
func inEveryOrder(l []impl.Wrote, at int, do func([]impl.Wrote)) {
	if at >= len(l)-1 {
		do(l)
		return
	}
	for i := at; i < len(l); i++ {
		next := slices.Clone(l)
		next[at], next[i] = next[i], next[at]
		inEveryOrder(next, at+1, do)
	}
}

// shuffled is the history in some other order.
func shuffled(pick func(int) int, l []impl.Wrote) []impl.Wrote {
	l = slices.Clone(l)
	for i := range l {
		k := i + pick(len(l)-i)
		l[i], l[k] = l[k], l[i]
	}
	return l
}

// longHist is of n entries out of order, no two stamps alike for up to 211 of them.
func longHist(n int) []impl.Wrote {
	l := make([]impl.Wrote, n)
	for i := range l {
		puts := longLog(i % 5)
		for k := range puts {
			puts[k] = impl.Row{Cell: (i + 3*k) % 8, Val: 10*i + k}
		}
		l[i] = impl.Wrote{Stamp: 1 + i*7%211, Who: 1 + i%99, Puts: puts}
	}
	return l
}

// shortHists have at most five entries, so that each can be asked for in every order.
func shortHists() [][]impl.Wrote {
	return [][]impl.Wrote{
		nil, {},
		{entry(1, 1)}, {entry(1, 99, 0, 0)}, {entry(impl.MaxClock, 1, 7, 65535)}, {entry(5, 2, 3, 9, 3, 8)},
		{entry(1, 1, 0, 5), entry(2, 1, 0, 6)}, {entry(9, 3, 2, 7), entry(4, 3, 2, 7)}, {entry(1, 5, 4, 1), entry(impl.MaxClock, 6, 4, 0)},
		{entry(2, 1, 0, 5, 3, 6), entry(7, 2, 3, 4, 7, 1)}, {entry(10, 1), entry(11, 1)},
		{entry(3, 1, 0, 1), entry(2, 2, 0, 2), entry(1, 3, 0, 3)},
		{entry(3, 1, 0, 1), entry(30, 2), entry(300, 3, 0, 3)},
		{entry(3, 1, 0, 1, 1, 1), entry(30, 2, 1, 2, 2, 2), entry(300, 3, 2, 3, 0, 3)},
		{entry(6, 1, 5, 100), entry(8, 1, 5, 0), entry(7, 2, 5, 100, 5, 105)},
		{entry(4, 4, 0, 4), entry(3, 3, 0, 3), entry(2, 2, 0, 2), entry(1, 1, 0, 1)},
		{entry(999997, 9, 0, 4, 7, 4), entry(999998, 8, 7, 3), entry(999999, 7, 0, 2), entry(impl.MaxClock, 6, 3, 1)},
		{entry(12, 1, 3, 1), entry(11, 1, 3, 2, 3, 3), entry(100, 2), entry(2, 9, 0, 1, 3, 4, 7, 5)},
		{entry(1, 1, 0, 10), entry(2, 2, 1, 20, 0, 11), entry(3, 1, 2, 30, 1, 21), entry(4, 2, 0, 12, 2, 31), entry(5, 1, 1, 22)},
		{entry(50, 3, 6, 1, 6, 2, 6, 3), entry(10, 3, 6, 4), entry(40, 3), entry(20, 3, 6, 5, 0, 5), entry(30, 3, 7, 6, 6, 6)},
	}
}

func longHists() [][]impl.Wrote {
	full := longHist(200)
	rising, falling := copyHist(full), copyHist(full)
	slices.SortFunc(rising, func(a, b impl.Wrote) int { return a.Stamp - b.Stamp })
	slices.SortFunc(falling, func(a, b impl.Wrote) int { return b.Stamp - a.Stamp })
	return [][]impl.Wrote{longHist(11), longHist(13), longHist(50), longHist(199), full, rising, falling}
}

// wrongEntries have one number past a bound, or Puts that are not right. Where the stamp is right, no long history has it.
func wrongEntries() []impl.Wrote {
	var l []impl.Wrote
	for _, n := range []int{0, -1, -5, impl.MaxClock + 1, impl.MaxClock + 2, math.MinInt, math.MaxInt} {
		l = append(l, entry(n, 1, 0, 1), entry(n, 99))
	}
	for _, n := range []int{0, -1, -9, 100, 101, math.MinInt, math.MaxInt} {
		l = append(l, entry(500, n, 0, 1), entry(500, n))
	}
	for _, r := range wrongRowsAlone() {
		l = append(l, entry(500, 1, r.Cell, r.Val), entry(500, 1, 0, 1, r.Cell, r.Val), entry(500, 1, r.Cell, r.Val, 0, 1))
	}
	return append(l, impl.Wrote{}, impl.Wrote{Stamp: 500, Who: 1, Puts: longLog(301)}, entry(0, 0, 8, -1))
}

// wrongHists have an entry that is wrong at the first, a middle or the last place, two stamps alike somewhere, or are too long.
func wrongHists() [][]impl.Wrote {
	var l [][]impl.Wrote
	for _, n := range []int{1, 2, 3, 200} {
		for _, at := range []int{0, n / 2, n - 1} {
			for _, w := range wrongEntries() {
				hist := longHist(n)
				hist[at] = w
				l = append(l, hist)
			}
		}
	}
	for _, n := range []int{2, 3, 4, 200} {
		for _, at := range [][2]int{{0, 1}, {0, n - 1}, {n - 2, n - 1}, {n/2 - 1, n / 2}, {0, n / 2}, {n/2 - 1, n - 1}} {
			hist := longHist(n)
			hist[at[1]].Stamp = hist[at[0]].Stamp
			l = append(l, hist)
		}
	}
	same := entry(4, 2, 0, 1)
	l = append(l, slices.Repeat([]impl.Wrote{same}, 2), slices.Repeat([]impl.Wrote{same}, 5), slices.Repeat([]impl.Wrote{{}}, 201))
	return append(l, longHist(201), longHist(202), longHist(211), longHist(1000))
}

func TestHistLimit(t *testing.T) {
	if impl.MaxHist != 200 {
		t.Error("MaxHist is", impl.MaxHist)
	}
}

func TestHistOkTakesWhatIsRight(t *testing.T) {
	for _, l := range append(shortHists(), longHists()...) {
		if !histOk(t, l) {
			t.Errorf("%v is refused", l)
		}
	}
	for _, l := range wrongHists() {
		if histOk(t, l) {
			t.Errorf("%v is taken", l)
		}
	}
}

func TestHistOkCountsEntries(t *testing.T) {
	for n := range 212 {
		if histOk(t, longHist(n)) != (n <= 200) {
			t.Errorf("%d entries: %v", n, n > 200)
		}
	}
	full := longHist(impl.MaxHist)
	for i := range full {
		full[i].Puts = longLog(impl.MaxRows)
	}
	if !impl.HistOk(full) {
		t.Error("as many entries as there may be, with as many Puts each, are refused")
	}
	full[impl.MaxHist-1].Puts = longLog(impl.MaxRows + 1)
	if impl.HistOk(full) {
		t.Error("too many Puts in the last entry are taken")
	}
}

func TestHistOkOfEachNumberAtItsBounds(t *testing.T) {
	edges := []int{math.MinInt, -1000000, -1, 0, 1, 2, 98, 99, 100, 101, 999999, 1000000, 1000001, math.MaxInt}
	for _, stamp := range edges {
		for _, who := range edges {
			want := stamp >= 1 && stamp <= 1000000 && who >= 1 && who <= 99
			for at := range 3 {
				l := []impl.Wrote{entry(31, 1, 0, 1), entry(32, 2), entry(30, 3, 7, 2)}
				l[at].Stamp, l[at].Who = stamp, who
				if histOk(t, l) != want {
					t.Errorf("%v: %v", l, !want)
				}
			}
		}
	}
}

// Two entries with one stamp are refused wherever they stand, and be they alike in all or in nothing else.
func TestHistOkOfStampsAlike(t *testing.T) {
	for n := 2; n <= 9; n++ {
		for second := range n {
			for first := range second {
				for _, w := range []impl.Wrote{entry(77, 1, 0, 1), entry(77, 2), entry(77, 99, 7, 5, 0, 3)} {
					l := longHist(n)
					l[first] = entry(77, 1, 0, 1)
					l[second] = w
					if histOk(t, l) {
						t.Errorf("%v is taken", l)
					}
					l[second].Stamp = 78
					if !histOk(t, l) {
						t.Errorf("%v is refused", l)
					}
				}
			}
		}
	}
}

func TestStateAt(t *testing.T) {
	cells := []int{1, 2, 3, 4, 5, 6, 7, 8}
	two := []impl.Wrote{entry(20, 1, 0, 90, 3, 91), entry(10, 2, 3, 80, 7, 81)}
	same := []impl.Wrote{entry(9, 1, 2, 109), entry(3, 2, 2, 103), entry(6, 1, 2, 106)}
	twice := []impl.Wrote{entry(5, 1, 4, 50, 4, 51, 6, 52, 4, 53)}
	empty := []impl.Wrote{entry(8, 1), entry(4, 2, 1, 77), entry(2, 3)}
	first, last := []int{1, 2, 3, 80, 5, 6, 7, 81}, []int{90, 2, 3, 91, 5, 6, 7, 81}
	for _, c := range []struct {
		hist []impl.Wrote
		n    int
		want []int
	}{
		{nil, math.MinInt, cells},
		{nil, 0, cells},
		{nil, math.MaxInt, cells},
		{two, math.MinInt, cells},
		{two, -1, cells},
		{two, 0, cells},
		{two, 1, cells},
		{two, 9, cells},
		{two, 10, first},
		{two, 11, first},
		{two, 19, first},
		{two, 20, last},
		{two, 21, last},
		{two, impl.MaxClock, last},
		{two, impl.MaxClock + 1, last},
		{two, math.MaxInt, last},
		{same, 2, cells},
		{same, 3, []int{1, 2, 103, 4, 5, 6, 7, 8}},
		{same, 5, []int{1, 2, 103, 4, 5, 6, 7, 8}},
		{same, 6, []int{1, 2, 106, 4, 5, 6, 7, 8}},
		{same, 8, []int{1, 2, 106, 4, 5, 6, 7, 8}},
		{same, 9, []int{1, 2, 109, 4, 5, 6, 7, 8}},
		{same, 10, []int{1, 2, 109, 4, 5, 6, 7, 8}},
		{twice, 4, cells},
		{twice, 5, []int{1, 2, 3, 4, 53, 6, 52, 8}},
		{empty, 1, cells},
		{empty, 2, cells},
		{empty, 3, cells},
		{empty, 4, []int{1, 77, 3, 4, 5, 6, 7, 8}},
		{empty, 8, []int{1, 77, 3, 4, 5, 6, 7, 8}},
		{[]impl.Wrote{entry(1, 1, 0, 0), entry(2, 1, 0, 1)}, 1, []int{0, 2, 3, 4, 5, 6, 7, 8}},
		{[]impl.Wrote{entry(impl.MaxClock, 1, 7, 65535)}, impl.MaxClock - 1, cells},
		{[]impl.Wrote{entry(impl.MaxClock, 1, 7, 65535)}, impl.MaxClock, []int{1, 2, 3, 4, 5, 6, 7, 65535}},
		{[]impl.Wrote{entry(1, 1, 0, 9), entry(1, 1, 0, 9)}, 0, nil},
		{[]impl.Wrote{entry(1, 1, 0, 9), entry(5, 1, 0, 8), entry(1, 2)}, 3, nil},
		{[]impl.Wrote{entry(1, 1, 0, 9), entry(5, 0)}, 1, nil},
		{[]impl.Wrote{entry(1, 1, 0, 9), entry(impl.MaxClock+1, 1)}, 1, nil},
		{[]impl.Wrote{entry(0, 1), entry(5, 1)}, 1, nil},
		{[]impl.Wrote{entry(1, 1, 0, 9), entry(5, 1, 8, 0)}, 1, nil},
		{[]impl.Wrote{entry(1, 1, 0, 65536)}, 0, nil},
	} {
		if got := stateAt(t, cells, c.hist, c.n); !slices.Equal(got, c.want) {
			t.Errorf("StateAt(%v, %v, %d) is %v, not %v", cells, c.hist, c.n, got, c.want)
		}
	}
}

func TestStateAtRefuses(t *testing.T) {
	for _, cells := range wrongCells() {
		for _, l := range shortHists() {
			for _, n := range []int{math.MinInt, 0, 3, math.MaxInt} {
				if got := stateAt(t, cells, l, n); len(got) != 0 {
					t.Errorf("StateAt(%v, %v, %d) is %v", cells, l, n, got)
				}
			}
		}
	}
	for i, l := range wrongHists() {
		for _, n := range []int{math.MinInt, 0, 1, 7, impl.MaxClock, math.MaxInt} {
			if got := stateAt(t, rowValues, l, n); len(got) != 0 {
				t.Errorf("StateAt(%v, %v, %d) is %v", rowValues, l, n, got)
			}
		}
		if got := stateAt(t, wrongCells()[i%10], l, 7); len(got) != 0 {
			t.Errorf("both wrong, StateAt is %v", got)
		}
	}
}

func TestStamps(t *testing.T) {
	for _, c := range []struct {
		hist []impl.Wrote
		want []int
	}{
		{nil, nil},
		{[]impl.Wrote{entry(4, 1)}, []int{4}},
		{[]impl.Wrote{entry(4, 1), entry(5, 1)}, []int{4, 5}},
		{[]impl.Wrote{entry(5, 1), entry(4, 1)}, []int{4, 5}},
		{[]impl.Wrote{entry(impl.MaxClock, 1, 0, 1), entry(1, 99, 0, 1)}, []int{1, impl.MaxClock}},
		{[]impl.Wrote{entry(9, 2, 7, 1), entry(100, 2), entry(20, 1, 0, 1), entry(10, 3)}, []int{9, 10, 20, 100}},
		{[]impl.Wrote{entry(4, 1), entry(4, 1)}, nil},
		{[]impl.Wrote{entry(4, 1), entry(5, 1), entry(4, 2)}, nil},
		{[]impl.Wrote{entry(4, 1), entry(0, 1)}, nil},
		{[]impl.Wrote{entry(4, 1), entry(impl.MaxClock+1, 1)}, nil},
		{[]impl.Wrote{entry(4, 1), entry(5, 100)}, nil},
		{[]impl.Wrote{entry(4, 1), entry(5, 1, -1, 0)}, nil},
	} {
		if got := stamps(t, c.hist); !slices.Equal(got, c.want) {
			t.Errorf("Stamps(%v) is %v, not %v", c.hist, got, c.want)
		}
	}
}

func TestLastWriter(t *testing.T) {
	three := []impl.Wrote{entry(30, 1, 0, 1, 4, 1), entry(10, 2, 0, 2, 0, 2), entry(20, 1, 4, 2), entry(40, 3)}
	for _, c := range []struct {
		hist          []impl.Wrote
		cell, n, want int
	}{
		{nil, 0, 0, 0},
		{nil, 0, math.MaxInt, 0},
		{three, 0, math.MinInt, 0},
		{three, 0, 0, 0},
		{three, 0, 9, 0},
		{three, 0, 10, 10},
		{three, 0, 11, 10},
		{three, 0, 20, 10},
		{three, 0, 29, 10},
		{three, 0, 30, 30},
		{three, 0, 40, 30},
		{three, 0, math.MaxInt, 30},
		{three, 4, 10, 0},
		{three, 4, 19, 0},
		{three, 4, 20, 20},
		{three, 4, 29, 20},
		{three, 4, 31, 30},
		{three, 1, 40, 0},
		{three, 7, math.MaxInt, 0},
		{three, 8, 40, 0},
		{three, -1, 40, 0},
		{three, math.MinInt, 40, 0},
		{three, math.MaxInt, 40, 0},
		{[]impl.Wrote{entry(1, 1, 7, 0)}, 7, 1, 1},
		{[]impl.Wrote{entry(1, 1, 7, 0)}, 7, 0, 0},
		{[]impl.Wrote{entry(impl.MaxClock, 1, 7, 0)}, 7, impl.MaxClock - 1, 0},
		{[]impl.Wrote{entry(impl.MaxClock, 1, 7, 0)}, 7, impl.MaxClock, impl.MaxClock},
		{[]impl.Wrote{entry(5, 1, 2, 9, 3, 9, 2, 9)}, 2, 5, 5},
		{[]impl.Wrote{entry(5, 1, 2, 9, 3, 9, 2, 9)}, 3, 5, 5},
		{[]impl.Wrote{entry(5, 1, 2, 9), entry(5, 1, 2, 9)}, 2, 5, 0},
		{[]impl.Wrote{entry(5, 1, 2, 9), entry(8, 0)}, 2, 5, 0},
		{[]impl.Wrote{entry(5, 1, 2, 9), entry(-8, 1)}, 2, 5, 0},
		{[]impl.Wrote{entry(5, 1, 2, 9), entry(6, 1, 8, 1)}, 8, 6, 0},
		{[]impl.Wrote{entry(5, 1, 2, 9), entry(6, 1, -1, 1)}, 2, 5, 0},
		{[]impl.Wrote{entry(5, 1, 2, 65536)}, 2, 5, 0},
	} {
		if got := lastWriter(t, c.hist, c.cell, c.n); got != c.want {
			t.Errorf("LastWriter(%v, %d, %d) is %d, not %d", c.hist, c.cell, c.n, got, c.want)
		}
	}
}

func TestLastWriterOfEachCellAtEachMoment(t *testing.T) {
	for _, l := range append(shortHists(), longHist(9), longHist(40)) {
		for _, cell := range rowCells {
			for _, n := range momentsOf(l) {
				lastWriter(t, l, cell, n)
			}
		}
	}
}

func TestWrongHistsHaveNoStampsAndNoWriters(t *testing.T) {
	for _, l := range wrongHists() {
		if got := stamps(t, l); len(got) != 0 {
			t.Errorf("Stamps(%v) is %v", l, got)
		}
		for _, cell := range []int{0, 7, 8, -1} {
			for _, n := range []int{0, 1, impl.MaxClock, math.MaxInt} {
				if got := lastWriter(t, l, cell, n); got != 0 {
					t.Errorf("LastWriter(%v, %d, %d) is %d", l, cell, n, got)
				}
			}
		}
	}
}

// In whatever order the entries stand, the answers are those of the first order.
func TestShortHistsInEveryOrder(t *testing.T) {
	for _, first := range shortHists() {
		moments, rising := momentsOf(first), stamps(t, first)
		inEveryOrder(first, 0, func(l []impl.Wrote) {
			askHist(t, rowValues, l)
			if !slices.Equal(stamps(t, l), rising) {
				t.Errorf("%v and %v have other stamps", first, l)
			}
			for _, n := range moments {
				if !slices.Equal(stateAt(t, rowValues, l, n), stateAt(t, rowValues, first, n)) {
					t.Errorf("at %d %v and %v lead to other states", n, first, l)
				}
			}
		})
	}
}

func TestPromise11OfLongHists(t *testing.T) {
	for _, l := range longHists() {
		for _, cells := range [][]int{rowValues, make([]int, 8), slices.Repeat([]int{65535}, 8)} {
			keepsPromise11(t, cells, l)
		}
		stamps(t, l)
		for _, n := range momentsOf(l) {
			lastWriter(t, l, n%8, n)
		}
	}
}

// Each is asked for in two orders. Where a cell was last written, the state has what its last writer put there.
func TestPickedHists(t *testing.T) {
	pick := picker(111111)
	for range 400 {
		l := make([]impl.Wrote, pick(24)>>pick(3))
		stamp, most := 0, []int{1, 3, 1000}[pick(3)]
		for i := range l {
			stamp += 1 + pick(most)
			puts := make([]impl.Row, pick(6))
			for k := range puts {
				puts[k] = impl.Row{Cell: pick(1 + pick(8)), Val: pick([]int{2, 65536}[pick(2)])}
			}
			l[i] = impl.Wrote{Stamp: stamp, Who: 1 + pick(99), Puts: puts}
		}
		one, other := shuffled(pick, l), shuffled(pick, l)
		askHist(t, rowValues, one)
		askHist(t, rowValues, other)
		n := pick(stamp + 2)
		state := stateAt(t, rowValues, one, n)
		for cell := range 8 {
			writer, want := lastWriter(t, other, cell, n), rowValues[cell]
			if writer != 0 {
				at := slices.IndexFunc(l, func(w impl.Wrote) bool { return w.Stamp == writer })
				want, _ = plainLast(l[at].Puts, cell)
			}
			if len(state) != 8 || state[cell] != want {
				t.Errorf("with %v cell %d at %d is %v, not %d", one, cell, n, state, want)
			}
		}
	}
}

func TestStateAnswersStayTheSame(t *testing.T) {
	for _, l := range append(shortHists(), longHist(20), longHist(201), []impl.Wrote{entry(5, 1, 0, 1), entry(5, 1, 0, 2)}) {
		ok, state, all, last := impl.HistOk(l), impl.StateAt(rowValues, l, 7), impl.Stamps(l), impl.LastWriter(l, 3, 90)
		for range 100 {
			if impl.HistOk(l) != ok || !slices.Equal(impl.StateAt(rowValues, l, 7), state) || !slices.Equal(impl.Stamps(l), all) || impl.LastWriter(l, 3, 90) != last {
				t.Fatalf("the answers of %v change", l)
			}
		}
	}
}
