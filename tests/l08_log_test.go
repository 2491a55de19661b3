package tests

import (
	"math"
	"slices"
	"testing"

	"loop.example/g01277/impl"
)

// Each of the plain ones takes the chapter's words one by one, without a map.

func plainRows(l []impl.Row) bool {
	if len(l) > 300 {
		return false
	}
	for _, r := range l {
		if !fromTo(r.Cell, 0, 7) || !fromTo(r.Val, 0, 65535) {
			return false
		}
	}
	return true
}

func plainLast(l []impl.Row, cell int) (int, bool) {
	val, found := 0, false
	for _, r := range l {
		if plainRows(l) && r.Cell == cell {
			val, found = r.Val, true
		}
	}
	return val, found
}

func plainCut(l []impl.Row, n int) []impl.Row {
	var first []impl.Row
	for i, r := range l {
		if plainRows(l) && i < n {
			first = append(first, r)
		}
	}
	return first
}

func plainNet(l []impl.Row) []impl.Row {
	var net []impl.Row
	for cell := range 8 {
		if val, ok := plainLast(l, cell); ok {
			net = append(net, impl.Row{Cell: cell, Val: val})
		}
	}
	return net
}

func plainCellsOf(l []impl.Row) []int {
	var cells []int
	for _, r := range plainNet(l) {
		cells = append(cells, r.Cell)
	}
	return cells
}

func plainCells(cells []int) bool {
	return len(cells) == 8 && !slices.ContainsFunc(cells, func(v int) bool { return !fromTo(v, 0, 65535) })
}

func plainOverlay(cells []int, l []impl.Row) []int {
	if !plainCells(cells) || !plainRows(l) {
		return nil
	}
	over := slices.Clone(cells)
	for _, r := range l {
		over[r.Cell] = r.Val
	}
	return over
}

// roomyRows is the log with rows behind it that are right or not, by its length.
func roomyRows(l []impl.Row) []impl.Row {
	room := [][]impl.Row{
		{{Cell: 0, Val: 77}, {Cell: 7, Val: 78}, {Cell: 3, Val: 79}},
		{{Cell: -1, Val: -1}, {Cell: 8, Val: 65536}},
	}[len(l)%2]
	return append(slices.Clone(l), room...)[:len(l)]
}

func wholeRows(l []impl.Row) []impl.Row {
	return slices.Clone(l[:cap(l)])
}

// spoilRows and spoilCells write into an answer and its spare room, so that what shares it is hit.
func spoilRows(l []impl.Row) {
	for i := range l[:cap(l)] {
		l[:cap(l)][i] = impl.Row{Cell: -55, Val: -66}
	}
}

func spoilCells(l []int) {
	for i := range l[:cap(l)] {
		l[:cap(l)][i] = -77
	}
}

// onRows asks twice, each time on the same log, and looks whether the log or its spare room was written into: by the call, or by ask, which spoils the answer.
func onRows(t *testing.T, name string, l []impl.Row, ask func([]impl.Row) bool) {
	t.Helper()
	given := roomyRows(l)
	before := wholeRows(given)
	for time := range 2 {
		if !ask(given) {
			t.Errorf("%s of %v is wrong at time %d", name, l, time)
		}
		if !slices.Equal(wholeRows(given), before) {
			t.Fatalf("%s of %v wrote into what it was given, or shares memory with it", name, l)
		}
	}
}

func rowsOk(t *testing.T, l []impl.Row) bool {
	t.Helper()
	var ok bool
	onRows(t, "RowsOk", l, func(l []impl.Row) bool {
		ok = impl.RowsOk(l)
		return ok == plainRows(l)
	})
	return ok
}

func lastRow(t *testing.T, l []impl.Row, cell int) (int, bool) {
	t.Helper()
	var val int
	var ok bool
	onRows(t, "Last", l, func(l []impl.Row) bool {
		val, ok = impl.Last(l, cell)
		wantVal, want := plainLast(l, cell)
		return val == wantVal && ok == want
	})
	return val, ok
}

func cutRows(t *testing.T, l []impl.Row, n int) []impl.Row {
	t.Helper()
	var answer []impl.Row
	onRows(t, "Cut", l, func(l []impl.Row) bool {
		got := impl.Cut(l, n)
		answer = slices.Clone(got)
		spoilRows(got)
		return slices.Equal(answer, plainCut(l, n))
	})
	return answer
}

func netRows(t *testing.T, l []impl.Row) []impl.Row {
	t.Helper()
	var answer []impl.Row
	onRows(t, "Net", l, func(l []impl.Row) bool {
		got := impl.Net(l)
		answer = slices.Clone(got)
		spoilRows(got)
		return slices.Equal(answer, plainNet(l))
	})
	return answer
}

func cellsOfRows(t *testing.T, l []impl.Row) []int {
	t.Helper()
	var answer []int
	onRows(t, "CellsOf", l, func(l []impl.Row) bool {
		got := impl.CellsOf(l)
		answer = slices.Clone(got)
		spoilCells(got)
		return slices.Equal(answer, plainCellsOf(l))
	})
	return answer
}

func overlay(t *testing.T, cells []int, l []impl.Row) []int {
	t.Helper()
	given := roomy(cells)
	before := snapshot(given)
	var answer []int
	onRows(t, "Overlay", l, func(l []impl.Row) bool {
		got := impl.Overlay(given, l)
		answer = slices.Clone(got)
		spoilCells(got)
		if !slices.Equal(snapshot(given), before) {
			t.Errorf("Overlay(%v, %v) wrote into the values it was given, or shares memory with them", cells, l)
		}
		return slices.Equal(answer, plainOverlay(cells, l))
	})
	return answer
}

// askRows asks all of a right log that the chapter has a function for, promise 8 with it.
func askRows(t *testing.T, l []impl.Row, cells []int) {
	t.Helper()
	rowsOk(t, l)
	for _, n := range []int{math.MinInt, -1, 0, 1, len(l) / 2, len(l) - 1, len(l), len(l) + 1, impl.MaxRows, math.MaxInt} {
		cutRows(t, l, n)
	}
	net := netRows(t, l)
	cellsOfRows(t, l)
	over := overlay(t, cells, l)
	keepsPromise8(t, l, net, cells, over)
	if !rowsOk(t, net) || !slices.Equal(netRows(t, net), net) {
		t.Errorf("%v, the net of %v, has another net", net, l)
	}
}

// keepsPromise8 takes a right log and right values, with the net and the overlay of them.
func keepsPromise8(t *testing.T, l, net []impl.Row, cells, over []int) {
	t.Helper()
	for _, cell := range rowCells {
		val, ok := lastRow(t, l, cell)
		if !fromTo(cell, 0, 7) {
			continue
		}
		if !ok {
			val = cells[cell]
		}
		if len(over) != 8 || over[cell] != val {
			t.Errorf("%v over %v leaves %v, cell %d is to be %d", l, cells, over, cell, val)
		}
	}
	if !slices.Equal(overlay(t, cells, net), over) {
		t.Errorf("over %v the net of %v is %v", cells, l, overlay(t, cells, net))
	}
}

var rowCells = []int{0, 1, 2, 3, 4, 5, 6, 7, impl.Cells, impl.Cells + 1, -1, -8, math.MinInt, math.MaxInt}

var rowValues = []int{100, 101, 102, 103, 104, 105, 0, 65535}

// logOf takes cells and values by turns.
func logOf(numbers ...int) []impl.Row {
	var l []impl.Row
	for i := 0; i < len(numbers); i += 2 {
		l = append(l, impl.Row{Cell: numbers[i], Val: numbers[i+1]})
	}
	return l
}

// longLog is a right log of so many rows, each of another value, if n is at most MaxRows.
func longLog(n int) []impl.Row {
	l := make([]impl.Row, n)
	for i := range l {
		l[i] = impl.Row{Cell: i * 5 % 8, Val: i}
	}
	return l
}

func rightLogs() [][]impl.Row {
	l := [][]impl.Row{
		nil, {},
		logOf(0, 0), logOf(7, 65535), logOf(3, 1),
		logOf(2, 5, 2, 5), logOf(2, 5, 2, 6), logOf(2, 6, 2, 5), logOf(0, 65535, 0, 0), logOf(7, 0, 7, 65535),
		logOf(2, 5, 4, 9, 2, 5), logOf(2, 5, 4, 9, 2, 6, 4, 8), logOf(2, 5, 4, 9, 4, 8, 2, 6),
		logOf(0, 1, 1, 2, 2, 3, 3, 4, 4, 5, 5, 6, 6, 7, 7, 8),
		logOf(7, 8, 6, 7, 5, 6, 4, 5, 3, 4, 2, 3, 1, 2, 0, 1),
		logOf(3, 1, 0, 2, 7, 3, 1, 4, 6, 5, 2, 6, 5, 7, 4, 8),
		logOf(3, 1, 0, 2, 7, 3, 1, 4, 3, 5, 2, 6, 0, 7, 7, 8, 3, 9, 3, 0),
		logOf(1, 3, 3, 1, 1, 0, 0, 1),
		longLog(1), longLog(2), longLog(299), longLog(300),
		slices.Repeat(logOf(5, 6), 300), slices.Repeat(logOf(0, 0), 300), slices.Repeat(logOf(7, 65535), 300),
	}
	return l
}

// wrongRowsAlone are rows with a number past a bound.
func wrongRowsAlone() []impl.Row {
	return logOf(
		-1, 0, 8, 0, 9, 0, -8, 0, 100, 3, 65535, 7, math.MinInt, 0, math.MaxInt, 0,
		0, -1, 0, 65536, 7, -1, 7, 65536, 3, 65537, 3, -65536, 3, math.MinInt, 3, math.MaxInt,
		-1, -1, 8, 65536, -1, 65536, 8, -1,
	)
}

// wrongLogs have one row that is wrong, at the first, a middle and the last place, or are too long.
func wrongLogs() [][]impl.Row {
	var l [][]impl.Row
	for _, n := range []int{1, 2, 3, 300} {
		for _, at := range []int{0, n / 2, n - 1} {
			for _, r := range wrongRowsAlone() {
				log := longLog(n)
				log[at] = r
				l = append(l, log)
			}
		}
	}
	for _, n := range []int{301, 302, 600, 1000} {
		l = append(l, longLog(n), slices.Repeat(logOf(5, 6), n))
	}
	return append(l, append(longLog(300), impl.Row{Cell: 8}))
}

func wrongCells() [][]int {
	l := [][]int{nil, {}}
	for _, n := range []int{1, 4, 7, 9, 16, 300} {
		l = append(l, make([]int, n))
	}
	for i := range 8 {
		for _, v := range []int{-1, 65536, 65537, -65536, math.MinInt, math.MaxInt} {
			cells := slices.Clone(rowValues)
			cells[i] = v
			l = append(l, cells)
		}
	}
	return append(l, slices.Repeat([]int{-1}, 8), slices.Repeat([]int{65536}, 8))
}

func TestLogLimit(t *testing.T) {
	if impl.MaxRows != 300 {
		t.Error("MaxRows is", impl.MaxRows)
	}
}

func TestRowsOkTakesWhatIsRight(t *testing.T) {
	for _, l := range rightLogs() {
		if !rowsOk(t, l) {
			t.Errorf("%v is refused", l)
		}
	}
	for _, l := range wrongLogs() {
		if rowsOk(t, l) {
			t.Errorf("%v is taken", l)
		}
	}
}

func TestRowsOkCountsRows(t *testing.T) {
	for n := range 2*impl.MaxRows + 2 {
		if rowsOk(t, make([]impl.Row, n)) != (n <= 300) {
			t.Errorf("%d rows: %v", n, n > 300)
		}
	}
}

func TestRowsOkOfEachNumberAtItsBounds(t *testing.T) {
	edges := []int{math.MinInt, -65536, -1, 0, 1, 6, 7, 8, 9, 65534, 65535, 65536, 65537, math.MaxInt}
	for _, cell := range edges {
		for _, val := range edges {
			want := cell >= 0 && cell <= 7 && val >= 0 && val <= 65535
			for _, at := range []int{0, 2, 4} {
				l := longLog(5)
				l[at] = impl.Row{Cell: cell, Val: val}
				if rowsOk(t, l) != want {
					t.Errorf("%v: %v", l, !want)
				}
			}
		}
	}
}

func TestLast(t *testing.T) {
	for _, c := range []struct {
		log  []impl.Row
		cell int
		val  int
		ok   bool
	}{
		{nil, 0, 0, false},
		{logOf(1, 5), 0, 0, false},
		{logOf(1, 5), 1, 5, true},
		{logOf(0, 0), 0, 0, true},
		{logOf(7, 65535), 7, 65535, true},
		{logOf(1, 5, 1, 6), 1, 6, true},
		{logOf(1, 6, 1, 5), 1, 5, true},
		{logOf(1, 5, 1, 0), 1, 0, true},
		{logOf(1, 5, 1, 5), 1, 5, true},
		{logOf(1, 5, 2, 9, 1, 6, 3, 8), 1, 6, true},
		{logOf(1, 5, 2, 9, 1, 6, 3, 8), 2, 9, true},
		{logOf(1, 5, 2, 9, 1, 6, 3, 8), 4, 0, false},
		{logOf(2, 9, 1, 5, 2, 8, 1, 4, 2, 7, 1, 6, 2, 6), 1, 6, true},
		{logOf(0, 3, 7, 4), 8, 0, false},
		{logOf(0, 3, 7, 4), -1, 0, false},
		{logOf(1, 5, 8, 6), 1, 0, false},
		{logOf(8, 6, 1, 5), 1, 0, false},
		{logOf(8, 6), 8, 0, false},
		{logOf(-1, 6), -1, 0, false},
		{logOf(1, 65536), 1, 0, false},
		{slices.Repeat(logOf(1, 5), 300), 1, 5, true},
		{slices.Repeat(logOf(1, 5), 301), 1, 0, false},
	} {
		if val, ok := lastRow(t, c.log, c.cell); val != c.val || ok != c.ok {
			t.Errorf("Last(%v, %d) is %d, %v", c.log, c.cell, val, ok)
		}
	}
}

func TestLastOfEachLog(t *testing.T) {
	for _, l := range append(rightLogs(), wrongLogs()...) {
		for _, cell := range rowCells {
			lastRow(t, l, cell)
		}
	}
}

func TestCut(t *testing.T) {
	three := logOf(1, 5, 1, 6, 0, 7)
	for _, c := range []struct {
		log  []impl.Row
		n    int
		want []impl.Row
	}{
		{three, math.MinInt, nil},
		{three, -2, nil},
		{three, -1, nil},
		{three, 0, nil},
		{three, 1, logOf(1, 5)},
		{three, 2, logOf(1, 5, 1, 6)},
		{three, 3, three},
		{three, 4, three},
		{three, 5, three},
		{three, math.MaxInt, three},
		{nil, -1, nil},
		{nil, 0, nil},
		{nil, 1, nil},
		{longLog(300), 299, longLog(299)},
		{longLog(300), 300, longLog(300)},
		{longLog(300), 301, longLog(300)},
		{longLog(301), 1, nil},
		{longLog(301), 300, nil},
		{longLog(301), 301, nil},
		{logOf(1, 5, 8, 0), 1, nil},
		{logOf(1, 5, 8, 0), 2, nil},
		{logOf(1, 5, 1, -1), 1, nil},
		{logOf(1, -1, 1, 5), -1, nil},
	} {
		if got := cutRows(t, c.log, c.n); !slices.Equal(got, c.want) {
			t.Errorf("Cut(%v, %d) is %v", c.log, c.n, got)
		}
	}
}

func TestCutOfEachLogAtEachPlace(t *testing.T) {
	for _, l := range rightLogs() {
		for n := -2; n < len(l)+3; n++ {
			if got := cutRows(t, l, n); len(got) != max(0, min(n, len(l))) || !rowsOk(t, got) {
				t.Errorf("Cut(%v, %d) is %v", l, n, got)
			}
		}
	}
	for _, l := range wrongLogs() {
		for _, n := range []int{math.MinInt, -1, 0, 1, len(l) / 2, len(l) - 1, len(l), len(l) + 1, math.MaxInt} {
			if got := cutRows(t, l, n); len(got) != 0 {
				t.Errorf("Cut(%v, %d) is %v", l, n, got)
			}
		}
	}
}

func TestNetAndCellsOf(t *testing.T) {
	all := logOf(0, 1, 1, 2, 2, 3, 3, 4, 4, 5, 5, 6, 6, 7, 7, 8)
	falling := slices.Clone(all)
	slices.Reverse(falling)
	for _, c := range []struct {
		log, net []impl.Row
		cells    []int
	}{
		{nil, nil, nil},
		{logOf(4, 0), logOf(4, 0), []int{4}},
		{logOf(0, 0), logOf(0, 0), []int{0}},
		{logOf(7, 65535), logOf(7, 65535), []int{7}},
		{logOf(4, 1, 4, 1), logOf(4, 1), []int{4}},
		{logOf(4, 1, 4, 2), logOf(4, 2), []int{4}},
		{logOf(4, 2, 4, 1), logOf(4, 1), []int{4}},
		{logOf(4, 2, 4, 0), logOf(4, 0), []int{4}},
		{logOf(4, 1, 4, 2, 4, 3, 4, 1), logOf(4, 1), []int{4}},
		{logOf(1, 9, 0, 8), logOf(0, 8, 1, 9), []int{0, 1}},
		{logOf(1, 9, 0, 8, 1, 7), logOf(0, 8, 1, 7), []int{0, 1}},
		{logOf(0, 8, 1, 9, 0, 7), logOf(0, 7, 1, 9), []int{0, 1}},
		{all, all, []int{0, 1, 2, 3, 4, 5, 6, 7}},
		{falling, all, []int{0, 1, 2, 3, 4, 5, 6, 7}},
		{logOf(3, 4, 0, 1, 7, 8, 1, 2, 6, 7, 2, 3, 5, 6, 4, 5), all, []int{0, 1, 2, 3, 4, 5, 6, 7}},
		{logOf(6, 1, 2, 1, 6, 2, 2, 2, 5, 3, 6, 0), logOf(2, 2, 5, 3, 6, 0), []int{2, 5, 6}},
		{slices.Repeat(logOf(3, 1, 2, 5), 150), logOf(2, 5, 3, 1), []int{2, 3}},
		{append(slices.Repeat(logOf(3, 1), 299), logOf(3, 2)...), logOf(3, 2), []int{3}},
		{slices.Repeat(logOf(3, 1), 301), nil, nil},
		{append(slices.Clone(all), logOf(8, 0)...), nil, nil},
		{append(logOf(-1, 0), all...), nil, nil},
		{logOf(1, 1, 1, 65536, 1, 1), nil, nil},
		{logOf(1, 1, 1, -1, 1, 1), nil, nil},
	} {
		if got := netRows(t, c.log); !slices.Equal(got, c.net) {
			t.Errorf("Net(%v) is %v, not %v", c.log, got, c.net)
		}
		if got := cellsOfRows(t, c.log); !slices.Equal(got, c.cells) {
			t.Errorf("CellsOf(%v) is %v, not %v", c.log, got, c.cells)
		}
	}
}

func TestOverlay(t *testing.T) {
	for _, c := range []struct {
		cells []int
		log   []impl.Row
		want  []int
	}{
		{[]int{1, 2, 3, 4, 5, 6, 7, 8}, nil, []int{1, 2, 3, 4, 5, 6, 7, 8}},
		{[]int{1, 2, 3, 4, 5, 6, 7, 8}, logOf(0, 9), []int{9, 2, 3, 4, 5, 6, 7, 8}},
		{[]int{1, 2, 3, 4, 5, 6, 7, 8}, logOf(7, 0), []int{1, 2, 3, 4, 5, 6, 7, 0}},
		{[]int{1, 2, 3, 4, 5, 6, 7, 8}, logOf(2, 3), []int{1, 2, 3, 4, 5, 6, 7, 8}},
		{[]int{1, 2, 3, 4, 5, 6, 7, 8}, logOf(2, 9, 2, 10), []int{1, 2, 10, 4, 5, 6, 7, 8}},
		{[]int{1, 2, 3, 4, 5, 6, 7, 8}, logOf(2, 10, 2, 9), []int{1, 2, 9, 4, 5, 6, 7, 8}},
		{[]int{1, 2, 3, 4, 5, 6, 7, 8}, logOf(2, 10, 2, 3), []int{1, 2, 3, 4, 5, 6, 7, 8}},
		{[]int{1, 2, 3, 4, 5, 6, 7, 8}, logOf(5, 1, 2, 10, 5, 0, 2, 0), []int{1, 2, 0, 4, 5, 0, 7, 8}},
		{make([]int, 8), logOf(0, 65535, 7, 65535), []int{65535, 0, 0, 0, 0, 0, 0, 65535}},
		{slices.Repeat([]int{65535}, 8), logOf(0, 0, 7, 1), []int{0, 65535, 65535, 65535, 65535, 65535, 65535, 1}},
		{make([]int, 8), slices.Repeat(logOf(6, 1), 300), []int{0, 0, 0, 0, 0, 0, 1, 0}},
		{make([]int, 8), slices.Repeat(logOf(6, 1), 301), nil},
		{make([]int, 8), logOf(6, 1, 8, 1), nil},
		{make([]int, 8), logOf(6, 65536), nil},
		{make([]int, 8), logOf(6, -1, 6, 1), nil},
		{make([]int, 8), logOf(-1, 1), nil},
		{make([]int, 7), logOf(6, 1), nil},
		{make([]int, 9), logOf(6, 1), nil},
		{nil, nil, nil},
		{[]int{0, 0, 0, 0, 0, 0, 65536, 0}, logOf(6, 1), nil},
		{[]int{0, 0, 0, 0, 0, 0, -1, 0}, logOf(6, 1), nil},
	} {
		if got := overlay(t, c.cells, c.log); !slices.Equal(got, c.want) {
			t.Errorf("Overlay(%v, %v) is %v", c.cells, c.log, got)
		}
	}
}

func TestOverlayRefuses(t *testing.T) {
	for _, cells := range wrongCells() {
		for _, l := range append(rightLogs(), wrongLogs()[:8]...) {
			if got := overlay(t, cells, l); len(got) != 0 {
				t.Errorf("Overlay(%v, %v) is %v", cells, l, got)
			}
		}
	}
	for _, l := range wrongLogs() {
		if got := overlay(t, rowValues, l); len(got) != 0 {
			t.Errorf("Overlay(%v, %v) is %v", rowValues, l, got)
		}
	}
}

func TestWrongLogsHaveNoNetAndNoCells(t *testing.T) {
	for _, l := range wrongLogs() {
		if net, cells := netRows(t, l), cellsOfRows(t, l); len(net) != 0 || len(cells) != 0 {
			t.Errorf("of %v the net is %v, the cells are %v", l, net, cells)
		}
	}
}

func TestPromise8OfTheLogs(t *testing.T) {
	for _, l := range rightLogs() {
		for _, cells := range [][]int{rowValues, make([]int, 8), slices.Repeat([]int{65535}, 8)} {
			askRows(t, l, cells)
		}
	}
}

// All logs of up to six rows out of these.
func TestAllShortLogs(t *testing.T) {
	rows := logOf(0, 0, 0, 1, 3, 1, 7, 65535, 7, 0)
	logs := [][]impl.Row{nil}
	for at := 0; at < len(logs); at++ {
		l := logs[at]
		net, over := netRows(t, l), overlay(t, rowValues, l)
		keepsPromise8(t, l, net, rowValues, over)
		cellsOfRows(t, l)
		if len(l) == 6 {
			continue
		}
		for _, r := range rows {
			logs = append(logs, append(slices.Clone(l), r))
		}
	}
}

// Two logs behind one another are as one, and a log that is cut anywhere is as its two pieces.
func TestPickedLogs(t *testing.T) {
	pick := picker(80808)
	for range 2000 {
		l := make([]impl.Row, pick(impl.MaxRows+1)>>pick(7))
		cells := make([]int, 8)
		most := []int{2, 10, 65536}[pick(3)]
		for i := range l {
			l[i] = impl.Row{Cell: pick(1 + pick(8)), Val: pick(most)}
		}
		for i := range cells {
			cells[i] = pick(most)
		}
		askRows(t, l, cells)
		n := pick(len(l) + 1)
		first, rest := cutRows(t, l, n), l[n:]
		both, whole := overlay(t, overlay(t, cells, first), rest), overlay(t, cells, l)
		if !slices.Equal(both, whole) {
			t.Fatalf("%v cut at %d brings %v to %v, not %v", l, n, cells, both, whole)
		}
		if net := netRows(t, append(netRows(t, first), netRows(t, rest)...)); !slices.Equal(net, netRows(t, l)) {
			t.Fatalf("%v cut at %d has the net %v", l, n, net)
		}
	}
}

// A map is gone through in another order each time; no answer may tell of it.
func TestLogAnswersStayTheSame(t *testing.T) {
	for _, l := range append(rightLogs(), longLog(301), logOf(8, 0)) {
		net, cells, over, cut := impl.Net(l), impl.CellsOf(l), impl.Overlay(rowValues, l), impl.Cut(l, 5)
		val, ok := impl.Last(l, 3)
		for range 100 {
			nextVal, nextOk := impl.Last(l, 3)
			if !slices.Equal(impl.Net(l), net) || !slices.Equal(impl.CellsOf(l), cells) || !slices.Equal(impl.Overlay(rowValues, l), over) ||
				!slices.Equal(impl.Cut(l, 5), cut) || val != nextVal || ok != nextOk {
				t.Fatalf("the answers of %v change", l)
			}
		}
	}
}
