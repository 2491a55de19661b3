package tests

import (
	"fmt"
	"math"
	"slices"
	"strings"
	"testing"

	"loop.example/g01277/impl"
)

// Each of the plain ones takes the chapter's words one by one, with all that a block is to bring back kept on a stack.

func plainThings(s impl.Things) bool {
	if len(s.Cells) != 8 || len(s.Map) != 8 || !fromTo(s.Count, 0, 65535) {
		return false
	}
	for i := range 8 {
		if !fromTo(s.Cells[i], 0, 65535) || !fromTo(s.Map[i], 0, 65536) {
			return false
		}
	}
	return true
}

func plainOrder(order []int, kids int) bool {
	seen := map[int]int{}
	for _, kid := range order {
		seen[kid]++
		if !fromTo(kid, 0, kids-1) || seen[kid] > 1 {
			return false
		}
	}
	return true
}

func copyThings(s impl.Things) impl.Things {
	return impl.Things{Cells: slices.Clone(s.Cells), Map: slices.Clone(s.Map), Count: s.Count}
}

func plainFork(kids []impl.Kid, order []int, regs []int, cells []int) ([]int, []int) {
	var turn, rest []int
	for i := range kids {
		if !slices.Contains(order, i) {
			rest = append(rest, i)
		}
	}
	turn = append(append(turn, order...), rest...)
	next := slices.Clone(regs)
	for _, i := range turn {
		out, at, left := plainSerialKid(kids[i].Code, regs, cells)
		cells = left
		next[i] = 0
		if out == 1 {
			next[i] = at[0]
		}
	}
	return next, cells
}

func plainDo(p impl.Prog, order []int, regs []int, s impl.Things) (int, []int, impl.Things) {
	type kept struct {
		begin  int
		regs   []int
		things impl.Things
	}
	first := copyThings(s)
	regs, s = slices.Clone(regs), copyThings(s)
	var open []kept
	for at := 0; at < len(p.Code); at++ {
		o := p.Code[at]
		switch o.Kind {
		case 5: // read
			regs[o.A] = s.Cells[o.B]
		case 6: // write
			s.Cells[o.A] = regs[o.B]
		case 7: // skip
			if regs[o.A] == 0 {
				at += o.B
			}
		case 8: // begin
			open = append(open, kept{at, slices.Clone(regs), copyThings(s)})
		case 9: // end
			regs[p.Code[open[len(open)-1].begin].A] = 1
			open = open[:len(open)-1]
		case 10: // abort
			if len(open) == 0 {
				return 2, regs, first
			}
			was := open[len(open)-1]
			open = open[:len(open)-1]
			regs, s = was.regs, was.things
			regs[p.Code[was.begin].A] = 0
			at = plainEnd(p.Code, was.begin)
		case 11: // fork
			regs, s.Cells = plainFork(p.Kids, order, regs, s.Cells)
		case 12: // put
			was := s.Map[o.A]
			s.Map[o.A] = regs[o.B] + 1
			regs[o.C] = plainModulo(was)
		case 13: // get
			regs[o.A] = plainModulo(s.Map[o.B])
		case 14: // drop
			regs[o.B] = plainModulo(s.Map[o.A])
			s.Map[o.A] = 0
		case 15: // bump
			s.Count = plainModulo(s.Count + regs[o.A])
		case 16: // count
			regs[o.A] = s.Count
		default:
			regs, _ = plainCalc(o, regs)
		}
	}
	return 1, regs, s
}

func plainSerial(p impl.Prog, order []int, s impl.Things) impl.Run {
	if !plainProg(p) || !plainOrder(order, len(p.Kids)) || !plainThings(s) {
		return impl.Run{}
	}
	out, regs, s := plainDo(p, order, make([]int, 4), s)
	return impl.Run{Out: out, Regs: regs, Things: s}
}

func plainSerialKid(code []impl.Op, regs []int, cells []int) (int, []int, []int) {
	if !plainKid(code) || !plainRegs(regs) || !plainThings(impl.Things{Cells: cells, Map: make([]int, 8)}) {
		return 0, nil, nil
	}
	out, regs, s := plainDo(impl.Prog{Code: code}, nil, regs, impl.Things{Cells: cells, Map: make([]int, 8)})
	return out, regs, s.Cells
}

func plainSerialAll(l []impl.Prog, orders []impl.Order, s impl.Things) ([]impl.Run, impl.Things) {
	if len(l) != len(orders) || !plainThings(s) {
		return nil, impl.Things{}
	}
	var runs []impl.Run
	for i := range l {
		if !plainProg(l[i]) || !plainOrder(orders[i].Kids, len(l[i].Kids)) {
			return nil, impl.Things{}
		}
		runs = append(runs, plainSerial(l[i], orders[i].Kids, s))
		s = runs[i].Things
	}
	return runs, s
}

func alikeThings(a, b impl.Things) bool {
	return slices.Equal(a.Cells, b.Cells) && slices.Equal(a.Map, b.Map) && a.Count == b.Count
}

func alikeRun(a, b impl.Run) bool {
	return a.Out == b.Out && slices.Equal(a.Regs, b.Regs) && alikeThings(a.Things, b.Things)
}

func copyRun(r impl.Run) impl.Run {
	return impl.Run{Out: r.Out, Regs: slices.Clone(r.Regs), Things: copyThings(r.Things)}
}

// startThings have each number that is at a bound, and others.
func startThings() impl.Things {
	return impl.Things{Cells: []int{10, 20, 30, 40, 50, 60, 0, 65535}, Map: []int{0, 8, 65536, 1, 0, 0, 2, 65535}, Count: 3}
}

func rightThings() []impl.Things {
	l := []impl.Things{startThings(), {Cells: make([]int, 8), Map: make([]int, 8)}}
	l = append(l, impl.Things{Cells: slices.Repeat([]int{65535}, 8), Map: slices.Repeat([]int{65536}, 8), Count: 65535})
	for i := range 8 {
		for _, v := range []int{0, 1, 65534, 65535} {
			s := startThings()
			s.Cells[i], s.Count = v, v
			l = append(l, s)
		}
		for _, n := range []int{0, 1, 65535, 65536} {
			s := startThings()
			s.Map[i] = n
			l = append(l, s)
		}
	}
	return l
}

func wrongThings() []impl.Things {
	var l []impl.Things
	turned := func(turn func(s *impl.Things)) {
		s := startThings()
		turn(&s)
		l = append(l, s)
	}
	for i := range 8 {
		for _, v := range []int{-1, 65536, 65537, -65536, math.MinInt, math.MaxInt} {
			turned(func(s *impl.Things) { s.Cells[i] = v })
		}
		for _, n := range []int{-1, 65537, -65536, math.MinInt, math.MaxInt} {
			turned(func(s *impl.Things) { s.Map[i] = n })
		}
	}
	for _, n := range []int{-1, 65536, 65537, -65536, math.MinInt, math.MaxInt} {
		turned(func(s *impl.Things) { s.Count = n })
	}
	for _, n := range []int{0, 1, 4, 7, 9, 16} {
		turned(func(s *impl.Things) { s.Cells = make([]int, n) })
		turned(func(s *impl.Things) { s.Map = make([]int, n) })
	}
	turned(func(s *impl.Things) { s.Cells = nil })
	turned(func(s *impl.Things) { s.Map = nil })
	turned(func(s *impl.Things) { s.Cells, s.Map = s.Cells[:7], append(s.Map, 1) })
	turned(func(s *impl.Things) { s.Cells, s.Map = append(s.Cells, 1), s.Map[:7] })
	turned(func(s *impl.Things) { s.Cells, s.Map = s.Map, s.Cells })
	return append(l, impl.Things{})
}

// roomy is the list with numbers behind it that would be right ones.
func roomy(l []int) []int {
	return append(slices.Clone(l), 0, 1, 2, 3, 4, 5, 6, 7)[:len(l)]
}

func roomyThings(s impl.Things) impl.Things {
	return impl.Things{Cells: roomy(s.Cells), Map: roomy(s.Map), Count: s.Count}
}

// snapshot is a copy of the lists with all their spare room.
func snapshot(lists ...[]int) []int {
	var l []int
	for _, list := range lists {
		l = append(append(l, len(list)), list[:cap(list)]...)
	}
	return l
}

// apart fills each list, its spare room too, with a number of its own, and looks whether another one of them was hit.
func apart(lists ...[]int) bool {
	for i, l := range lists {
		for k := range l[:cap(l)] {
			l[:cap(l)][k] = -100 - i
		}
	}
	for i, l := range lists {
		for _, n := range l[:cap(l)] {
			if n != -100-i {
				return false
			}
		}
	}
	return true
}

// serial holds Serial against the plain one, and looks whether it wrote into anything or shares anything.
func serial(t *testing.T, p impl.Prog, order []int, s impl.Things) impl.Run {
	t.Helper()
	room := rooms()[len(p.Code)%len(rooms())]
	q, all := roomyProg(p, room)
	o, th := roomy(order), roomyThings(s)
	beforeProg, before := whole(all), snapshot(o, th.Cells, th.Map)
	got := impl.Serial(q, o, th)
	answer := copyRun(got)
	if !alikeProg(whole(all), beforeProg) || !slices.Equal(snapshot(o, th.Cells, th.Map), before) {
		t.Errorf("Serial(%v, %v, %v) wrote into what it was given", p, order, s)
	}
	if !apart(got.Regs, got.Things.Cells, got.Things.Map, o, th.Cells, th.Map) {
		t.Errorf("lists of Serial(%v, %v, %v) share memory", p, order, s)
	}
	if want := plainSerial(p, order, s); !alikeRun(answer, want) {
		t.Errorf("Serial(%v, %v, %v) is %v, not %v", p, order, s, answer, want)
	}
	return answer
}

func serialKid(t *testing.T, code []impl.Op, regs []int, cells []int) (int, []int, []int) {
	t.Helper()
	all := append(slices.Clone(code), rooms()[len(code)%len(rooms())]...)
	r, c := roomy(regs), roomy(cells)
	beforeCode, before := slices.Clone(all), snapshot(r, c)
	out, gotRegs, gotCells := impl.SerialKid(all[:len(code)], r, c)
	nextRegs, nextCells := slices.Clone(gotRegs), slices.Clone(gotCells)
	if !slices.Equal(all, beforeCode) || !slices.Equal(snapshot(r, c), before) {
		t.Errorf("SerialKid(%v, %v, %v) wrote into what it was given", code, regs, cells)
	}
	if !apart(gotRegs, gotCells, r, c) {
		t.Errorf("lists of SerialKid(%v, %v, %v) share memory", code, regs, cells)
	}
	wantOut, wantRegs, wantCells := plainSerialKid(code, regs, cells)
	if out != wantOut || !slices.Equal(nextRegs, wantRegs) || !slices.Equal(nextCells, wantCells) {
		t.Errorf("SerialKid(%v, %v, %v) is %d %v %v, not %d %v %v", code, regs, cells, out, nextRegs, nextCells, wantOut, wantRegs, wantCells)
	}
	return out, nextRegs, nextCells
}

func serialAll(t *testing.T, l []impl.Prog, orders []impl.Order, s impl.Things) ([]impl.Run, impl.Things) {
	t.Helper()
	th := roomyThings(s)
	lists := [][]int{th.Cells, th.Map}
	var progs, alls []impl.Prog
	for _, p := range l {
		q, all := roomyProg(p, rooms()[len(p.Code)%len(rooms())])
		progs, alls = append(progs, q), append(alls, whole(all))
	}
	// One more of each lies in the spare room.
	progs = append(progs, impl.Prog{Code: sets(3)})
	held := make([]impl.Order, 0, len(orders)+2)
	for _, order := range append(slices.Clone(orders), impl.Order{}, impl.Order{}) {
		held = append(held, impl.Order{Kids: roomy(order.Kids)})
		lists = append(lists, held[len(held)-1].Kids)
	}
	before := snapshot(lists...)
	runs, end := impl.SerialAll(progs[:len(l)], held[:len(orders)], th)
	var answers []impl.Run
	for _, run := range runs {
		answers = append(answers, copyRun(run))
		lists = append(lists, run.Regs, run.Things.Cells, run.Things.Map)
	}
	answer := copyThings(end)
	lists = append(lists, end.Cells, end.Map)
	if !slices.Equal(snapshot(lists[:2+len(held)]...), before) || !slices.Equal(progs[len(l)].Code, sets(3)) {
		t.Errorf("SerialAll(%v, %v, %v) wrote into what it was given", l, orders, s)
	}
	for i, order := range append(slices.Clone(orders), impl.Order{}, impl.Order{}) {
		if !slices.Equal(held[i].Kids, order.Kids) {
			t.Errorf("SerialAll(%v, %v, %v) wrote into order %d", l, orders, s, i)
		}
	}
	for i, p := range progs[:len(l)] {
		p.Code, p.Kids = p.Code[:cap(p.Code)][:len(alls[i].Code)], p.Kids[:len(l[i].Kids)+2]
		if !alikeProg(whole(p), alls[i]) {
			t.Errorf("SerialAll(%v, %v, %v) wrote into program %d", l, orders, s, i)
		}
	}
	if !apart(lists...) {
		t.Errorf("lists of SerialAll(%v, %v, %v) share memory", l, orders, s)
	}
	wantRuns, wantEnd := plainSerialAll(l, orders, s)
	if !slices.EqualFunc(answers, wantRuns, alikeRun) || !alikeThings(answer, wantEnd) {
		t.Errorf("SerialAll(%v, %v, %v) is %v %v, not %v %v", l, orders, s, answers, answer, wantRuns, wantEnd)
	}
	return answers, answer
}

// progOf is the right program of these lines, with a ; between each two.
func progOf(t *testing.T, lines string) impl.Prog {
	t.Helper()
	text := ""
	for line := range strings.SplitSeq(lines, ";") {
		if line = strings.TrimSpace(line); line != "" {
			text += line + "\n"
		}
	}
	p, is := plainReadProg(text)
	if !is {
		t.Fatalf("%s is no program", lines)
	}
	return p
}

func codeOf(t *testing.T, lines string) []impl.Op {
	t.Helper()
	return progOf(t, lines).Code
}

// runOf is the Run of such a text: its outcome, its four registers, and what changed of the things: c2=8 cell 2, m1=0 key 1, n=5 the counter.
func runOf(t *testing.T, text string, s impl.Things) impl.Run {
	t.Helper()
	words := strings.Fields(text)
	r := impl.Run{Out: map[string]int{"done": 1, "aborted": 2}[words[0]], Regs: make([]int, 4), Things: copyThings(s)}
	for i := range r.Regs {
		if _, err := fmt.Sscan(words[1+i], &r.Regs[i]); err != nil {
			t.Fatal(text, err)
		}
	}
	for _, word := range words[5:] {
		what, number, _ := strings.Cut(word, "=")
		at := &r.Things.Count
		switch place := int(what[len(what)-1] - '0'); what[0] {
		case 'c':
			at = &r.Things.Cells[place]
		case 'm':
			at = &r.Things.Map[place]
		}
		if _, err := fmt.Sscan(number, at); err != nil {
			t.Fatal(text, err)
		}
	}
	return r
}

// tells holds what a program does to startThings against such a text.
func tells(t *testing.T, lines string, order []int, want string) {
	t.Helper()
	s := startThings()
	got := serial(t, progOf(t, lines), order, s)
	if r := runOf(t, want, s); !alikeRun(got, r) {
		t.Errorf("%s in order %v: %v, not %v", lines, order, got, r)
	}
}

func TestSerialConstants(t *testing.T) {
	if impl.OutNone != 0 || impl.OutDone != 1 || impl.OutAborted != 2 {
		t.Error("outcomes are", impl.OutNone, impl.OutDone, impl.OutAborted)
	}
}

func thingsOk(t *testing.T, s impl.Things) bool {
	t.Helper()
	th := roomyThings(s)
	before := snapshot(th.Cells, th.Map)
	got := impl.ThingsOk(th)
	if !slices.Equal(snapshot(th.Cells, th.Map), before) {
		t.Errorf("ThingsOk(%v) wrote into what it was given", s)
	}
	if again := impl.ThingsOk(s); again != got {
		t.Errorf("ThingsOk(%v) is %v with spare room, else %v", s, got, again)
	}
	return got
}

func TestThingsOk(t *testing.T) {
	for _, s := range rightThings() {
		if !thingsOk(t, s) {
			t.Errorf("ThingsOk(%v) is false", s)
		}
	}
	for _, s := range wrongThings() {
		if thingsOk(t, s) {
			t.Errorf("ThingsOk(%v) is true", s)
		}
	}
}

func TestThingsOkOfLengths(t *testing.T) {
	for cells := range 18 {
		for keys := range 18 {
			s := impl.Things{Cells: make([]int, cells), Map: make([]int, keys)}
			if got := thingsOk(t, s); got != (cells == 8 && keys == 8) {
				t.Errorf("ThingsOk of %d cells and %d keys is %v", cells, keys, got)
			}
		}
	}
}

// Values are from 0 to 65535; what stands in the map is from 0 to 65536.
func TestThingsOkAtEachBound(t *testing.T) {
	for _, v := range []int{math.MinInt, -65536, -1, 0, 1, 255, 256, 32768, 65535, 65536, 65537, 131071, 131072, 1 << 32, math.MaxInt} {
		for i := range 8 {
			s := startThings()
			s.Cells[i] = v
			if got := thingsOk(t, s); got != (v >= 0 && v <= 65535) {
				t.Errorf("ThingsOk with %d in cell %d is %v", v, i, got)
			}
			s = startThings()
			s.Map[i] = v
			if got := thingsOk(t, s); got != (v >= 0 && v <= 65536) {
				t.Errorf("ThingsOk with %d at key %d is %v", v, i, got)
			}
		}
		s := startThings()
		s.Count = v
		if got := thingsOk(t, s); got != (v >= 0 && v <= 65535) {
			t.Errorf("ThingsOk with the counter %d is %v", v, got)
		}
	}
}

// sameThings asks both ways round, with spare rooms that are not the same.
func sameThings(t *testing.T, a, b impl.Things) bool {
	t.Helper()
	p, q := roomyThings(a), roomyThings(b)
	q.Cells = slices.Clip(q.Cells)
	before := snapshot(p.Cells, p.Map, q.Cells, q.Map)
	there, back := impl.SameThings(p, q), impl.SameThings(q, p)
	if there != back {
		t.Errorf("SameThings of %v and %v is %v, the other way round %v", a, b, there, back)
	}
	if !slices.Equal(snapshot(p.Cells, p.Map, q.Cells, q.Map), before) {
		t.Errorf("SameThings of %v and %v wrote into what it was given", a, b)
	}
	return there
}

func TestSameThings(t *testing.T) {
	l := []impl.Things{
		{}, {Count: 1}, {Count: -1}, {Cells: []int{0}}, {Map: []int{0}}, {Cells: []int{0}, Map: []int{0}}, {Cells: []int{0, 0}},
		{Cells: []int{-1}}, {Map: []int{-1}}, {Map: []int{math.MinInt}}, {Cells: []int{1, 2}}, {Cells: []int{2, 1}}, {Cells: []int{1}, Map: []int{2}},
		{Cells: []int{2}, Map: []int{1}}, {Map: []int{1, 2}}, {Map: []int{2, 1}}, {Cells: []int{math.MaxInt}, Map: []int{math.MaxInt}, Count: math.MinInt},
	}
	some := startThings()
	l = append(l, some)
	for i := range 8 {
		for _, turn := range []func(s *impl.Things){
			func(s *impl.Things) { s.Cells[i]++ },
			func(s *impl.Things) { s.Cells[i] = -5 },
			func(s *impl.Things) { s.Map[i]++ },
			func(s *impl.Things) { s.Map[i] = -5 },
			func(s *impl.Things) { s.Cells = s.Cells[:i] },
			func(s *impl.Things) { s.Map = s.Map[:i] },
		} {
			s := copyThings(some)
			turn(&s)
			l = append(l, s)
		}
	}
	for _, turn := range []func(s *impl.Things){
		func(s *impl.Things) { s.Count++ },
		func(s *impl.Things) { s.Count += 65536 },
		func(s *impl.Things) { s.Cells = append(s.Cells, 0) },
		func(s *impl.Things) { s.Map = append(s.Map, 0) },
		func(s *impl.Things) { s.Cells = append([]int{0}, s.Cells...) },
		func(s *impl.Things) { s.Cells, s.Map = s.Map, s.Cells },
	} {
		s := copyThings(some)
		turn(&s)
		l = append(l, s)
	}
	for i, a := range l {
		for k, b := range l {
			if got := sameThings(t, copyThings(a), copyThings(b)); got != (i == k) {
				t.Errorf("SameThings(%v, %v) is %v", a, b, got)
			}
		}
	}
}

func TestSameThingsOfEmptyLists(t *testing.T) {
	empty := impl.Things{Cells: []int{}, Map: []int{}}
	if !impl.SameThings(empty, impl.Things{}) || !impl.SameThings(impl.Things{}, empty) {
		t.Error("an empty list and nil are not the same")
	}
}

func TestSerialOfEachKind(t *testing.T) {
	for _, c := range []struct{ lines, want string }{
		{"", "done 0 0 0 0"},
		{"set 0 0", "done 0 0 0 0"},
		{"set 0 65535", "done 65535 0 0 0"},
		{"set 3 65535", "done 0 0 0 65535"},
		{"set 0 1; set 1 2; set 2 3; set 3 4", "done 1 2 3 4"},
		{"set 0 1; set 0 2", "done 2 0 0 0"},
		{"set 0 65535; set 1 2; add 3 0 1", "done 65535 2 0 1"},
		{"set 0 5; add 0 0 0", "done 10 0 0 0"},
		{"set 3 2; sub 0 1 3", "done 65534 0 0 2"},
		{"set 0 9; set 1 2; sub 1 0 1", "done 9 7 0 0"},
		{"set 3 2; less 0 1 3", "done 1 0 0 2"},
		{"set 3 2; less 3 3 1", "done 0 0 0 0"},
		{"set 3 2; less 3 3 3", "done 0 0 0 0"},
		{"read 0 0", "done 10 0 0 0"},
		{"read 3 7", "done 0 0 0 65535"},
		{"set 1 5; read 1 6", "done 0 0 0 0"},
		{"write 7 0", "done 0 0 0 0 c7=0"},
		{"set 3 65535; write 0 3", "done 0 0 0 65535 c0=65535"},
		{"set 0 5; write 7 0; read 1 7", "done 5 5 0 0 c7=5"},
		{"read 0 1; write 2 0; read 0 2; write 3 0", "done 20 0 0 0 c2=20 c3=20"},
		{"put 0 0 0", "done 0 0 0 0 m0=1"},
		{"put 7 3 3", "done 0 0 0 65535 m7=1"},
		{"set 0 5; put 0 0 1", "done 5 0 0 0 m0=6"},
		{"set 0 5; set 1 9; put 0 0 1", "done 5 0 0 0 m0=6"},
		{"set 0 5; put 1 0 1", "done 5 8 0 0 m1=6"},
		{"set 0 5; put 1 0 0", "done 8 0 0 0 m1=6"},
		{"set 0 65535; put 0 0 3", "done 65535 0 0 0 m0=65536"},
		{"set 0 65535; put 1 0 3", "done 65535 0 0 8 m1=65536"},
		{"set 0 65535; set 3 4; put 2 0 3", "done 65535 0 0 0"},
		{"set 0 65535; put 2 0 0", "done 0 0 0 0"},
		{"set 0 65534; put 2 0 3", "done 65534 0 0 0 m2=65535"},
		{"set 0 65534; put 2 0 3; put 2 1 3", "done 65534 0 0 65535 m2=1"},
		{"get 0 0", "done 0 0 0 0"},
		{"set 3 4; get 3 0", "done 0 0 0 0"},
		{"get 1 1", "done 0 8 0 0"},
		{"set 3 4; get 3 2", "done 0 0 0 0"},
		{"get 2 3", "done 0 0 1 0"},
		{"get 3 7", "done 0 0 0 65535"},
		{"drop 0 0", "done 0 0 0 0"},
		{"set 3 4; drop 0 3", "done 0 0 0 0"},
		{"drop 1 1", "done 0 8 0 0 m1=0"},
		{"set 2 4; drop 2 2", "done 0 0 0 0 m2=0"},
		{"drop 7 3", "done 0 0 0 65535 m7=0"},
		{"drop 1 0; drop 1 1", "done 8 0 0 0 m1=0"},
		{"drop 1 0; put 1 0 1", "done 8 0 0 0 m1=9"},
		{"put 0 0 1; drop 0 2; get 3 0", "done 0 0 1 0"},
		{"bump 0", "done 0 0 0 0"},
		{"set 0 65532; bump 0", "done 65532 0 0 0 n=65535"},
		{"set 0 65533; bump 0", "done 65533 0 0 0 n=0"},
		{"set 3 65535; bump 3", "done 0 0 0 65535 n=2"},
		{"set 3 65535; bump 3; bump 3; bump 3", "done 0 0 0 65535 n=0"},
		{"set 3 65535; bump 3; bump 3; bump 3; bump 3; count 0", "done 65535 0 0 65535 n=65535"},
		{"count 0", "done 3 0 0 0"},
		{"count 3", "done 0 0 0 3"},
		{"count 1; bump 1; count 2; bump 2", "done 0 3 6 0 n=12"},
		{"begin 0; end", "done 1 0 0 0"},
		{"begin 3; end", "done 0 0 0 1"},
		{"begin 0; abort; end", "done 0 0 0 0"},
		{"begin 3; abort; end", "done 0 0 0 0"},
		{"abort", "aborted 0 0 0 0"},
		{"fork; kid", "done 0 0 0 0"},
	} {
		tells(t, c.lines, nil, c.want)
	}
}

// All right ops there are, but for most of the sets, each with no two registers alike.
func TestSerialOfEachRightOp(t *testing.T) {
	ahead := codeOf(t, "set 1 2; read 2 3; set 3 65534")
	asked := 0
	for _, o := range opsByText() {
		if o.Kind == impl.OpSet && !fromTo(o.B, 0, 2) && !fromTo(o.B, 65534, 65535) {
			continue
		}
		p := impl.Prog{Code: append(slices.Clone(ahead), o)}
		switch o.Kind {
		case impl.OpSkip:
			p.Code = append(p.Code, slices.Repeat([]impl.Op{{Kind: impl.OpBump, A: 1}}, o.B)...)
		case impl.OpBegin:
			p.Code = append(p.Code, anEnd)
		case impl.OpEnd:
			p.Code = append([]impl.Op{{Kind: impl.OpBegin, A: 1}}, p.Code...)
		case impl.OpFork:
			p.Kids = kidsOf(3, nil)
		}
		for _, s := range []impl.Things{startThings(), rightThings()[1], rightThings()[2]} {
			if run := serial(t, p, nil, s); run.Out == 0 {
				t.Errorf("Serial(%v) is the zero Run", p)
			}
		}
		asked++
	}
	// set 4*5, reckoned 3*64, read and write 2*32, skip 80, begin, bump and count 3*4, nothing named 3, put 128, get and drop 2*32
	if want := 20 + 192 + 64 + 80 + 12 + 3 + 128 + 64; asked != want {
		t.Errorf("%d right ops, not %d", asked, want)
	}
}

func TestSerialOfSkips(t *testing.T) {
	for _, c := range []struct{ lines, want string }{
		{"skip 0 1; set 1 5", "done 0 0 0 0"},
		{"skip 0 1; set 1 5; set 2 6", "done 0 0 6 0"},
		{"skip 0 2; set 1 5; set 2 6", "done 0 0 0 0"},
		{"set 0 1; skip 0 1; set 1 5", "done 1 5 0 0"},
		{"set 0 65535; skip 0 1; set 1 5", "done 65535 5 0 0"},
		{"set 0 1; skip 3 1; set 1 5; set 2 6", "done 1 0 6 0"},
		{"set 3 1; skip 3 2; set 1 5; set 2 6", "done 0 5 6 1"},
		{"set 3 1; skip 2 2; set 1 5; set 2 6", "done 0 0 0 1"},
		// one that is passed over passes over nothing
		{"skip 0 1; skip 0 1; set 1 5", "done 0 5 0 0"},
		{"skip 0 2; skip 0 2; set 1 5; set 2 6", "done 0 0 6 0"},
		// one behind the other
		{"skip 0 1; set 1 5; skip 0 1; set 2 6; set 3 7", "done 0 0 0 7"},
		// over a whole block, and over more than one
		{"skip 0 2; begin 1; end", "done 0 0 0 0"},
		{"skip 0 3; begin 1; set 2 6; end; set 3 7", "done 0 0 0 7"},
		{"skip 0 3; begin 1; abort; end; set 3 7", "done 0 0 0 7"},
		{"skip 0 6; begin 1; begin 2; end; end; begin 3; end; bump 0", "done 0 0 0 0"},
		{"set 0 1; skip 0 3; begin 1; set 2 6; end; set 3 7", "done 1 1 6 7"},
		// in a block: up to its end, over one in it, and over what would give it up
		{"begin 1; skip 0 1; set 2 6; end; set 3 7", "done 0 1 0 7"},
		{"begin 1; skip 0 1; abort; end; set 3 7", "done 0 1 0 7"},
		{"begin 1; set 0 1; skip 0 1; abort; end; set 3 7", "done 0 0 0 7"},
		{"begin 1; skip 0 2; begin 2; end; set 3 7; end", "done 0 1 0 7"},
		{"begin 1; skip 0 3; begin 2; abort; end; end", "done 0 1 0 0"},
		// over an abort in no block, and over a fork
		{"skip 0 1; abort", "done 0 0 0 0"},
		{"set 0 1; skip 0 1; abort", "aborted 1 0 0 0"},
		{"skip 0 1; abort; set 0 2; write 0 0", "done 2 0 0 0 c0=2"},
		{"skip 0 1; fork; kid; set 0 9; write 0 0", "done 0 0 0 0"},
		{"set 1 9; skip 0 1; fork; kid; set 0 9; write 0 0; kid; set 0 8", "done 0 9 0 0"},
		{"set 0 1; skip 0 1; fork; kid; set 0 9; write 0 0", "done 9 0 0 0 c0=9"},
		// the register of a block is asked behind it: 1 where it was ended, 0 where it was given up
		{"begin 1; end; skip 1 1; set 3 7", "done 0 1 0 7"},
		{"begin 1; abort; end; skip 1 1; set 3 7", "done 0 0 0 0"},
		// a register that is given back is asked as it was
		{"begin 1; set 0 1; abort; end; skip 0 1; set 3 7", "done 0 0 0 0"},
		{"set 0 1; begin 1; set 0 0; abort; end; skip 0 1; set 3 7", "done 1 0 0 7"},
	} {
		tells(t, c.lines, nil, c.want)
	}
}

func TestSerialOfLongSkips(t *testing.T) {
	for b := 1; b <= 20; b++ {
		for _, more := range []int{0, 1, 2} {
			code := []impl.Op{{Kind: impl.OpSet, A: 1, B: 1}, {Kind: impl.OpSkip, A: 0, B: b}}
			code = append(code, slices.Repeat([]impl.Op{{Kind: impl.OpBump, A: 1}}, b+more)...)
			if run := serial(t, impl.Prog{Code: code}, nil, startThings()); run.Things.Count != 3+more {
				t.Errorf("a skip of %d leaves %d of %d ops", b, run.Things.Count-3, b+more)
			}
			code[1].A = 1
			if run := serial(t, impl.Prog{Code: code}, nil, startThings()); run.Things.Count != 3+b+more {
				t.Errorf("a skip of %d that passes over nothing leaves %d of %d ops", b, run.Things.Count-3, b+more)
			}
		}
	}
	for _, code := range [][]impl.Op{
		{{Kind: impl.OpSkip, A: 0}, aSet}, {{Kind: impl.OpSkip, A: 0, B: 1}}, {{Kind: impl.OpSkip, A: 0, B: 2}, aSet},
		append([]impl.Op{{Kind: impl.OpSkip, A: 0, B: 21}}, sets(22)...), {{Kind: impl.OpSkip, A: 0, B: -1}, aSet},
	} {
		if run := serial(t, impl.Prog{Code: code}, nil, startThings()); !alikeRun(run, impl.Run{}) {
			t.Errorf("Serial(%v) is %v", code, run)
		}
	}
}

// A change is code of which each touches one of the things alone; the last ones touch all together.
func changes() []string {
	return []string{
		"",
		"set 1 7", "add 1 2 2", "read 1 7", "set 0 9; set 1 9; set 2 9; set 3 9",
		"write 0 2", "write 7 3; write 0 2", "write 1 2; write 2 2; write 1 3",
		"put 0 2 2", "put 0 2 1", "put 1 3 1", "put 2 2 1", "put 1 2 3; put 1 3 2",
		"drop 1 1", "drop 2 2", "drop 0 3", "drop 7 0; put 7 2 2", "put 4 2 2; drop 4 3",
		"get 1 1", "bump 2", "bump 2; bump 3", "count 1", "bump 3; count 3",
		"set 1 7; write 0 2; put 0 2 1; drop 1 1; bump 2",
		"bump 3; drop 2 1; put 1 1 0; write 7 3; read 2 0",
	}
}

const aheadOfChanges = "set 0 4; set 1 3; set 2 65535; set 3 6;"

// asIf holds a program against another one that does the same without a block.
func asIf(t *testing.T, lines, other string) {
	t.Helper()
	a := serial(t, progOf(t, aheadOfChanges+lines), nil, startThings())
	b := serial(t, progOf(t, aheadOfChanges+other), nil, startThings())
	if !alikeRun(a, b) {
		t.Errorf("%s is %v, but %s is %v", lines, a, other, b)
	}
}

func TestBlocksBehindEachChange(t *testing.T) {
	for _, change := range changes() {
		for reg := range 4 {
			in := func(lines string) string {
				return strings.NewReplacer("R", fmt.Sprint(reg), "Q", fmt.Sprint((reg+1)%4), "CHANGE", change).Replace(lines)
			}
			for _, c := range []struct{ lines, other string }{
				// ended
				{"begin R; CHANGE; end", "CHANGE; set R 1"},
				{"CHANGE; begin R; end", "CHANGE; set R 1"},
				{"begin R; end; CHANGE", "set R 1; CHANGE"},
				{"begin R; begin Q; CHANGE; end; end", "CHANGE; set Q 1; set R 1"},
				{"begin R; CHANGE; begin R; end; end; count 0", "CHANGE; set R 1; count 0"},
				// given up at its end, in its middle, at its beginning
				{"begin R; CHANGE; abort; end", "set R 0"},
				{"begin R; CHANGE; abort; set 0 8; bump 0; end", "set R 0"},
				{"begin R; abort; CHANGE; end", "set R 0"},
				{"CHANGE; begin R; abort; end", "CHANGE; set R 0"},
				{"begin R; CHANGE; abort; end; bump 3; write 3 2", "set R 0; bump 3; write 3 2"},
				{"begin R; CHANGE; abort; abort; end; abort", "set R 0; abort"},
				// the inner one given up, and the outer one ended
				{"begin R; begin Q; CHANGE; abort; end; end", "set Q 0; set R 1"},
				{"begin R; bump 3; begin Q; CHANGE; abort; end; end", "bump 3; set Q 0; set R 1"},
				{"begin R; CHANGE; begin Q; set 0 9; drop 7 1; write 4 2; abort; end; end", "CHANGE; set Q 0; set R 1"},
				{"begin R; begin Q; abort; end; CHANGE; end", "set Q 0; CHANGE; set R 1"},
				{"begin R; begin R; CHANGE; abort; end; write 5 R; end", "set R 0; write 5 R; set R 1"},
				// the outer one given up, behind an inner one that was ended
				{"begin R; begin Q; CHANGE; end; abort; end", "set R 0"},
				{"begin R; CHANGE; begin Q; end; abort; end", "set R 0"},
				{"begin R; begin Q; CHANGE; end; CHANGE; abort; end", "set R 0"},
				// both given up
				{"begin R; begin Q; CHANGE; abort; end; abort; end", "set R 0"},
				{"begin R; CHANGE; begin Q; bump 3; abort; end; abort; end", "set R 0"},
				{"begin R; CHANGE; abort; begin Q; abort; end; end", "set R 0"},
				// one behind the other
				{"begin R; CHANGE; abort; end; begin Q; CHANGE; end", "set R 0; CHANGE; set Q 1"},
				{"begin R; CHANGE; end; begin Q; drop 1 0; abort; end", "CHANGE; set R 1; set Q 0"},
			} {
				asIf(t, in(c.lines), in(c.other))
			}
		}
	}
}

func TestBlocksLeaveTheirRegister(t *testing.T) {
	for _, c := range []struct{ lines, want string }{
		{"set 2 5; begin 2; end", "done 0 0 1 0"},
		{"set 2 5; begin 2; set 2 6; end", "done 0 0 1 0"},
		{"set 2 5; begin 2; abort; end", "done 0 0 0 0"},
		{"set 2 5; begin 2; set 2 6; abort; end", "done 0 0 0 0"},
		{"set 2 5; begin 1; set 2 6; abort; end", "done 0 0 5 0"},
		{"set 0 1; set 1 2; set 2 3; set 3 4; begin 2; set 0 5; set 1 6; set 2 7; set 3 8; abort; end", "done 1 2 0 4"},
		// what is not told to the block is its register until it ends
		{"set 2 5; begin 2; write 0 2; end", "done 0 0 1 0 c0=5"},
		{"set 2 5; begin 2; begin 3; write 0 2; abort; end; write 1 2; end", "done 0 0 1 0 c1=5"},
		// one register for two blocks
		{"begin 2; begin 2; end; write 0 2; end", "done 0 0 1 0 c0=1"},
		{"begin 2; begin 2; abort; end; write 0 2; end", "done 0 0 1 0 c0=0"},
		{"set 2 5; begin 2; begin 2; end; write 0 2; abort; end", "done 0 0 0 0"},
		// the register of the inner block goes with the outer one
		{"set 1 5; begin 2; begin 1; end; abort; end", "done 0 5 0 0"},
		{"set 1 5; begin 2; begin 1; abort; end; abort; end", "done 0 5 0 0"},
		// what was there at the beginning, not what was there at first, comes back
		{"set 3 9; write 0 3; put 0 3 0; drop 1 0; bump 3; begin 1; set 3 8; write 0 3; write 1 3; put 0 3 0; drop 0 0; put 1 3 0; bump 3; abort; end", "done 8 0 0 9 c0=9 m0=10 m1=0 n=12"},
		// from the innermost of three, and from one in the middle
		{"begin 0; bump 3; set 3 1; begin 1; set 3 2; bump 3; begin 2; set 3 4; bump 3; abort; end; bump 3; end; bump 3; end", "done 1 1 0 2 n=9"},
		{"begin 0; set 3 1; bump 3; begin 1; set 3 2; bump 3; begin 2; set 3 4; bump 3; end; abort; end; bump 3; end", "done 1 0 0 1 n=5"},
		{"begin 0; set 3 1; bump 3; begin 1; set 3 2; bump 3; begin 2; set 3 4; bump 3; end; end; abort; end; bump 3", "done 0 0 0 0"},
	} {
		tells(t, c.lines, nil, c.want)
	}
}

// Blocks in one another as deep as right code may have them, with one of them given up.
func TestSerialOfDeepBlocks(t *testing.T) {
	for deep := 1; deep <= 11; deep++ {
		for up := range deep {
			var code []impl.Op
			for range deep {
				code = append(code, impl.Op{Kind: impl.OpBegin, A: 1})
			}
			for i := range deep {
				if i == up {
					code = append(code, impl.Op{Kind: impl.OpAbort})
				}
				code = append(code, anEnd)
			}
			run := serial(t, impl.Prog{Code: code}, nil, startThings())
			want := 1
			if up == deep-1 {
				want = 0
			}
			if run.Out != 1 || !slices.Equal(run.Regs, []int{0, want, 0, 0}) || !alikeThings(run.Things, startThings()) {
				t.Errorf("%d blocks, number %d from inside given up: %v", deep, up, run)
			}
		}
	}
	blocks := slices.Concat(slices.Repeat([]impl.Op{aBegin}, 12), slices.Repeat([]impl.Op{anEnd}, 12))
	if run := serial(t, impl.Prog{Code: blocks}, nil, startThings()); run.Out != 1 || !slices.Equal(run.Regs, []int{0, 0, 1, 0}) {
		t.Errorf("twelve blocks in one another: %v", run)
	}
}

// A program that is given up keeps its registers, and nothing else.
func TestGivenUpBehindEachChange(t *testing.T) {
	for _, change := range changes() {
		for _, lines := range []string{
			"CHANGE", "bump 3; CHANGE", "begin 1; CHANGE; end", "begin 1; CHANGE; abort; end", "begin 1; end; CHANGE",
			"begin 1; abort; end; CHANGE", "begin 1; begin 2; CHANGE; abort; end; end; bump 2", "CHANGE; begin 1; CHANGE; end",
		} {
			lines = aheadOfChanges + strings.ReplaceAll(lines, "CHANGE", change)
			through := serial(t, progOf(t, lines), nil, startThings())
			for _, behind := range []string{"abort", "abort; set 0 8; write 0 0; bump 0", "abort; abort", "abort; begin 0; abort; end"} {
				p := progOf(t, lines+";"+behind)
				run := serial(t, p, nil, startThings())
				if run.Out != impl.OutAborted || !slices.Equal(run.Regs, through.Regs) || !alikeThings(run.Things, startThings()) {
					t.Errorf("%s, and then %s, leaves %v, its registers were %v", lines, behind, run, through.Regs)
				}
			}
		}
	}
}

func TestGivenUp(t *testing.T) {
	for _, c := range []struct{ lines, want string }{
		{"set 3 7; write 0 3; abort", "aborted 0 0 0 7"},
		{"abort; set 3 7; write 0 3", "aborted 0 0 0 0"},
		{"set 0 7; put 0 0 1; abort", "aborted 7 0 0 0"},
		{"set 0 7; put 1 0 1; abort", "aborted 7 8 0 0"},
		{"drop 1 1; abort", "aborted 0 8 0 0"},
		{"set 0 7; bump 0; count 1; abort", "aborted 7 10 0 0"},
		{"begin 1; set 3 7; write 0 3; end; abort", "aborted 0 1 0 7"},
		{"begin 1; set 3 7; write 0 3; abort; end; abort", "aborted 0 0 0 0"},
		{"begin 1; abort; end; begin 2; end; abort", "aborted 0 0 1 0"},
		{"set 3 7; write 0 3; put 0 3 0; drop 1 1; bump 3; abort", "aborted 0 8 0 7"},
		{"set 3 7; fork; abort; kid; write 0 3; set 0 5", "aborted 5 0 0 7"},
		{"set 3 7; bump 3; abort; fork; kid; write 0 3; set 0 5", "aborted 0 0 0 7"},
	} {
		tells(t, c.lines, nil, c.want)
	}
}

// The kids double one cell and add a number of their own: what is there behind them tells who was ahead of whom.
func TestEachOrderOfKids(t *testing.T) {
	kid := func(n int) impl.Kid {
		return impl.Kid{Code: codeOf(t, fmt.Sprintf("set 1 %d; read 0 0; add 0 0 0; add 0 0 1; write 0 0", n))}
	}
	for _, c := range []struct {
		kids        int
		order, turn []int
	}{
		{1, nil, []int{0}}, {1, []int{0}, []int{0}},
		{2, nil, []int{0, 1}}, {2, []int{0}, []int{0, 1}}, {2, []int{1}, []int{1, 0}}, {2, []int{0, 1}, []int{0, 1}}, {2, []int{1, 0}, []int{1, 0}},
		{3, nil, []int{0, 1, 2}}, {3, []int{0}, []int{0, 1, 2}}, {3, []int{1}, []int{1, 0, 2}}, {3, []int{2}, []int{2, 0, 1}},
		{3, []int{0, 1}, []int{0, 1, 2}}, {3, []int{0, 2}, []int{0, 2, 1}}, {3, []int{1, 0}, []int{1, 0, 2}},
		{3, []int{1, 2}, []int{1, 2, 0}}, {3, []int{2, 0}, []int{2, 0, 1}}, {3, []int{2, 1}, []int{2, 1, 0}},
		{3, []int{0, 1, 2}, []int{0, 1, 2}}, {3, []int{0, 2, 1}, []int{0, 2, 1}}, {3, []int{1, 0, 2}, []int{1, 0, 2}},
		{3, []int{1, 2, 0}, []int{1, 2, 0}}, {3, []int{2, 0, 1}, []int{2, 0, 1}}, {3, []int{2, 1, 0}, []int{2, 1, 0}},
	} {
		kids := []impl.Kid{kid(1), kid(100), kid(5000)}[:c.kids]
		want := impl.Run{Out: 1, Regs: []int{6, 7, 8, 9}, Things: startThings()}
		for _, i := range c.turn {
			cell := want.Things.Cells[0]*2 + []int{1, 100, 5000}[i]
			want.Things.Cells[0], want.Regs[i] = cell, cell
		}
		ahead := codeOf(t, "set 0 6; set 1 7; set 2 8; set 3 9")
		got := serial(t, impl.Prog{Code: append(ahead, aFork), Kids: kids}, c.order, startThings())
		if !alikeRun(got, want) {
			t.Errorf("%d kids in order %v: %v, not %v", c.kids, c.order, got, want)
		}
		// In the middle of code what is behind the fork works with what the kids left.
		behind := codeOf(t, "write 5 0; read 3 0; bump 3; write 0 1")
		got = serial(t, impl.Prog{Code: slices.Concat(ahead, []impl.Op{aFork}, behind), Kids: kids}, c.order, startThings())
		cell := want.Things.Cells[0]
		want.Regs[3], want.Things.Cells[5], want.Things.Cells[0], want.Things.Count = cell, want.Regs[0], want.Regs[1], 3+cell
		if !alikeRun(got, want) {
			t.Errorf("%d kids in order %v in the middle: %v, not %v", c.kids, c.order, got, want)
		}
	}
}

func TestForks(t *testing.T) {
	for _, c := range []struct {
		lines string
		order []int
		want  string
	}{
		// kids without ops hand back register 0
		{"set 0 7; set 1 8; fork; kid", nil, "done 7 8 0 0"},
		{"set 0 7; set 1 8; fork; kid; kid", nil, "done 7 7 0 0"},
		{"set 0 7; set 1 8; set 3 9; fork; kid; kid; kid", nil, "done 7 7 7 9"},
		// each begins with the registers at the fork, not with those that another one left
		{"set 0 7; fork; kid; set 0 9; kid", nil, "done 9 7 0 0"},
		{"set 0 7; fork; kid; set 0 9; kid", []int{1}, "done 9 7 0 0"},
		{"set 0 7; fork; kid; kid; set 0 9", []int{1, 0}, "done 7 9 0 0"},
		{"set 1 7; fork; kid; set 1 9; kid; add 0 1 1; kid; add 0 1 1", nil, "done 0 14 14 0"},
		// of a kid's registers the first alone is told
		{"set 3 6; fork; kid; set 0 1; set 1 2; set 2 3; set 3 4", nil, "done 1 0 0 6"},
		{"set 3 6; fork; kid; set 1 2; kid; set 1 3; kid; set 3 4", nil, "done 0 0 0 6"},
		// each begins with the cells that the one ahead left
		{"fork; kid; set 1 5; write 0 1; kid; read 0 0", nil, "done 0 5 0 0 c0=5"},
		{"fork; kid; set 1 5; write 0 1; kid; read 0 0", []int{1}, "done 0 10 0 0 c0=5"},
		{"fork; kid; set 1 5; write 0 1; kid; set 1 6; write 0 1; kid; read 0 0", nil, "done 0 0 6 0 c0=6"},
		{"fork; kid; set 1 5; write 0 1; kid; set 1 6; write 0 1; kid; read 0 0", []int{1}, "done 0 0 5 0 c0=5"},
		{"fork; kid; set 1 5; write 0 1; kid; set 1 6; write 0 1; kid; read 0 0", []int{2, 1}, "done 0 0 10 0 c0=5"},
		{"fork; kid; set 1 5; write 0 1; kid; set 1 6; write 1 1; kid; set 1 7; write 2 1", []int{2, 0, 1}, "done 0 0 0 0 c0=5 c1=6 c2=7"},
		// what was written ahead of the fork is there
		{"set 1 5; write 0 1; fork; kid; read 0 0", nil, "done 5 5 0 0 c0=5"},
		// one that gives up leaves nothing, and 0
		{"set 0 7; set 1 8; fork; kid; abort", nil, "done 0 8 0 0"},
		{"set 0 7; set 1 8; fork; kid; kid; set 0 9; write 0 0; abort", nil, "done 7 0 0 0"},
		{"set 0 7; fork; kid; set 0 9; write 0 0; abort; kid; read 0 0", nil, "done 0 10 0 0"},
		{"set 0 7; fork; kid; set 0 9; write 0 0; kid; set 0 8; write 0 0; write 1 0; abort; kid; read 0 0", nil, "done 9 0 9 0 c0=9"},
		{"set 0 7; fork; kid; set 0 9; write 0 0; kid; set 0 8; write 0 0; write 1 0; abort; kid; read 0 0", []int{1, 2}, "done 9 0 10 0 c0=9"},
		{"fork; kid; abort; kid; abort; kid; abort", nil, "done 0 0 0 0"},
		{"set 3 1; fork; bump 3; kid; abort", nil, "done 0 0 0 1 n=4"},
		// one that gives up a block goes on
		{"set 0 7; fork; kid; begin 1; set 0 9; write 0 0; abort; end; write 1 1; kid; read 0 0", nil, "done 7 10 0 0 c1=0"},
		{"set 0 7; fork; kid; begin 0; write 0 0; end", nil, "done 1 0 0 0 c0=7"},
		{"set 0 7; fork; kid; begin 0; write 0 0; abort; end", nil, "done 0 0 0 0"},
		// blocks, map and counter around a fork stay as they are
		{"set 0 7; put 0 0 0; bump 0; fork; kid; set 0 9", nil, "done 9 0 0 0 m0=8"},
		{"set 0 7; put 0 0 1; bump 0; fork; kid; set 0 9; abort", nil, "done 0 0 0 0 m0=8 n=10"},
		{"begin 3; set 0 7; write 0 0; end; fork; begin 2; write 1 0; abort; end; kid; read 0 0", nil, "done 7 0 0 1 c0=7"},
		{"begin 3; set 0 7; write 0 0; abort; end; fork; kid; read 0 0", nil, "done 10 0 0 0"},
		{"fork; begin 3; set 0 7; write 0 0; abort; end; kid; set 0 5; write 0 0", nil, "done 5 0 0 0 c0=5"},
		{"fork; skip 1 1; abort; kid; set 0 5; kid; set 0 6; abort", nil, "done 5 0 0 0"},
		{"fork; skip 0 1; abort; kid; set 0 5; write 0 0; kid", nil, "aborted 5 0 0 0"},
	} {
		tells(t, c.lines, c.order, c.want)
	}
}

// wrongOrders are not right for a program with so many kids.
func wrongOrders(kids int) [][]int {
	l := [][]int{{-1}, {kids}, {kids + 1}, {math.MinInt}, {math.MaxInt}, {0, 0}, {kids, kids}, {0, 1, 2, 3}, {0, 1, 2, 0}}
	for i := range kids {
		l = append(l, []int{i, i}, []int{i, -1}, []int{-1, i}, []int{i, kids}, []int{kids, i})
		for k := range kids {
			if i != k {
				l = append(l, []int{i, k, i}, []int{i, k, k}, []int{i, k, kids}, []int{i, k, -1})
			}
		}
	}
	return l
}

// forked has so many kids, and a fork if there are any.
func forked(t *testing.T, kids int) impl.Prog {
	lines := "set 0 5; bump 0; write 1 0"
	if kids > 0 {
		lines += "; fork" + strings.Repeat("; kid; read 0 1; add 0 0 0; write 1 0", kids)
	}
	return progOf(t, lines)
}

func TestSerialRefusesWrongOrders(t *testing.T) {
	for kids := range 4 {
		for _, order := range wrongOrders(kids) {
			if run := serial(t, forked(t, kids), order, startThings()); !alikeRun(run, impl.Run{}) {
				t.Errorf("%d kids in order %v: %v", kids, order, run)
			}
		}
		for _, order := range [][]int{nil, {}, fromUp(kids)} {
			if run := serial(t, forked(t, kids), order, startThings()); run.Out != impl.OutDone {
				t.Errorf("%d kids in order %v: %v", kids, order, run)
			}
		}
	}
	// A fork that is never come to does not make its order right.
	for _, lines := range []string{"abort; fork; kid; kid", "skip 0 1; fork; kid; kid"} {
		if run := serial(t, progOf(t, lines), []int{2}, startThings()); !alikeRun(run, impl.Run{}) {
			t.Errorf("%s with an order that is not right: %v", lines, run)
		}
	}
}

func fromUp(n int) []int {
	l := []int{}
	for i := range n {
		l = append(l, i)
	}
	return l
}

func TestSerialRefusesLongOrders(t *testing.T) {
	long := slices.Repeat([]int{0, 1, 2}, 400000)
	if run := impl.Serial(forked(t, 3), long, startThings()); !alikeRun(run, impl.Run{}) {
		t.Errorf("a long order: %v", run)
	}
}

func wrongProgs() []impl.Prog {
	l := []impl.Prog{
		{Code: sketch("b")}, {Code: sketch("e")}, {Code: sketch("eb")}, {Code: sketch("f")}, {Kids: []impl.Kid{{}}}, {Code: sets(25)},
		{Code: sketch("bfe"), Kids: kidsOf(1, nil)}, {Code: sketch("ff"), Kids: kidsOf(1, nil)}, {Code: sketch("f"), Kids: kidsOf(4, nil)},
		{Code: sketch("f"), Kids: kidsOf(1, sets(25))}, {Code: sketch("f"), Kids: kidsOf(1, sketch("f"))}, {Code: sketch("1be")}, {Code: sketch("2.")},
		{Code: sketch("b1e.")},
	}
	for _, o := range wrongOps() {
		l = append(l, impl.Prog{Code: []impl.Op{o}}, impl.Prog{Code: []impl.Op{aSet, o, aSet}}, impl.Prog{Code: sketch("f"), Kids: kidsOf(2, []impl.Op{o})})
		l = append(l, impl.Prog{Code: []impl.Op{{Kind: impl.OpAbort}, o}}, impl.Prog{Code: []impl.Op{aSkip(1), o}})
	}
	for _, o := range touchOps() {
		l = append(l, impl.Prog{Code: sketch("f"), Kids: []impl.Kid{{}, {Code: []impl.Op{o}}}})
	}
	for _, p := range someProgs() {
		if !plainProg(p) {
			l = append(l, p)
		}
	}
	return l
}

func TestSerialRefuses(t *testing.T) {
	for _, p := range wrongProgs() {
		for _, s := range []impl.Things{startThings(), {}} {
			for _, order := range [][]int{nil, {0}, {9}} {
				if run := serial(t, p, order, s); !alikeRun(run, impl.Run{}) {
					t.Errorf("Serial of a wrong program %v is %v", p, run)
				}
			}
		}
	}
	for _, s := range wrongThings() {
		for _, lines := range []string{"", "set 0 1", "write 0 0; drop 0 0", "abort", "begin 0; abort; end", "fork; kid; abort"} {
			if run := serial(t, progOf(t, lines), nil, s); !alikeRun(run, impl.Run{}) {
				t.Errorf("Serial of %s on wrong things %v is %v", lines, s, run)
			}
		}
	}
}

func TestSerialOfEachThings(t *testing.T) {
	for _, s := range rightThings() {
		for _, lines := range []string{"", "abort", "read 0 7; read 1 0; get 2 2; count 3", "set 3 65535; put 0 3 0; drop 7 1; put 2 1 2; bump 3; write 7 0; write 0 2"} {
			if run := serial(t, progOf(t, lines), nil, s); run.Out == impl.OutNone || !impl.ThingsOk(run.Things) {
				t.Errorf("Serial of %s on %v is %v", lines, s, run)
			}
		}
		if run := serial(t, impl.Prog{}, nil, s); run.Out != impl.OutDone || !slices.Equal(run.Regs, make([]int, 4)) || !alikeThings(run.Things, s) {
			t.Errorf("no ops on %v leave %v", s, run)
		}
	}
}

func TestSerialKid(t *testing.T) {
	for _, c := range []struct{ lines, want string }{
		{"", "done 1 2 3 4"},
		{"set 0 9", "done 9 2 3 4"},
		{"add 0 3 3; sub 1 0 3; less 2 0 1; set 3 65535", "done 8 4 0 65535"},
		{"read 0 7; write 0 0", "done 65535 2 3 4 c0=65535"},
		{"write 7 3; write 0 0", "done 1 2 3 4 c0=1 c7=4"},
		{"begin 0; write 0 1; end", "done 1 2 3 4 c0=2"},
		{"begin 3; write 0 1; end", "done 1 2 3 1 c0=2"},
		{"begin 3; write 0 1; set 1 9; abort; end", "done 1 2 3 0"},
		{"begin 3; write 0 1; set 1 9; abort; write 1 1; end; write 2 2", "done 1 2 3 0 c2=3"},
		{"write 0 2; begin 3; write 0 1; abort; end", "done 1 2 3 0 c0=3"},
		{"begin 3; begin 2; write 0 1; end; abort; end", "done 1 2 3 0"},
		{"begin 3; begin 2; write 0 1; abort; end; end", "done 1 2 0 1"},
		{"abort", "aborted 1 2 3 4"},
		{"set 0 9; abort", "aborted 9 2 3 4"},
		{"write 0 1; set 3 8; abort; set 3 9", "aborted 1 2 3 8"},
		{"write 0 1; begin 0; write 1 1; abort; end; abort", "aborted 0 2 3 4"},
		{"write 0 1; begin 3; write 1 1; end; abort", "aborted 1 2 3 1"},
		{"skip 0 1; abort", "aborted 1 2 3 4"},
		{"set 0 0; skip 0 1; abort", "done 0 2 3 4"},
		{"set 0 0; skip 0 3; begin 0; abort; end; write 0 3", "done 0 2 3 4 c0=4"},
	} {
		code, s := codeOf(t, c.lines), startThings()
		out, regs, cells := serialKid(t, code, []int{1, 2, 3, 4}, s.Cells)
		if want := runOf(t, c.want, s); out != want.Out || !slices.Equal(regs, want.Regs) || !slices.Equal(cells, want.Things.Cells) {
			t.Errorf("SerialKid of %s: %d %v %v, not %v", c.lines, out, regs, cells, want)
		}
	}
}

func TestSerialKidRefuses(t *testing.T) {
	none := func(code []impl.Op, regs, cells []int) {
		t.Helper()
		if out, r, c := serialKid(t, code, regs, cells); out != 0 || len(r) != 0 || len(c) != 0 {
			t.Errorf("SerialKid(%v, %v, %v) is %d %v %v", code, regs, cells, out, r, c)
		}
	}
	regs, cells := []int{1, 2, 3, 4}, startThings().Cells
	for _, o := range slices.Concat(wrongOps(), touchOps(), []impl.Op{aFork}) {
		for _, code := range [][]impl.Op{{o}, {aSet, o, aSet}, {{Kind: impl.OpAbort}, o}, {aBegin, o, anEnd}} {
			none(code, regs, cells)
		}
	}
	for _, s := range []string{"b", "e", "eb", "f", ".f", "2.", "1be"} {
		none(sketch(s), regs, cells)
	}
	none(sets(25), regs, cells)
	codes := []string{"", "set 0 1", "abort", "begin 0; abort; end", "write 0 0; read 1 7"}
	for _, lines := range codes {
		for _, wrong := range wrongRegs() {
			none(codeOf(t, lines), wrong, cells)
		}
		for _, wrong := range wrongThings() {
			if len(wrong.Cells) != 8 || slices.Min(wrong.Cells) < 0 || slices.Max(wrong.Cells) > 65535 {
				none(codeOf(t, lines), regs, wrong.Cells)
			}
		}
		none(codeOf(t, lines), nil, nil)
		none(codeOf(t, lines), cells, regs)
		for _, right := range rightRegs() {
			for _, s := range rightThings() {
				if out, r, c := serialKid(t, codeOf(t, lines), right, s.Cells); out == 0 || len(r) != 4 || len(c) != 8 {
					t.Errorf("SerialKid of %s, %v, %v is refused", lines, right, s.Cells)
				}
			}
		}
	}
}

// A kid's code does in a program what it does as a kid.
func TestSerialKidIsSerial(t *testing.T) {
	pick := picker(97531)
	for range 3000 {
		code := pickRight(pick, 1+pick(24), false)
		out, regs, cells := serialKid(t, code, make([]int, 4), startThings().Cells)
		run := serial(t, impl.Prog{Code: code}, nil, startThings())
		if out != run.Out || !slices.Equal(regs, run.Regs) || !slices.Equal(cells, run.Things.Cells) {
			t.Fatalf("%v is %d %v %v as a kid, %v as a program", code, out, regs, cells, run)
		}
	}
}

func TestSerialAll(t *testing.T) {
	double := progOf(t, "read 0 0; add 0 0 0; write 0 0; count 1; bump 1; put 0 0 2")
	give := progOf(t, "set 3 7; write 0 3; drop 1 0; put 0 3 0; bump 3; abort")
	two := progOf(t, "fork; kid; read 0 0; write 1 0; kid; set 0 9; write 0 0")
	start := startThings()
	for _, c := range []struct {
		progs  []impl.Prog
		orders []impl.Order
		runs   []string // of each the change is from the start on
		end    string
	}{
		{nil, nil, nil, "done 0 0 0 0"},
		{[]impl.Prog{{}}, []impl.Order{{}}, []string{"done 0 0 0 0"}, "done 0 0 0 0"},
		{[]impl.Prog{double}, []impl.Order{{}}, []string{"done 20 3 0 0 c0=20 n=6 m0=21"}, "done 0 0 0 0 c0=20 n=6 m0=21"},
		{
			[]impl.Prog{double, double, double}, make([]impl.Order, 3),
			[]string{"done 20 3 0 0 c0=20 n=6 m0=21", "done 40 6 21 0 c0=40 n=12 m0=41", "done 80 12 41 0 c0=80 n=24 m0=81"},
			"done 0 0 0 0 c0=80 n=24 m0=81",
		},
		{
			[]impl.Prog{double, give, double}, make([]impl.Order, 3),
			[]string{"done 20 3 0 0 c0=20 n=6 m0=21", "aborted 21 0 0 7 c0=20 n=6 m0=21", "done 40 6 21 0 c0=40 n=12 m0=41"},
			"done 0 0 0 0 c0=40 n=12 m0=41",
		},
		{[]impl.Prog{give}, make([]impl.Order, 1), []string{"aborted 0 0 0 7"}, "done 0 0 0 0"},
		{
			[]impl.Prog{give, give, double, give}, make([]impl.Order, 4),
			[]string{"aborted 0 0 0 7", "aborted 0 0 0 7", "done 20 3 0 0 c0=20 n=6 m0=21", "aborted 21 0 0 7 c0=20 n=6 m0=21"},
			"done 0 0 0 0 c0=20 n=6 m0=21",
		},
		{
			[]impl.Prog{two, double, two}, []impl.Order{{Kids: []int{1}}, {}, {Kids: []int{0, 1}}},
			[]string{"done 9 9 0 0 c0=9 c1=9", "done 18 3 0 0 c0=18 c1=9 n=6 m0=19", "done 18 9 0 0 c0=9 c1=18 n=6 m0=19"},
			"done 0 0 0 0 c0=9 c1=18 n=6 m0=19",
		},
	} {
		runs, end := serialAll(t, c.progs, c.orders, start)
		if len(runs) != len(c.runs) || !alikeThings(end, runOf(t, c.end, start).Things) {
			t.Errorf("SerialAll(%v) is %v %v", c.progs, runs, end)
			continue
		}
		for i, run := range runs {
			if want := runOf(t, c.runs[i], start); !alikeRun(run, want) {
				t.Errorf("SerialAll(%v): run %d is %v, not %v", c.progs, i, run, want)
			}
		}
	}
}

func TestSerialAllRefuses(t *testing.T) {
	none := func(l []impl.Prog, orders []impl.Order, s impl.Things) {
		t.Helper()
		if runs, end := serialAll(t, l, orders, s); len(runs) != 0 || !alikeThings(end, impl.Things{}) {
			t.Errorf("SerialAll(%v, %v, %v) is %v %v", l, orders, s, runs, end)
		}
	}
	progs := []impl.Prog{forked(t, 0), forked(t, 2), progOf(t, "abort"), forked(t, 3)}
	orders := []impl.Order{{}, {Kids: []int{1}}, {}, {Kids: []int{2, 0}}}
	for n := range len(progs) + 1 {
		for m := range len(orders) + 1 {
			if n != m {
				none(progs[:n], orders[:m], startThings())
			}
		}
		none(progs[:n], append(slices.Clone(orders[:n]), impl.Order{}), startThings())
		for _, s := range wrongThings() {
			none(progs[:n], orders[:n], s)
		}
		if runs, _ := serialAll(t, progs[:n], orders[:n], startThings()); len(runs) != n {
			t.Errorf("%d programs have %d runs", n, len(runs))
		}
	}
	for i := range progs {
		for _, wrong := range wrongProgs() {
			l := slices.Clone(progs)
			l[i] = wrong
			none(l, orders, startThings())
		}
		for _, wrong := range wrongOrders(len(progs[i].Kids)) {
			l := slices.Clone(orders)
			l[i] = impl.Order{Kids: wrong}
			none(progs, l, startThings())
		}
	}
}

// picker tells numbers below a bound, by a rule.
func picker(seed uint32) func(below int) int {
	return func(below int) int {
		seed = seed*1664525 + 1013904223
		return int(seed>>8) % below
	}
}

// pickRight is right code of up to so many ops without a fork; with or without ops on map and counter.
func pickRight(pick func(int) int, most int, all bool) []impl.Op {
	number := func() int { return []int{0, 1, 2, 3, 100, 65534, 65535}[pick(7)] }
	reg := func() int { return pick(4) }
	kinds := []int{1, 1, 2, 3, 4, 5, 5, 6, 6, 7, 7, 7, 8, 8, 8, 9, 9}
	if all {
		kinds = append(kinds, 12, 12, 12, 13, 13, 14, 14, 15, 15, 15, 16)
	}
	if pick(3) > 0 {
		kinds = append(kinds, 10)
	}
	var code []impl.Op
	open := 0
	for len(code)+open < most {
		o := impl.Op{Kind: kinds[pick(len(kinds))]}
		switch o.Kind {
		case 1:
			o.A, o.B = reg(), number()
		case 2, 3, 4:
			o.A, o.B, o.C = reg(), reg(), reg()
		case 5, 13:
			o.A, o.B = reg(), pick(8)
		case 6, 14:
			o.A, o.B = pick(8), reg()
		case 7:
			o.A, o.B = reg(), 1+pick(5)
		case 8:
			o.A = reg()
			if len(code)+open+2 > most {
				continue
			}
			open++
		case 9:
			if open == 0 {
				continue
			}
			open--
		case 12:
			o.A, o.B, o.C = pick(8), reg(), reg()
		case 15, 16:
			o.A = reg()
		}
		code = append(code, o)
	}
	code = append(code, slices.Repeat([]impl.Op{anEnd}, open)...)
	for i, o := range code {
		if o.Kind == 7 && (i+1+o.B > len(code) || !plainWhole(code[i+1:i+1+o.B])) {
			code[i] = impl.Op{Kind: 5, A: o.A, B: o.B}
		}
	}
	return code
}

// pickThings are right things with numbers at bounds among them.
func pickThings(pick func(int) int) impl.Things {
	s := impl.Things{Count: []int{0, 1, 65535, pick(65536)}[pick(4)]}
	for range 8 {
		s.Cells = append(s.Cells, []int{0, 1, 65535, pick(65536)}[pick(4)])
		s.Map = append(s.Map, []int{0, 1, 65535, 65536, pick(65537)}[pick(5)])
	}
	return s
}

// pickProg is a right program, and an order that is right for it.
func pickProg(pick func(int) int) (impl.Prog, []int) {
	p := impl.Prog{Code: pickRight(pick, 1+pick(23), true)}
	if pick(2) == 0 {
		return p, nil
	}
	at := pick(len(p.Code) + 1)
	if with := withOp(p.Code, at, aFork); plainCode(with) {
		p.Code = with
	} else {
		p.Code = append(p.Code, aFork)
	}
	var order []int
	for range 1 + pick(3) {
		p.Kids = append(p.Kids, impl.Kid{Code: pickRight(pick, pick(12), false)})
	}
	for range pick(5) {
		if kid := pick(len(p.Kids)); !slices.Contains(order, kid) {
			order = append(order, kid)
		}
	}
	return p, order
}

func TestManyRuns(t *testing.T) {
	pick := picker(13579)
	outs := map[int]int{}
	forks := 0
	for range 30000 {
		p, order := pickProg(pick)
		run := serial(t, p, order, pickThings(pick))
		if run.Out == 0 || !impl.ThingsOk(run.Things) || !plainRegs(run.Regs) {
			t.Fatalf("Serial(%v, %v) is %v", p, order, run)
		}
		outs[run.Out]++
		if len(p.Kids) > 0 {
			forks++
		}
	}
	if outs[1] < 5000 || outs[2] < 2000 || forks < 10000 {
		t.Errorf("outcomes are %v, of %d forks", outs, forks)
	}
}

func TestManyRunsOneBehindTheOther(t *testing.T) {
	pick := picker(112233)
	for range 2000 {
		var l []impl.Prog
		var orders []impl.Order
		for range pick(9) {
			p, order := pickProg(pick)
			l, orders = append(l, p), append(orders, impl.Order{Kids: order})
		}
		s := pickThings(pick)
		runs, end := serialAll(t, l, orders, s)
		if len(runs) != len(l) {
			t.Fatalf("%d programs have %d runs", len(l), len(runs))
		}
		for i, run := range runs {
			if alone := impl.Serial(l[i], orders[i].Kids, s); !alikeRun(run, alone) {
				t.Fatalf("program %d of %v is %v, alone %v", i, l, run, alone)
			}
			if run.Out == impl.OutAborted && !alikeThings(run.Things, s) {
				t.Fatalf("program %d of %v was given up and left %v", i, l, run)
			}
			s = run.Things
		}
		if !alikeThings(end, s) {
			t.Fatalf("%v ends with %v, its last run with %v", l, end, s)
		}
	}
}

func TestSerialAllOfManyPrograms(t *testing.T) {
	one := progOf(t, "set 0 1; bump 0; read 1 0; add 1 1 0; write 0 1")
	const many = 70000
	runs, end := impl.SerialAll(slices.Repeat([]impl.Prog{one}, many), make([]impl.Order, many), startThings())
	if len(runs) != many || end.Count != (3+many)%65536 || end.Cells[0] != (10+many)%65536 {
		t.Errorf("%d runs end with %v", len(runs), end)
	}
}

// Promise 7, on picked code: a block with an abort behind all its ops is worth no more than a set of its register, whatever is in it and around it.
func TestBlockGivenUpLeavesItsRegister(t *testing.T) {
	pick := picker(8642)
	for range 20000 {
		ahead, in, behind := pickRight(pick, pick(8), true), pickRight(pick, pick(8), true), pickRight(pick, pick(6), true)
		reg, s := pick(4), pickThings(pick)
		begin, abort := impl.Op{Kind: impl.OpBegin, A: reg}, impl.Op{Kind: impl.OpAbort}
		with := slices.Concat(ahead, []impl.Op{begin}, in, []impl.Op{abort, anEnd}, behind)
		without := slices.Concat(ahead, []impl.Op{{Kind: impl.OpSet, A: reg}}, behind)
		a, b := serial(t, impl.Prog{Code: with}, nil, s), serial(t, impl.Prog{Code: without}, nil, s)
		if a.Out == 0 || !alikeRun(a, b) {
			t.Fatalf("%v is %v, not %v", with, a, b)
		}
	}
}

// Promise 7, on picked programs: with an abort behind all its ops nothing is left but the registers, kids or not.
func TestProgramGivenUpLeavesNothing(t *testing.T) {
	pick := picker(11111)
	for range 10000 {
		p, order := pickProg(pick)
		s := pickThings(pick)
		if len(p.Code) == 24 {
			continue
		}
		through := impl.Serial(p, order, s)
		p.Code = append(p.Code, impl.Op{Kind: impl.OpAbort})
		run := serial(t, p, order, s)
		if run.Out != impl.OutAborted || !slices.Equal(run.Regs, through.Regs) || !alikeThings(run.Things, s) {
			t.Fatalf("%v on %v is %v", p, s, run)
		}
	}
}

// All code of up to five ops out of these, right or not.
func TestSerialOfAllShortCode(t *testing.T) {
	ops := []impl.Op{
		{Kind: impl.OpSet, A: 0, B: 1}, {Kind: impl.OpBegin, A: 0}, anEnd, {Kind: impl.OpAbort}, {Kind: impl.OpSkip, A: 0, B: 1},
		{Kind: impl.OpSkip, A: 0, B: 2}, {Kind: impl.OpPut, A: 1, B: 0, C: 2}, {Kind: impl.OpBump, A: 0}, {Kind: impl.OpWrite, A: 0, B: 0},
	}
	right := 0
	codes := [][]impl.Op{nil}
	for at := 0; at < len(codes); at++ {
		if run := serial(t, impl.Prog{Code: codes[at]}, nil, startThings()); run.Out != 0 {
			right++
		}
		if len(codes[at]) == 5 {
			continue
		}
		for _, o := range ops {
			codes = append(codes, append(slices.Clone(codes[at]), o))
		}
	}
	if right < 5000 {
		t.Errorf("%d of %d codes are right", right, len(codes))
	}
}
