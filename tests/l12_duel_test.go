package tests

import (
	"math"
	"slices"
	"testing"

	"loop.example/g01277/impl"
)

// Each of the plain ones takes the chapter's words one by one, on the runs themselves, without embedding and without the layers below.

func plainJobs(cells []int, jobs []impl.Job) bool {
	if !plainCells(cells) || len(jobs) > 4 {
		return false
	}
	for _, j := range jobs {
		if len(j.Reads) > 8 || len(j.Puts) > 8 || !plainRows(j.Puts) {
			return false
		}
		for _, cell := range j.Reads {
			if !fromTo(cell, 0, 7) {
				return false
			}
		}
	}
	return true
}

func plainStart(cells []int, jobs []impl.Job) impl.Duel {
	d := impl.Duel{Mem: impl.Mem{Cells: make([]impl.Word, 8)}, Jobs: make([]impl.JobRun, len(jobs))}
	for i, v := range cells {
		d.Mem.Cells[i].Val = v
	}
	return d
}

// plainPick is one pick of a duel of right jobs. The duel that it is given stays as it is.
func plainPick(d impl.Duel, jobs []impl.Job, i int) impl.Duel {
	if i < 0 || i >= len(jobs) {
		return d
	}
	d = copyDuel(d)
	r, j := &d.Jobs[i], jobs[i]
	anew := impl.JobRun{Tries: r.Tries + 1}
	if r.Phase == 0 {
		r.Rv = d.Mem.Clock
		r.Phase = 1
		return d
	}
	if r.Phase == 1 && r.At >= len(j.Reads) && len(j.Puts) == 0 {
		r.Stamp = r.Rv
		r.Phase = 3
		return d
	}
	if r.Phase == 1 && r.At >= len(j.Reads) {
		r.Commit, _ = plainCommitNew(i+1, r.Rv, j.Puts, r.Seen)
		r.Phase = 2
		return d
	}
	if r.Phase == 1 {
		if !r.Busy {
			r.Probe = impl.Probe{Cell: j.Reads[r.At]}
			r.Busy = true
		}
		r.Probe = plainStep(d.Mem, r.Rv, r.Probe)
		if r.Probe.Phase == 3 {
			r.Seen = append(r.Seen, impl.Row{Cell: r.Probe.Cell, Val: r.Probe.Val})
			r.At++
			r.Busy = false
			r.Probe = impl.Probe{}
		}
		if r.Probe.Phase == 4 {
			*r = anew
		}
		return d
	}
	if r.Phase == 2 {
		was := r.Commit.Phase
		d.Mem, r.Commit = plainCommitStep(d.Mem, r.Commit)
		if (was == 2 || was == 3) && r.Commit.Phase == 4 {
			d.Hist = append(d.Hist, impl.Wrote{Stamp: r.Commit.Wv, Who: r.Commit.Who, Puts: slices.Clone(r.Commit.Puts)})
		}
		if r.Commit.Phase == 6 {
			r.Stamp = r.Commit.Wv
			r.Commit = impl.Commit{}
			r.Phase = 3
		}
		if r.Commit.Phase == 8 {
			*r = anew
		}
	}
	return d
}

func plainDuel(cells []int, jobs []impl.Job, picks []int) impl.Duel {
	if !plainJobs(cells, jobs) || len(picks) > 400 {
		return impl.Duel{}
	}
	d := plainStart(cells, jobs)
	for _, i := range picks {
		d = plainPick(d, jobs, i)
	}
	return d
}

func plainOver(d impl.Duel) bool {
	return !slices.ContainsFunc(d.Jobs, func(r impl.JobRun) bool { return r.Phase != 3 })
}

func plainDuelTrue(cells []int, d impl.Duel) bool {
	if !plainCells(cells) || !plainRight(d.Mem) || !plainHist(d.Hist) {
		return false
	}
	for _, r := range d.Jobs {
		if !plainRows(r.Seen) {
			return false
		}
		for _, seen := range r.Seen {
			if plainStateAt(cells, d.Hist, r.Rv)[seen.Cell] != seen.Val {
				return false
			}
		}
	}
	if !plainOver(d) {
		return true
	}
	state := plainStateAt(cells, d.Hist, d.Mem.Clock)
	for i, w := range d.Mem.Cells {
		if w.Val != state[i] {
			return false
		}
	}
	return true
}

func plainInTurn(cells []int, jobs []impl.Job, order []int) []int {
	if !plainJobs(cells, jobs) {
		return nil
	}
	after := slices.Clone(cells)
	for _, i := range order {
		if !fromTo(i, 0, len(jobs)-1) {
			continue
		}
		for _, r := range jobs[i].Puts {
			after[r.Cell] = r.Val
		}
	}
	return after
}

func alikeRunOfJob(a, b impl.JobRun) bool {
	if a.Phase != b.Phase || a.Tries != b.Tries || a.Rv != b.Rv || a.At != b.At || a.Stamp != b.Stamp || a.Busy != b.Busy {
		return false
	}
	return a.Probe == b.Probe && slices.Equal(a.Seen, b.Seen) && alikeCommit(a.Commit, b.Commit)
}

func alikeDuel(a, b impl.Duel) bool {
	return sameMem(a.Mem, b.Mem) && slices.EqualFunc(a.Jobs, b.Jobs, alikeRunOfJob) && alikeHist(a.Hist, b.Hist)
}

func copyDuel(d impl.Duel) impl.Duel {
	d.Mem.Cells, d.Jobs, d.Hist = slices.Clone(d.Mem.Cells), slices.Clone(d.Jobs), copyHist(d.Hist)
	for i, r := range d.Jobs {
		d.Jobs[i].Seen, d.Jobs[i].Commit = slices.Clone(r.Seen), copyCommit(r.Commit)
	}
	return d
}

// rowListsOf and cellListsOf are all lists in a duel that might share memory, their types being alike.
func rowListsOf(d impl.Duel) [][]impl.Row {
	var l [][]impl.Row
	for _, r := range d.Jobs {
		l = append(l, r.Seen, r.Commit.Puts)
	}
	for _, w := range d.Hist {
		l = append(l, w.Puts)
	}
	return l
}

func cellListsOf(d impl.Duel) [][]int {
	var l [][]int
	for _, r := range d.Jobs {
		l = append(l, r.Commit.Reads)
	}
	return l
}

// spoilDuel writes into all that a duel has, its spare room too, and looks whether two of its lists share memory.
func spoilDuel(d impl.Duel) bool {
	alone := apart(cellListsOf(d)...)
	rows := rowListsOf(d)
	for i, l := range rows {
		for k := range l[:cap(l)] {
			l[:cap(l)][k] = impl.Row{Cell: -100 - i, Val: -100 - i}
		}
	}
	for i, l := range rows {
		for _, r := range l[:cap(l)] {
			alone = alone && r == (impl.Row{Cell: -100 - i, Val: -100 - i})
		}
	}
	spoilMem(d.Mem)
	for i := range d.Jobs[:cap(d.Jobs)] {
		d.Jobs[:cap(d.Jobs)][i] = impl.JobRun{Phase: -99}
	}
	for i := range d.Hist[:cap(d.Hist)] {
		d.Hist[:cap(d.Hist)][i] = impl.Wrote{Stamp: -99}
	}
	return alone
}

// roomyJobs are the jobs with another one behind them, and numbers and rows behind the lists of each.
func roomyJobs(jobs []impl.Job) []impl.Job {
	l := append(slices.Clone(jobs), impl.Job{Reads: []int{5}, Puts: logOf(5, 5)})
	for i, j := range l {
		l[i] = impl.Job{Reads: roomy(j.Reads), Puts: roomyRows(j.Puts)}
	}
	return l[:len(jobs)]
}

// wholeJobs is a copy with all the spare room, of the lists too.
func wholeJobs(jobs []impl.Job) []impl.Job {
	l := slices.Clone(jobs[:cap(jobs)])
	for i, j := range l {
		l[i] = impl.Job{Reads: snapshot(j.Reads), Puts: wholeRows(j.Puts)}
	}
	return l
}

func alikeJobs(a, b []impl.Job) bool {
	return slices.EqualFunc(a, b, func(a, b impl.Job) bool {
		return slices.Equal(a.Reads, b.Reads) && slices.Equal(a.Puts, b.Puts)
	})
}

// onJobs asks twice, each time of the same cells, jobs and numbers, and looks whether they or the spare room were written into: by the call, or by ask, which spoils the answer.
func onJobs(t *testing.T, name string, cells []int, jobs []impl.Job, numbers []int, ask func([]int, []impl.Job, []int) bool) {
	t.Helper()
	c, j, n := roomy(cells), roomyJobs(jobs), roomy(numbers)
	lists, before := snapshot(c, n), wholeJobs(j)
	for time := range 2 {
		if !ask(c, j, n) {
			t.Errorf("%s of %v, %v, %v is wrong at time %d", name, cells, jobs, numbers, time)
		}
		if !slices.Equal(snapshot(c, n), lists) || !alikeJobs(wholeJobs(j), before) {
			t.Fatalf("%s of %v, %v, %v wrote into what it was given, or shares memory with it", name, cells, jobs, numbers)
		}
	}
}

func jobsOk(t *testing.T, cells []int, jobs []impl.Job) bool {
	t.Helper()
	var ok bool
	onJobs(t, "JobsOk", cells, jobs, nil, func(cells []int, jobs []impl.Job, _ []int) bool {
		ok = impl.JobsOk(cells, jobs)
		return ok == plainJobs(cells, jobs)
	})
	return ok
}

func duelPlay(t *testing.T, cells []int, jobs []impl.Job, picks []int) impl.Duel {
	t.Helper()
	want := plainDuel(cells, jobs, picks)
	var answer impl.Duel
	onJobs(t, "DuelPlay", cells, jobs, picks, func(cells []int, jobs []impl.Job, picks []int) bool {
		got := impl.DuelPlay(cells, jobs, picks)
		answer = copyDuel(got)
		return spoilDuel(got) && alikeDuel(answer, want)
	})
	return answer
}

// roomyDuel has rows, jobs and entries behind those of a duel.
func roomyDuel(d impl.Duel) impl.Duel {
	d.Mem, _ = marked(d.Mem)
	d.Hist = roomyHist(d.Hist)
	d.Jobs = append(slices.Clone(d.Jobs), impl.JobRun{Phase: 1, Seen: logOf(0, 99)})
	for i, r := range d.Jobs {
		d.Jobs[i].Seen = roomyRows(r.Seen)
		d.Jobs[i].Commit.Puts, d.Jobs[i].Commit.Reads = roomyRows(r.Commit.Puts), roomy(r.Commit.Reads)
	}
	d.Jobs = d.Jobs[:len(d.Jobs)-1]
	return d
}

// wholeDuel is a copy with all the spare room.
func wholeDuel(d impl.Duel) impl.Duel {
	d.Mem.Cells = slices.Clone(d.Mem.Cells[:cap(d.Mem.Cells)])
	d.Hist = wholeHist(d.Hist)
	d.Jobs = slices.Clone(d.Jobs[:cap(d.Jobs)])
	for i, r := range d.Jobs {
		d.Jobs[i].Seen = wholeRows(r.Seen)
		d.Jobs[i].Commit.Puts, d.Jobs[i].Commit.Reads = wholeRows(r.Commit.Puts), snapshot(r.Commit.Reads)
	}
	return d
}

// onDuel asks twice of one duel, and looks whether it or its spare room was written into.
func onDuel(t *testing.T, name string, cells []int, d impl.Duel, ask func([]int, impl.Duel) bool) {
	t.Helper()
	c, given := roomy(cells), roomyDuel(d)
	numbers, before := snapshot(c), wholeDuel(given)
	for time := range 2 {
		if !ask(c, given) {
			t.Errorf("%s of %v, %v is wrong at time %d", name, cells, d, time)
		}
		if !slices.Equal(snapshot(c), numbers) || !alikeDuel(wholeDuel(given), before) {
			t.Fatalf("%s of %v, %v wrote into what it was given", name, cells, d)
		}
	}
}

func duelTrue(t *testing.T, cells []int, d impl.Duel) bool {
	t.Helper()
	var is bool
	onDuel(t, "DuelTrue", cells, d, func(cells []int, d impl.Duel) bool {
		is = impl.DuelTrue(cells, d)
		return is == plainDuelTrue(cells, d)
	})
	return is
}

func duelOver(t *testing.T, d impl.Duel) bool {
	t.Helper()
	var over bool
	onDuel(t, "DuelOver", nil, d, func(_ []int, d impl.Duel) bool {
		over = impl.DuelOver(d)
		return over == plainOver(d)
	})
	return over
}

func jobsInTurn(t *testing.T, cells []int, jobs []impl.Job, order []int) []int {
	t.Helper()
	var answer []int
	onJobs(t, "JobsInTurn", cells, jobs, order, func(cells []int, jobs []impl.Job, order []int) bool {
		got := impl.JobsInTurn(cells, jobs, order)
		answer = slices.Clone(got)
		spoilCells(got)
		return slices.Equal(answer, plainInTurn(cells, jobs, order))
	})
	return answer
}

func aJob(reads []int, puts ...int) impl.Job {
	return impl.Job{Reads: reads, Puts: logOf(puts...)}
}

// times is that pick so many times.
func times(pick, n int) []int {
	return slices.Repeat([]int{pick}, n)
}

// stepsOf is how many steps a job has that nobody disturbs: one to begin, three for each of Reads, one to end them, and those of its commit, which are one for each cell that was read, one to tick, and three for each cell that is put.
func stepsOf(j impl.Job) int {
	steps := 2 + 3*len(j.Reads)
	if len(j.Puts) == 0 {
		return steps
	}
	var read []impl.Row
	for _, cell := range j.Reads {
		read = append(read, impl.Row{Cell: cell})
	}
	return steps + 1 + len(plainNet(read)) + 3*len(plainNet(j.Puts))
}

// writersInTurn are the numbers of those jobs that wrote, by their stamps.
func writersInTurn(jobs []impl.Job, d impl.Duel) []int {
	var order []int
	for i, r := range d.Jobs {
		if r.Phase == impl.JbDone && len(jobs[i].Puts) > 0 {
			order = append(order, i)
		}
	}
	slices.SortFunc(order, func(a, b int) int { return d.Jobs[a].Stamp - d.Jobs[b].Stamp })
	return order
}

// keepsPromise12 takes right cells and jobs, and a moment of their duel. It asks the plain ones, so that it hangs neither on DuelTrue nor on JobsInTurn.
func keepsPromise12(t *testing.T, cells []int, jobs []impl.Job, d impl.Duel) {
	t.Helper()
	for i, r := range d.Jobs {
		state := plainStateAt(cells, d.Hist, r.Rv)
		for k, seen := range r.Seen {
			if len(state) != 8 || state[seen.Cell] != seen.Val || seen.Cell != jobs[i].Reads[k] {
				t.Errorf("of %v job %d has seen %v, the state at its %d is %v: %v", jobs, i, r.Seen, r.Rv, state, d)
			}
		}
		if r.Phase != impl.JbDone {
			continue
		}
		at := slices.IndexFunc(d.Hist, func(w impl.Wrote) bool { return w.Who == i+1 })
		if len(jobs[i].Puts) == 0 && (r.Stamp != r.Rv || at >= 0) {
			t.Errorf("of %v job %d only reads: %v", jobs, i, d)
		}
		if len(jobs[i].Puts) > 0 && (at < 0 || d.Hist[at].Stamp != r.Stamp || !slices.Equal(d.Hist[at].Puts, plainNet(jobs[i].Puts))) {
			t.Errorf("of %v what job %d has put does not stand in the history: %v", jobs, i, d)
		}
		// What a writer has seen is still so just ahead of its stamp: it is as if it had been done whole there.
		for _, seen := range r.Seen {
			if before := plainStateAt(cells, d.Hist, r.Stamp-1); len(jobs[i].Puts) > 0 && before[seen.Cell] != seen.Val {
				t.Errorf("of %v job %d has seen %v, ahead of its stamp the state is %v: %v", jobs, i, r.Seen, before, d)
			}
		}
	}
	if plainOver(d) {
		over := plainInTurn(cells, jobs, writersInTurn(jobs, d))
		for i, w := range d.Mem.Cells {
			if w.Val != over[i] || w.Owner != 0 {
				t.Errorf("%v leave %v, one by one by their stamps %v", jobs, d.Mem, over)
			}
		}
	}
}

// askMoment holds one moment of a play against all that the chapter says of it.
func askMoment(t *testing.T, cells []int, jobs []impl.Job, d impl.Duel) {
	t.Helper()
	keepsPromise12(t, cells, jobs, d)
	if !duelTrue(t, cells, d) {
		t.Errorf("a moment of %v from %v is not true: %v", jobs, cells, d)
	}
	if duelOver(t, d) && !slices.Equal(jobsInTurn(t, cells, jobs, writersInTurn(jobs, d)), plainValues(d.Mem)) {
		t.Errorf("%v leave %v, not what JobsInTurn says in the order %v", jobs, d.Mem, writersInTurn(jobs, d))
	}
}

func plainValues(m impl.Mem) []int {
	var l []int
	for _, w := range m.Cells {
		l = append(l, w.Val)
	}
	return l
}

// askEachBeginning plays each beginning of the picks, and holds it against the one ahead, to which one pick was added.
func askEachBeginning(t *testing.T, cells []int, jobs []impl.Job, picks []int) impl.Duel {
	t.Helper()
	want := plainStart(cells, jobs)
	for n := range len(picks) + 1 {
		if n > 0 {
			want = plainPick(want, jobs, picks[n-1])
		}
		got := impl.DuelPlay(cells, jobs, picks[:n])
		if !alikeDuel(got, want) {
			t.Fatalf("DuelPlay(%v, %v, %v) is %v, not %v", cells, jobs, picks[:n], got, want)
		}
		askMoment(t, cells, jobs, got)
	}
	return duelPlay(t, cells, jobs, picks)
}

// pickJobs are right jobs of up to so many Reads and Puts, in as few cells as meet often.
func pickJobs(pick func(int) int, most int) []impl.Job {
	jobs := make([]impl.Job, 1+pick(4))
	cells := []int{1, 2, 3, 8}[pick(4)]
	for i := range jobs {
		for range pick(most + 1) {
			jobs[i].Reads = append(jobs[i].Reads, pick(cells))
		}
		for range pick(most + 1) {
			jobs[i].Puts = append(jobs[i].Puts, impl.Row{Cell: pick(cells), Val: pick([]int{3, 65536}[pick(2)])})
		}
	}
	return jobs
}

// pickPicks has whole stretches of one job among single steps, and now and then the number of no job.
func pickPicks(pick func(int) int, jobs, n int) []int {
	var picks []int
	for len(picks) < n {
		i := pick(jobs)
		if pick(20) == 0 {
			i = []int{-1, jobs, jobs + 1, math.MinInt, math.MaxInt}[pick(5)]
		}
		picks = append(picks, times(i, 1+pick([]int{1, 3, 12}[pick(3)]))...)
	}
	return picks[:n]
}

func TestDuelConstants(t *testing.T) {
	if impl.MaxJobs != 4 || impl.MaxPicks != 400 {
		t.Error("limits are", impl.MaxJobs, impl.MaxPicks)
	}
	if impl.JbIdle != 0 || impl.JbReads != 1 || impl.JbCommit != 2 || impl.JbDone != 3 {
		t.Error("phases are", impl.JbIdle, impl.JbReads, impl.JbCommit, impl.JbDone)
	}
}

// wrongJobs have one thing that is not right, each in a job that else would be.
func wrongJobs() []impl.Job {
	var l []impl.Job
	for _, n := range []int{-1, -8, 8, 9, math.MinInt, math.MaxInt} {
		l = append(l, aJob([]int{n}), aJob([]int{n, 0, 1}, 1, 2), aJob([]int{0, n, 1}, 1, 2), aJob([]int{0, 7, n}))
		l = append(l, aJob([]int{0, 1, 2, 3, 4, 5, 6, n}))
	}
	for _, n := range []int{9, 10, 16, 300} {
		l = append(l, aJob(times(3, n)), impl.Job{Puts: slices.Repeat(logOf(3, 4), n)}, impl.Job{Puts: longLog(n)})
	}
	for _, r := range wrongRowsAlone() {
		l = append(l, aJob(nil, r.Cell, r.Val), aJob([]int{2}, r.Cell, r.Val, 0, 1), aJob([]int{2}, 0, 1, r.Cell, r.Val))
		l = append(l, aJob(nil, 0, 1, 1, 2, 2, 3, 3, 4, 4, 5, 5, 6, 6, 7, r.Cell, r.Val))
	}
	return append(l, aJob([]int{8}, 8, 65536), impl.Job{Puts: longLog(301)})
}

// rightJobs are jobs at their bounds.
func rightJobs() []impl.Job {
	return []impl.Job{
		{}, {Reads: []int{}, Puts: []impl.Row{}},
		aJob([]int{0}), aJob([]int{7}), aJob([]int{0, 1, 2, 3, 4, 5, 6, 7}), aJob(times(7, 8)), aJob([]int{3, 3}), aJob([]int{7, 0, 7}),
		aJob(nil, 0, 0), aJob(nil, 7, 65535), aJob(nil, 0, 0, 1, 1, 2, 2, 3, 3, 4, 4, 5, 5, 6, 6, 7, 7),
		aJob(nil, 7, 1, 7, 2, 7, 3, 7, 4, 7, 5, 7, 6, 7, 7, 7, 65535), aJob(nil, 5, 9, 5, 9), aJob(nil, 6, 1, 2, 3, 6, 0),
		aJob([]int{7, 6, 5, 4, 3, 2, 1, 0}, 7, 7, 6, 6, 5, 5, 4, 4, 3, 3, 2, 2, 1, 1, 0, 0), aJob([]int{1}, 1, 1), aJob([]int{1, 1, 4}, 4, 0),
	}
}

func TestJobsOkTakesWhatIsRight(t *testing.T) {
	for _, cells := range [][]int{rowValues, make([]int, 8), slices.Repeat([]int{65535}, 8)} {
		if !jobsOk(t, cells, nil) || !jobsOk(t, cells, []impl.Job{}) {
			t.Errorf("no job is refused with %v", cells)
		}
		for _, j := range rightJobs() {
			for n := range 5 {
				if !jobsOk(t, cells, slices.Repeat([]impl.Job{j}, n)) {
					t.Errorf("%d jobs %v are refused with %v", n, j, cells)
				}
			}
		}
	}
}

func TestJobsOkCountsJobs(t *testing.T) {
	for _, j := range rightJobs() {
		for n := range 12 {
			if jobsOk(t, rowValues, slices.Repeat([]impl.Job{j}, n)) != (n <= 4) {
				t.Errorf("%d jobs %v: %v", n, j, n > 4)
			}
		}
	}
	if impl.JobsOk(rowValues, make([]impl.Job, 1000000)) {
		t.Error("very many jobs are taken")
	}
}

func TestJobsOkCountsReadsAndPuts(t *testing.T) {
	for n := range 20 {
		for at := range 4 {
			jobs := []impl.Job{aJob([]int{1}, 2, 3), {}, aJob([]int{1, 2}), aJob(nil, 4, 5)}
			jobs[at].Reads = times(n%8, n)
			if jobsOk(t, rowValues, jobs) != (n <= 8) {
				t.Errorf("%d Reads in job %d: %v", n, at, n > 8)
			}
			jobs[at].Reads = nil
			jobs[at].Puts = longLog(n)
			if jobsOk(t, rowValues, jobs) != (n <= 8) {
				t.Errorf("%d Puts in job %d: %v", n, at, n > 8)
			}
			jobs[at].Reads = times(0, 8)
			if jobsOk(t, rowValues, jobs) != (n <= 8) {
				t.Errorf("%d Puts and eight Reads in job %d: %v", n, at, n > 8)
			}
		}
	}
}

func TestJobsOkRefuses(t *testing.T) {
	for _, j := range wrongJobs() {
		for n := 1; n <= 4; n++ {
			for at := range n {
				jobs := slices.Repeat([]impl.Job{aJob([]int{1}, 2, 3)}, n)
				jobs[at] = j
				if jobsOk(t, rowValues, jobs) {
					t.Errorf("%v are taken", jobs)
				}
			}
		}
	}
	for _, cells := range wrongCells() {
		for _, jobs := range [][]impl.Job{nil, {{}}, {aJob([]int{1}, 2, 3)}, rightJobs()[:4], {wrongJobs()[0]}, make([]impl.Job, 5)} {
			if jobsOk(t, cells, jobs) {
				t.Errorf("%v with %v is taken", jobs, cells)
			}
		}
	}
}

// What is refused by a play is refused by a turn, too: both tell what has nothing in it.
func TestDuelsOfWhatIsNotRight(t *testing.T) {
	none := func(cells []int, jobs []impl.Job, picks []int) {
		t.Helper()
		if d := duelPlay(t, cells, jobs, picks); !alikeDuel(d, impl.Duel{}) {
			t.Errorf("DuelPlay(%v, %v, %v) is %v", cells, jobs, picks, d)
		}
		if l := jobsInTurn(t, cells, jobs, picks); len(l) != 0 {
			t.Errorf("JobsInTurn(%v, %v, %v) is %v", cells, jobs, picks, l)
		}
	}
	for _, picks := range [][]int{nil, {0, 1, 0, 1}, {5, -1}, times(1, 400)} {
		for _, j := range wrongJobs() {
			none(rowValues, []impl.Job{j}, picks)
			none(rowValues, []impl.Job{aJob([]int{1}, 2, 3), j}, picks)
			none(rowValues, []impl.Job{j, {}, aJob([]int{1}, 2, 3)}, picks)
		}
		for _, cells := range wrongCells() {
			none(cells, nil, picks)
			none(cells, []impl.Job{aJob([]int{1}, 2, 3), {}}, picks)
		}
		none(rowValues, make([]impl.Job, 5), picks)
		none(rowValues, slices.Repeat([]impl.Job{aJob([]int{1}, 2, 3)}, 6), picks)
	}
}

// As many picks as there may be are taken, one more is not, be they the number of no job.
func TestDuelPlayCountsPicks(t *testing.T) {
	jobs := []impl.Job{aJob([]int{0, 1}, 0, 9), aJob([]int{0})}
	for _, pick := range []int{0, 1, 2, -1, math.MaxInt} {
		for _, n := range []int{0, 1, 399, 400} {
			d := duelPlay(t, rowValues, jobs, times(pick, n))
			if len(d.Mem.Cells) != 8 || len(d.Jobs) != 2 {
				t.Errorf("%d picks of %d are refused: %v", n, pick, d)
			}
		}
		for _, n := range []int{401, 402, 800, 100000} {
			if d := duelPlay(t, rowValues, jobs, times(pick, n)); !alikeDuel(d, impl.Duel{}) {
				t.Errorf("%d picks of %d are taken: %v", n, pick, d)
			}
		}
	}
	// The very last pick is done.
	full := append(times(2, 400-stepsOf(jobs[0])), times(0, stepsOf(jobs[0]))...)
	if d := duelPlay(t, rowValues, jobs, full); len(full) != 400 || d.Jobs[0].Phase != impl.JbDone {
		t.Errorf("behind 400 picks: %v", d)
	}
	if d := duelPlay(t, rowValues, jobs, full[1:]); d.Jobs[0].Phase != impl.JbDone {
		t.Errorf("behind 399 picks: %v", d)
	}
	if d := duelPlay(t, rowValues, jobs, full[:399]); d.Jobs[0].Phase != impl.JbCommit {
		t.Errorf("one pick ahead of the last one: %v", d)
	}
}

func TestDuelPlayBegins(t *testing.T) {
	for _, cells := range [][]int{rowValues, make([]int, 8)} {
		for n := range 5 {
			jobs := slices.Repeat([]impl.Job{aJob([]int{1}, 2, 3)}, n)
			want := impl.Duel{Mem: fresh(cells), Jobs: make([]impl.JobRun, n)}
			for _, picks := range [][]int{nil, {}, {n}, {-1}, {n, n + 1, 4, 99, -5, math.MinInt, math.MaxInt}} {
				if d := duelPlay(t, cells, jobs, picks); !alikeDuel(d, want) {
					t.Errorf("%d jobs, %v: %v, not %v", n, picks, d, want)
				}
			}
		}
	}
}

func fresh(cells []int) impl.Mem {
	m := impl.Mem{Cells: make([]impl.Word, len(cells))}
	for i, v := range cells {
		m.Cells[i].Val = v
	}
	return m
}

// Picks that are the number of no job may stand anywhere.
func TestPicksOfNoJob(t *testing.T) {
	jobs := []impl.Job{aJob([]int{0, 1}, 0, 9), aJob([]int{0}, 1, 8), aJob([]int{1})}
	picks := []int{0, 1, 2, 0, 0, 1, 1, 1, 2, 2, 0, 1, 2, 0, 0, 1, 1, 1, 0, 1, 0, 1, 0, 1, 2, 2}
	want := duelPlay(t, rowValues, jobs, picks)
	for _, none := range []int{3, 4, -1, -2, 100, math.MinInt, math.MaxInt} {
		var all []int
		for at := range picks {
			if d := duelPlay(t, rowValues, jobs, slices.Insert(slices.Clone(picks), at, none)); !alikeDuel(d, want) {
				t.Errorf("with %d at %d: %v, not %v", none, at, d, want)
			}
			all = append(all, none, picks[at], none)
		}
		if d := duelPlay(t, rowValues, jobs, all); !alikeDuel(d, want) {
			t.Errorf("with %d all between: %v, not %v", none, d, want)
		}
	}
}

// A job alone, each step of it, as worked out by hand.
func TestDuelOfOneJobStepByStep(t *testing.T) {
	jobs := []impl.Job{aJob([]int{6, 0}, 2, 50, 6, 60)}
	mem := fresh(rowValues)
	commit := impl.Commit{Who: 1, Phase: impl.CmLock, Puts: logOf(2, 50, 6, 60), Reads: []int{0, 6}}
	reads := func(at int, busy bool, p impl.Probe, seen ...int) impl.JobRun {
		return impl.JobRun{Phase: impl.JbReads, At: at, Busy: busy, Probe: p, Seen: logOf(seen...)}
	}
	commits := func(phase, at, wv int) impl.JobRun {
		c := inPhase(commit, phase, at)
		c.Wv = wv
		return impl.JobRun{Phase: impl.JbCommit, At: 2, Seen: logOf(6, 0, 0, 100), Commit: c}
	}
	ticked := owned(mem, 1, 2, 6)
	ticked.Clock = 1
	one := withWord(ticked, 2, impl.Word{Val: 50, Owner: 1})
	both := withWord(one, 6, impl.Word{Val: 60, Owner: 1})
	half := withWord(both, 2, impl.Word{Val: 50, Ver: 1})
	free := withWord(half, 6, impl.Word{Val: 60, Ver: 1})
	hist := []impl.Wrote{entry(1, 1, 2, 50, 6, 60)}
	for n, want := range []impl.Duel{
		{Mem: mem, Jobs: []impl.JobRun{{}}},
		{Mem: mem, Jobs: []impl.JobRun{reads(0, false, impl.Probe{})}},
		{Mem: mem, Jobs: []impl.JobRun{reads(0, true, impl.Probe{Cell: 6, Phase: impl.PbVal})}},
		{Mem: mem, Jobs: []impl.JobRun{reads(0, true, impl.Probe{Cell: 6, Phase: impl.PbAgain})}},
		{Mem: mem, Jobs: []impl.JobRun{reads(1, false, impl.Probe{}, 6, 0)}},
		{Mem: mem, Jobs: []impl.JobRun{reads(1, true, impl.Probe{Phase: impl.PbVal}, 6, 0)}},
		{Mem: mem, Jobs: []impl.JobRun{reads(1, true, impl.Probe{Phase: impl.PbAgain, Val: 100}, 6, 0)}},
		{Mem: mem, Jobs: []impl.JobRun{reads(2, false, impl.Probe{}, 6, 0, 0, 100)}},
		{Mem: mem, Jobs: []impl.JobRun{commits(impl.CmLock, 0, 0)}},
		{Mem: owned(mem, 1, 2), Jobs: []impl.JobRun{commits(impl.CmLock, 1, 0)}},
		{Mem: owned(mem, 1, 2, 6), Jobs: []impl.JobRun{commits(impl.CmTick, 0, 0)}},
		{Mem: ticked, Jobs: []impl.JobRun{commits(impl.CmCheck, 0, 1)}},
		{Mem: ticked, Jobs: []impl.JobRun{commits(impl.CmCheck, 1, 1)}},
		{Mem: ticked, Jobs: []impl.JobRun{commits(impl.CmStore, 0, 1)}, Hist: hist},
		{Mem: one, Jobs: []impl.JobRun{commits(impl.CmStore, 1, 1)}, Hist: hist},
		{Mem: both, Jobs: []impl.JobRun{commits(impl.CmFree, 0, 1)}, Hist: hist},
		{Mem: half, Jobs: []impl.JobRun{commits(impl.CmFree, 1, 1)}, Hist: hist},
		{Mem: free, Jobs: []impl.JobRun{{Phase: impl.JbDone, At: 2, Stamp: 1, Seen: logOf(6, 0, 0, 100)}}, Hist: hist},
		{Mem: free, Jobs: []impl.JobRun{{Phase: impl.JbDone, At: 2, Stamp: 1, Seen: logOf(6, 0, 0, 100)}}, Hist: hist},
	} {
		got := duelPlay(t, rowValues, jobs, times(0, n))
		if !alikeDuel(got, want) {
			t.Errorf("behind %d steps: %v, not %v", n, got, want)
		}
		askMoment(t, rowValues, jobs, got)
	}
}

// A job that only reads has no commit and takes no tick: its stamp is its Rv. So do what it may, nobody else sees it.
func TestJobThatOnlyReads(t *testing.T) {
	want := impl.JobRun{Phase: impl.JbDone, At: 3, Seen: logOf(7, 65535, 0, 100, 7, 65535)}
	jobs := []impl.Job{aJob([]int{7, 0, 7})}
	d := duelPlay(t, rowValues, jobs, times(0, 11))
	if !alikeDuel(d, impl.Duel{Mem: fresh(rowValues), Jobs: []impl.JobRun{want}}) || !duelOver(t, d) {
		t.Error("alone", d)
	}
	d = duelPlay(t, rowValues, jobs, times(0, 10))
	want.Phase = impl.JbReads
	if !alikeDuel(d, impl.Duel{Mem: fresh(rowValues), Jobs: []impl.JobRun{want}}) || duelOver(t, d) {
		t.Error("all is read, but not ended", d)
	}

	// Behind a writer its Rv, and so its stamp, is the writer's.
	jobs = []impl.Job{aJob(nil, 7, 1), aJob([]int{7, 0}), aJob(nil, 0, 2)}
	d = duelPlay(t, rowValues, jobs, slices.Concat(times(0, 6), times(1, 8)))
	want = impl.JobRun{Phase: impl.JbDone, Rv: 1, At: 2, Stamp: 1, Seen: logOf(7, 1, 0, 100)}
	if !alikeRunOfJob(d.Jobs[1], want) || d.Mem.Clock != 1 || len(d.Hist) != 1 {
		t.Error("behind a writer", d)
	}

	// Two writers that came to their end since its Rv, in cells that it does not read, do not disturb it: it stays where it was in time.
	jobs = []impl.Job{aJob(nil, 7, 1), aJob([]int{3, 4}), aJob(nil, 0, 2)}
	d = duelPlay(t, rowValues, jobs, slices.Concat(times(1, 4), times(0, 6), times(2, 6), times(1, 4)))
	want = impl.JobRun{Phase: impl.JbDone, At: 2, Seen: logOf(3, 103, 4, 104)}
	if !alikeRunOfJob(d.Jobs[1], want) || d.Mem.Clock != 2 || !duelOver(t, d) || !duelTrue(t, rowValues, d) {
		t.Error("beside writers", d)
	}
}

func TestJobsWithoutReads(t *testing.T) {
	jobs := []impl.Job{aJob(nil, 3, 30), {}}
	d := duelPlay(t, rowValues, jobs, times(0, 2))
	want := impl.JobRun{Phase: impl.JbCommit, Commit: impl.Commit{Who: 1, Phase: impl.CmLock, Puts: logOf(3, 30)}}
	if !alikeRunOfJob(d.Jobs[0], want) {
		t.Error("without Reads", d)
	}
	d = duelPlay(t, rowValues, jobs, times(0, 4))
	if !alikeHist(d.Hist, []impl.Wrote{entry(1, 1, 3, 30)}) || d.Jobs[0].Commit.Phase != impl.CmStore {
		t.Error("from CmTick to CmStore", d)
	}
	d = duelPlay(t, rowValues, jobs, times(0, 6))
	if !alikeRunOfJob(d.Jobs[0], impl.JobRun{Phase: impl.JbDone, Stamp: 1}) || d.Mem.Cells[3] != (impl.Word{Val: 30, Ver: 1}) {
		t.Error("done", d)
	}

	// Without Reads and without Puts there are two steps.
	for n, want := range []impl.JobRun{{}, {Phase: impl.JbReads}, {Phase: impl.JbDone}, {Phase: impl.JbDone}} {
		d := duelPlay(t, rowValues, jobs, times(1, n))
		if !alikeDuel(d, impl.Duel{Mem: fresh(rowValues), Jobs: []impl.JobRun{{}, want}}) {
			t.Errorf("neither, behind %d steps: %v", n, d)
		}
		d = duelPlay(t, rowValues, jobs, append(times(0, 6), times(1, n)...))
		if n > 0 {
			want.Rv = 1
		}
		if n > 1 {
			want.Stamp = 1
		}
		if !alikeRunOfJob(d.Jobs[1], want) || d.Mem.Clock != 1 {
			t.Errorf("neither, behind %d steps behind a writer: %v", n, d)
		}
	}
}

// All of a job's rows of one cell are one cell that is locked, of which the last row counts.
func TestJobsWhosePutsAreAlike(t *testing.T) {
	jobs := []impl.Job{aJob([]int{4, 4, 2}, 5, 1, 3, 2, 5, 3, 5, 4)}
	d := askEachBeginning(t, rowValues, jobs, times(0, 2+9+6+1+2))
	want := impl.JobRun{Phase: impl.JbDone, At: 3, Stamp: 1, Seen: logOf(4, 104, 4, 104, 2, 102)}
	if !alikeRunOfJob(d.Jobs[0], want) || !alikeHist(d.Hist, []impl.Wrote{entry(1, 1, 3, 2, 5, 4)}) {
		t.Error(d)
	}
	if d.Mem.Cells[5] != (impl.Word{Val: 4, Ver: 1}) || d.Mem.Cells[3] != (impl.Word{Val: 2, Ver: 1}) {
		t.Error(d.Mem)
	}
}

// One job reads cells 0 and 1, another one writes both, at each place among the first one's steps. At the beginning it sees what was written, in the middle it is lost.
func TestJobReadsWhatAnotherWrites(t *testing.T) {
	jobs := []impl.Job{aJob([]int{0, 1}), aJob(nil, 0, 50, 1, 51)}
	old, done := logOf(0, 100, 1, 101), impl.JobRun{Phase: impl.JbDone, At: 2}
	for at := range 9 {
		picks := slices.Insert(times(0, 8), at, times(1, 9)...)
		d := askEachBeginning(t, rowValues, jobs, picks)
		want, left := done, 0
		switch {
		case at == 0: // ahead of all
			want.Rv, want.Stamp, want.Seen = 1, 1, logOf(0, 50, 1, 51)
		case at >= 7: // both are read
			want.Seen = old
		case at == 1 || at == 4: // the next cell is newer than Rv where its probe begins
			want, left = impl.JobRun{Tries: 1}, 8-at-1
		case at == 2 || at == 5: // it is newer where it is looked at again
			want, left = impl.JobRun{Tries: 1}, 8-at-2
		default: // the value was taken, and does not count any more
			want, left = impl.JobRun{Tries: 1}, 8-at-1
		}
		if want.Tries == 1 {
			behind := impl.DuelPlay(rowValues, jobs, picks[:len(picks)-left])
			if !alikeRunOfJob(behind.Jobs[0], want) {
				t.Errorf("at %d it is lost: %v", at, behind)
			}
			d = askEachBeginning(t, rowValues, jobs, append(picks, times(0, 8-left)...))
			want = impl.JobRun{Phase: impl.JbDone, Tries: 1, At: 2, Rv: 1, Stamp: 1, Seen: logOf(0, 50, 1, 51)}
		}
		if !alikeRunOfJob(d.Jobs[0], want) || !duelOver(t, d) {
			t.Errorf("at %d: %v, not %v", at, d.Jobs[0], want)
		}
	}
}

// Between two reads of one cell another one writes it: so the second read is lost, and what was seen is given up.
func TestJobReadsACellTwice(t *testing.T) {
	jobs := []impl.Job{aJob([]int{3, 3}, 4, 1), aJob(nil, 3, 9)}
	d := askEachBeginning(t, rowValues, jobs, slices.Concat(times(0, 4), times(1, 6), times(0, 1)))
	if !alikeRunOfJob(d.Jobs[0], impl.JobRun{Tries: 1}) {
		t.Error(d)
	}
	d = askEachBeginning(t, rowValues, jobs, slices.Concat(times(0, 4), times(1, 6), times(0, 14)))
	if !slices.Equal(d.Jobs[0].Seen, logOf(3, 9, 3, 9)) || d.Jobs[0].Stamp != 2 || !duelOver(t, d) {
		t.Error(d)
	}
}

// A probe finds the cell locked by a commit that is on its way: it is lost, be it at its first step or at its last.
func TestProbeThatIsLost(t *testing.T) {
	jobs := []impl.Job{aJob([]int{2, 0}), aJob(nil, 0, 50)}
	lost := impl.JobRun{Tries: 1}
	for _, steps := range []int{3, 4, 5} { // the writer has locked, ticked, stored
		for _, at := range []int{4, 5, 6} { // the first probe is got; the second one is at PbVal, at PbAgain
			picks := slices.Concat(times(0, at), times(1, steps))
			more := []int{1, 2, 1}[at-4]
			d := askEachBeginning(t, rowValues, jobs, append(picks, times(0, more)...))
			if !alikeRunOfJob(d.Jobs[0], lost) {
				t.Errorf("%d steps of the writer behind %d: %v", steps, at, d)
			}
			if more == 2 && !impl.DuelPlay(rowValues, jobs, append(picks, 0)).Jobs[0].Busy {
				t.Errorf("PbVal does not look at the lock: %v", d)
			}
		}
	}
	// As long as the cell is locked it is lost again and again, each time by all of its steps.
	picks := times(1, 3)
	for try := range 7 {
		d := askEachBeginning(t, rowValues, jobs, picks)
		if !alikeRunOfJob(d.Jobs[0], impl.JobRun{Tries: try}) {
			t.Errorf("try %d: %v", try, d.Jobs[0])
		}
		picks = append(picks, times(0, 5)...)
	}
	d := askEachBeginning(t, rowValues, jobs, slices.Concat(picks, times(1, 3), times(0, 8)))
	if want := (impl.JobRun{Phase: impl.JbDone, Tries: 7, Rv: 1, At: 2, Stamp: 1, Seen: logOf(2, 102, 0, 50)}); !alikeRunOfJob(d.Jobs[0], want) {
		t.Error(d.Jobs[0])
	}
}

// A commit fails at its first lock, at a later one, and at a check. The job begins anew once all is given back, and not before.
func TestCommitThatFails(t *testing.T) {
	jobs := []impl.Job{aJob([]int{7}, 1, 11, 3, 13, 5, 15), aJob(nil, 3, 33), aJob(nil, 1, 31), aJob(nil, 7, 37)}
	anew := impl.JobRun{Tries: 1}
	for _, x := range []struct {
		name  string
		picks []int
		back  int // so many steps of job 0 there are up to where it begins anew
	}{
		{"the first lock", slices.Concat(times(0, 5), times(2, 3)), 1},
		{"the second lock", slices.Concat(times(0, 5), times(1, 3)), 3},
		{"a check of a Ver", slices.Concat(times(0, 5), times(3, 6)), 8},
		{"a check of a Ver behind the locks", slices.Concat(times(0, 8), times(3, 6)), 5},
		{"a check of a Ver behind the tick", slices.Concat(times(0, 9), times(3, 6)), 4},
		{"a check of an Owner", slices.Concat(times(0, 9), times(3, 3)), 4},
		{"a check of an Owner that has ticked", slices.Concat(times(0, 9), times(3, 4)), 4},
		{"a check of an Owner that has stored", slices.Concat(times(0, 9), times(3, 5)), 4},
	} {
		d := askEachBeginning(t, rowValues, jobs, append(slices.Clone(x.picks), times(0, x.back-1)...))
		if d.Jobs[0].Phase != impl.JbCommit || d.Jobs[0].Tries != 0 {
			t.Errorf("%s, one step ahead: %v", x.name, d.Jobs[0])
		}
		d = askEachBeginning(t, rowValues, jobs, append(slices.Clone(x.picks), times(0, x.back)...))
		if !alikeRunOfJob(d.Jobs[0], anew) {
			t.Errorf("%s: %v", x.name, d.Jobs[0])
		}
		for cell, w := range d.Mem.Cells {
			if w.Owner == 1 || fromTo(w.Val, 11, 15) {
				t.Errorf("%s leaves %v in cell %d", x.name, w, cell)
			}
		}
		if slices.ContainsFunc(d.Hist, func(w impl.Wrote) bool { return w.Who == 1 }) {
			t.Errorf("%s leaves %v", x.name, d.Hist)
		}
	}
}

// The clock that a failed commit has ticked stays, so the stamps have a gap.
func TestFailedCommitTakesAStamp(t *testing.T) {
	jobs := []impl.Job{aJob([]int{7}, 1, 11), aJob(nil, 7, 37)}
	picks := slices.Concat(times(0, 5), times(1, 6), times(0, 4))
	d := askEachBeginning(t, rowValues, jobs, picks)
	if !alikeRunOfJob(d.Jobs[0], impl.JobRun{Tries: 1}) || d.Mem.Clock != 2 || len(d.Hist) != 1 {
		t.Error("failed", d)
	}
	d = askEachBeginning(t, rowValues, jobs, append(picks, times(0, 10)...))
	want := impl.JobRun{Phase: impl.JbDone, Tries: 1, Rv: 2, At: 1, Stamp: 3, Seen: logOf(7, 37)}
	if !alikeRunOfJob(d.Jobs[0], want) || !alikeHist(d.Hist, []impl.Wrote{entry(1, 2, 7, 37), entry(3, 1, 1, 11)}) {
		t.Error("at the second try", d)
	}
}

// Two that lock the same two cells, each of which has one of them: as each locks by rising cells there is none that waits for the other.
func TestJobsThatWriteTheSameCells(t *testing.T) {
	jobs := []impl.Job{aJob(nil, 0, 1, 5, 1), aJob(nil, 5, 2, 0, 2)}
	for first := range 2 {
		d := askEachBeginning(t, rowValues, jobs, append(times(first, 9), times(1-first, 9)...))
		if !duelOver(t, d) || d.Mem.Cells[0] != (impl.Word{Val: 2 - first, Ver: 2}) || d.Mem.Cells[5] != (impl.Word{Val: 2 - first, Ver: 2}) {
			t.Errorf("%d first: %v", first, d)
		}
		if d.Jobs[first].Stamp != 1 || d.Jobs[1-first].Stamp != 2 || !slices.Equal(writersInTurn(jobs, d), []int{first, 1 - first}) {
			t.Errorf("%d first: %v", first, d)
		}
	}
	// The one that comes later finds the cell locked, and has its turn behind the other.
	d := askEachBeginning(t, rowValues, jobs, slices.Concat(times(0, 3), times(1, 3), times(0, 6), times(1, 9)))
	if !duelOver(t, d) || d.Jobs[0].Tries != 0 || d.Jobs[1].Tries != 1 || d.Mem.Cells[0].Val != 2 {
		t.Error("locked", d)
	}
	// All four write all cells, in turn of each order.
	all := make([]impl.Job, 4)
	for i := range all {
		for cell := range 8 {
			all[i].Puts = append(all[i].Puts, impl.Row{Cell: cell, Val: 1000*i + cell})
		}
	}
	inEveryOrder([]impl.Wrote{{Who: 0}, {Who: 1}, {Who: 2}, {Who: 3}}, 0, func(l []impl.Wrote) {
		var picks []int
		for _, w := range l {
			picks = append(picks, times(w.Who, 27)...)
		}
		d := duelPlay(t, rowValues, all, picks)
		askMoment(t, rowValues, all, d)
		last := l[3].Who
		if !duelOver(t, d) || d.Mem.Cells[7] != (impl.Word{Val: 1000*last + 7, Ver: 4}) || d.Jobs[last].Stamp != 4 {
			t.Errorf("%v: %v", l, d)
		}
	})
}

func TestPicksBehindTheEnd(t *testing.T) {
	jobs := []impl.Job{aJob([]int{0, 1}, 0, 9, 2, 8), aJob([]int{2, 3}), aJob(nil, 1, 5), {}}
	for i, j := range jobs {
		n := stepsOf(j)
		d := duelPlay(t, rowValues, jobs, times(i, n))
		if d.Jobs[i].Phase != impl.JbDone || impl.DuelPlay(rowValues, jobs, times(i, n-1)).Jobs[i].Phase == impl.JbDone {
			t.Errorf("job %d does not end at step %d: %v", i, n, d)
		}
		for _, more := range []int{1, 2, 3, 50, 400 - n} {
			if next := duelPlay(t, rowValues, jobs, times(i, n+more)); !alikeDuel(next, d) {
				t.Errorf("job %d, %d picks behind its end: %v, not %v", i, more, next, d)
			}
		}
	}
}

// All picks up to some length, of two jobs, so each way in which their steps may stand among each other.
func TestAllShortPlays(t *testing.T) {
	for _, x := range []struct {
		jobs []impl.Job
		most int
	}{
		{[]impl.Job{aJob(nil, 0, 50), aJob([]int{0})}, 12},
		{[]impl.Job{aJob(nil, 0, 50), aJob(nil, 0, 60)}, 12},
		{[]impl.Job{aJob([]int{0}, 0, 50), aJob([]int{0})}, 12},
		{[]impl.Job{aJob([]int{0}, 1, 50), aJob([]int{1}, 0, 60)}, 13},
		{[]impl.Job{aJob(nil, 0, 50, 1, 51), aJob([]int{0, 1})}, 13},
		{[]impl.Job{{}, {}}, 6},
		{[]impl.Job{aJob([]int{0}, 1, 50), aJob([]int{0}), aJob(nil, 0, 60)}, 7},
	} {
		var grow func(picks []int, want impl.Duel)
		grow = func(picks []int, want impl.Duel) {
			got := impl.DuelPlay(rowValues, x.jobs, picks)
			if !alikeDuel(got, want) || !impl.DuelTrue(rowValues, got) || impl.DuelOver(got) != plainOver(want) {
				t.Fatalf("DuelPlay(%v, %v, %v) is %v, not %v", rowValues, x.jobs, picks, got, want)
			}
			keepsPromise12(t, rowValues, x.jobs, got)
			for i := range x.jobs {
				if len(picks) < x.most {
					grow(append(slices.Clone(picks), i), plainPick(want, x.jobs, i))
				}
			}
		}
		grow(nil, plainStart(rowValues, x.jobs))
	}
}

func TestEachMomentOfDrawnPlays(t *testing.T) {
	pick := picker(121212)
	over, tries, lost := 0, 0, 0
	for n := range 220 {
		most := []int{1, 2, 3, 8}[n%4]
		jobs := pickJobs(pick, most)
		cells := [][]int{rowValues, make([]int, 8)}[pick(2)]
		d := askEachBeginning(t, cells, jobs, pickPicks(pick, len(jobs), 20*most+pick(40)))
		if plainOver(d) {
			over++
		}
		for _, r := range d.Jobs {
			tries += r.Tries
			lost += min(r.Tries, 1)
		}
	}
	if over < 50 || tries < 100 || lost < 50 {
		t.Errorf("of the plays %d are over, with %d tries of %d jobs: they try too little", over, tries, lost)
	}
}

// Whole plays: behind the drawn picks each job is brought to its end, so that promise 12 is asked of duels that are over.
func TestDrawnPlaysThatAreOver(t *testing.T) {
	pick := picker(212121)
	over, again := 0, 0
	for range 1500 {
		jobs := pickJobs(pick, 1+pick(8))
		picks := pickPicks(pick, len(jobs), pick(170))
		for range 2 { // what is in the way of a job in the first round is done by the second one
			for i := range jobs {
				picks = append(picks, times(i, 28)...)
			}
		}
		picks = append(picks, 9)
		cells := [][]int{rowValues, make([]int, 8)}[pick(2)]
		d := impl.DuelPlay(cells, jobs, picks)
		askMoment(t, cells, jobs, d)
		if plainOver(d) {
			over++
		}
		if slices.ContainsFunc(d.Jobs, func(r impl.JobRun) bool { return r.Tries > 0 }) {
			again++
		}
	}
	if over < 1200 || again < 300 {
		t.Errorf("of the plays %d are over, in %d a job began anew: they try too little", over, again)
	}
}

// aDuel is one that is true and over: two that wrote, one that only read.
func aDuel() impl.Duel {
	jobs := []impl.Job{aJob([]int{0, 1}, 0, 50, 7, 51), aJob([]int{7}), aJob([]int{0}, 1, 60)}
	return impl.DuelPlay(rowValues, jobs, slices.Concat(times(1, 4), times(0, 18), times(2, 11), times(1, 1)))
}

func TestDuelTrueOfWhatWasChanged(t *testing.T) {
	if d := aDuel(); !duelOver(t, d) || !duelTrue(t, rowValues, d) || len(d.Hist) != 2 {
		t.Fatal("the duel is not what it is to be", d)
	}
	for _, x := range []struct {
		name string
		want bool
		turn func(d *impl.Duel)
	}{
		{"nothing", true, func(d *impl.Duel) {}},
		{"the value of the first row", false, func(d *impl.Duel) { d.Jobs[0].Seen[0].Val++ }},
		{"the value of the last row", false, func(d *impl.Duel) { d.Jobs[0].Seen[1].Val-- }},
		{"the value of the last job's row", false, func(d *impl.Duel) { d.Jobs[2].Seen[0].Val = 100 }},
		{"the cell of a row", false, func(d *impl.Duel) { d.Jobs[0].Seen[0].Cell = 2 }},
		{"a row to another right one", true, func(d *impl.Duel) { d.Jobs[0].Seen[0] = impl.Row{Cell: 2, Val: 102} }},
		{"a right row behind", true, func(d *impl.Duel) { d.Jobs[0].Seen = append(d.Jobs[0].Seen, impl.Row{Cell: 5, Val: 105}) }},
		{"a wrong row behind", false, func(d *impl.Duel) { d.Jobs[0].Seen = append(d.Jobs[0].Seen, impl.Row{Cell: 5, Val: 106}) }},
		{"a wrong row ahead of a right one of its cell", false, func(d *impl.Duel) { d.Jobs[0].Seen = logOf(0, 99, 0, 100, 1, 101) }},
		{"a wrong row behind a right one of its cell", false, func(d *impl.Duel) { d.Jobs[0].Seen = logOf(0, 100, 1, 101, 0, 99) }},
		{"all rows taken away", true, func(d *impl.Duel) { d.Jobs[0].Seen, d.Jobs[1].Seen, d.Jobs[2].Seen = nil, nil, nil }},
		{"as many right rows as there may be", true, func(d *impl.Duel) { d.Jobs[1].Seen = slices.Repeat(logOf(3, 103), 300) }},
		{"one more right row than there may be", false, func(d *impl.Duel) { d.Jobs[1].Seen = slices.Repeat(logOf(3, 103), 301) }},
		{"a row of no cell", false, func(d *impl.Duel) { d.Jobs[1].Seen[0].Cell = 8 }},
		{"a row of cell -1", false, func(d *impl.Duel) { d.Jobs[1].Seen[0].Cell = -1 }},
		{"a row of no value", false, func(d *impl.Duel) { d.Jobs[1].Seen[0].Val = 65536 }},
		{"a row of value -1", false, func(d *impl.Duel) { d.Jobs[1].Seen[0].Val = -1 }},
		{"Rv of the first job to its own stamp", false, func(d *impl.Duel) { d.Jobs[0].Rv = 1 }},
		{"Rv of the first job far below", true, func(d *impl.Duel) { d.Jobs[0].Rv = math.MinInt }},
		{"Rv of the reader", false, func(d *impl.Duel) { d.Jobs[1].Rv = 1 }},
		{"Rv of the last job to what is ahead", false, func(d *impl.Duel) { d.Jobs[2].Rv = 0 }},
		{"Rv of the last job far above", true, func(d *impl.Duel) { d.Jobs[2].Rv = math.MaxInt }},
		{"stamps, tries and places, which nobody asks for", true, func(d *impl.Duel) { d.Jobs[0].Stamp, d.Jobs[1].Tries, d.Jobs[2].At = -5, 99, 88 }},
		{"probe and commit, which nobody asks for", true, func(d *impl.Duel) {
			d.Jobs[0].Probe, d.Jobs[0].Commit, d.Jobs[0].Busy = impl.Probe{Cell: 99}, impl.Commit{Who: -1, Puts: logOf(9, 9)}, true
		}},
		{"a value of the memory", false, func(d *impl.Duel) { d.Mem.Cells[4].Val++ }},
		{"a written value of the memory", false, func(d *impl.Duel) { d.Mem.Cells[7].Val = 107 }},
		{"a value of the memory, with a job that is not done", true, func(d *impl.Duel) { d.Mem.Cells[4].Val++; d.Jobs[2].Phase = impl.JbCommit }},
		{"a value of the memory, with a job of a phase that there is none of", true, func(d *impl.Duel) { d.Mem.Cells[0].Val++; d.Jobs[0].Phase = 4 }},
		{"a Ver, which nobody asks for", true, func(d *impl.Duel) { d.Mem.Cells[7].Ver = 0 }},
		{"an Owner, which nobody asks for", true, func(d *impl.Duel) { d.Mem.Cells[7].Owner = 99 }},
		{"a Val that is no value", false, func(d *impl.Duel) { d.Mem.Cells[4].Val = 65536; d.Jobs[2].Phase = impl.JbReads }},
		{"an Owner that there is none of", false, func(d *impl.Duel) { d.Mem.Cells[7].Owner = 100; d.Jobs[2].Phase = impl.JbReads }},
		{"a Ver above the clock", false, func(d *impl.Duel) { d.Mem.Cells[7].Ver = 3; d.Jobs[2].Phase = impl.JbReads }},
		{"a clock below a Ver", false, func(d *impl.Duel) { d.Mem.Clock = 1 }},
		{"a clock below the last stamp, and the Vers", false, func(d *impl.Duel) { d.Mem.Clock = 1; d.Mem.Cells[1].Ver = 1 }},
		{"a clock below the last stamp, and the cell", true, func(d *impl.Duel) { d.Mem.Clock = 1; d.Mem.Cells[1] = impl.Word{Val: 101} }},
		{"a clock above", true, func(d *impl.Duel) { d.Mem.Clock = impl.MaxClock }},
		{"a clock past its bound", false, func(d *impl.Duel) { d.Mem.Clock = impl.MaxClock + 1; d.Jobs[0].Phase = 0 }},
		{"no cells in the memory", false, func(d *impl.Duel) { d.Mem.Cells = nil; d.Jobs[0].Phase = 0 }},
		{"one cell less", false, func(d *impl.Duel) { d.Mem.Cells = d.Mem.Cells[:7]; d.Jobs[0].Phase = 0 }},
		{"entries in another order", true, func(d *impl.Duel) { d.Hist[0], d.Hist[1] = d.Hist[1], d.Hist[0] }},
		{"who wrote, which nobody asks for", true, func(d *impl.Duel) { d.Hist[0].Who = 99 }},
		{"no history", false, func(d *impl.Duel) { d.Hist = nil }},
		{"no first entry", false, func(d *impl.Duel) { d.Hist = d.Hist[1:] }},
		{"no last entry", false, func(d *impl.Duel) { d.Hist = d.Hist[:1] }},
		{"no last entry, with a job that is not done", true, func(d *impl.Duel) { d.Hist = d.Hist[:1]; d.Jobs[2].Phase = impl.JbCommit }},
		{"a later stamp, so that the reader of it is ahead", false, func(d *impl.Duel) { d.Hist[0].Stamp = 3; d.Mem.Clock = 3 }},
		{"an entry above the clock", true, func(d *impl.Duel) { d.Hist = append(d.Hist, entry(3, 1, 4, 4)) }},
		{"an entry at the clock", false, func(d *impl.Duel) { d.Hist = append(d.Hist, entry(3, 1, 4, 4)); d.Mem.Clock = 3 }},
		{"another value that was put", false, func(d *impl.Duel) { d.Hist[1].Puts[0].Val++ }},
		{"two stamps alike", false, func(d *impl.Duel) { d.Hist = append(d.Hist, entry(2, 3)) }},
		{"a stamp 0", false, func(d *impl.Duel) { d.Hist = append(d.Hist, entry(0, 3)) }},
		{"a stamp past its bound", false, func(d *impl.Duel) { d.Hist = append(d.Hist, entry(impl.MaxClock+1, 3)) }},
		{"nobody who wrote", false, func(d *impl.Duel) { d.Hist[1].Who = 0; d.Jobs[2].Phase = impl.JbReads }},
		{"Puts that are not right above the clock", false, func(d *impl.Duel) { d.Hist = append(d.Hist, entry(9, 1, 8, 0)); d.Jobs[2].Phase = impl.JbReads }},
		{"no jobs", true, func(d *impl.Duel) { d.Jobs = nil }},
		{"no jobs, and a value of the memory", false, func(d *impl.Duel) { d.Jobs = nil; d.Mem.Cells[4].Val++ }},
		{"one job alone", true, func(d *impl.Duel) { d.Jobs = d.Jobs[1:2] }},
	} {
		d := aDuel()
		x.turn(&d)
		if duelTrue(t, rowValues, d) != x.want {
			t.Errorf("%s: %v of %v", x.name, !x.want, d)
		}
	}
}

func TestDuelTrueOfWhatIsNotRight(t *testing.T) {
	open := aDuel()
	open.Jobs[0].Phase = impl.JbReads
	bare := impl.Duel{Mem: fresh(rowValues), Jobs: []impl.JobRun{{}}}
	if !duelTrue(t, rowValues, open) || !duelTrue(t, rowValues, bare) {
		t.Error("right ones are refused")
	}
	for _, cells := range wrongCells() {
		for _, d := range []impl.Duel{aDuel(), open, bare, {Mem: fresh(rowValues)}, {}} {
			if duelTrue(t, cells, d) {
				t.Errorf("%v of %v is true", d, cells)
			}
		}
	}
	for _, m := range wrongMems() {
		for _, d := range []impl.Duel{{Mem: m}, {Mem: m, Jobs: []impl.JobRun{{}}}, {Mem: m, Jobs: open.Jobs, Hist: open.Hist}} {
			if duelTrue(t, rowValues, d) {
				t.Errorf("%v is true", d)
			}
		}
	}
	for _, l := range wrongHists() {
		for _, d := range []impl.Duel{{Mem: fresh(rowValues), Hist: l}, {Mem: fresh(rowValues), Jobs: bare.Jobs, Hist: l}} {
			if duelTrue(t, rowValues, d) {
				t.Errorf("%v is true", d)
			}
		}
	}
	for _, r := range wrongRowsAlone() {
		for at := range 3 {
			runs := make([]impl.JobRun, 3)
			runs[at].Seen = []impl.Row{r}
			if duelTrue(t, rowValues, impl.Duel{Mem: fresh(rowValues), Jobs: runs}) {
				t.Errorf("%v in Seen of job %d is true", r, at)
			}
		}
	}
	if impl.DuelTrue(rowValues, impl.Duel{}) || impl.DuelTrue(nil, impl.Duel{}) {
		t.Error("the zero duel is true")
	}
}

// Of a right duel of no job, it is over, so its memory is looked at; other values of the cells are not those that it had.
func TestDuelTrueOfOtherCells(t *testing.T) {
	other := slices.Clone(rowValues)
	other[5]++
	for _, jobs := range [][]impl.Job{nil, {{}}, {aJob([]int{5})}, {aJob(nil, 5, 9)}} {
		picks := times(0, 8)
		d := impl.DuelPlay(rowValues, jobs, picks)
		want := len(jobs) > 0 && len(jobs[0].Puts) > 0 // there the cell is written over
		if !duelTrue(t, rowValues, d) || duelTrue(t, other, d) != want {
			t.Errorf("%v", d)
		}
	}
}

// More jobs than may play are asked for as others are.
func TestDuelTrueOfManyJobs(t *testing.T) {
	d := aDuel()
	for len(d.Jobs) < 500 {
		d.Jobs = append(d.Jobs, impl.JobRun{Phase: impl.JbDone, Rv: 1, Seen: logOf(0, 50, 1, 101)})
	}
	if !duelTrue(t, rowValues, d) || !duelOver(t, d) {
		t.Error("many jobs are not true")
	}
	d.Jobs[499].Seen[1].Val = 60
	if duelTrue(t, rowValues, d) {
		t.Error("the last one of many jobs is not looked at")
	}
	d.Jobs[499] = impl.JobRun{Phase: impl.JbReads}
	if !duelTrue(t, rowValues, d) || duelOver(t, d) {
		t.Error("the last one of many jobs is not done")
	}
}

func TestDuelOverOfAny(t *testing.T) {
	if !duelOver(t, impl.Duel{}) || !duelOver(t, impl.Duel{Jobs: []impl.JobRun{}}) || !duelOver(t, impl.DuelPlay(rowValues, nil, nil)) {
		t.Error("a duel without jobs is not over")
	}
	for _, phase := range []int{math.MinInt, -1, 0, 1, 2, 3, 4, 8, math.MaxInt} {
		for n := 1; n <= 6; n++ {
			for at := range n {
				d := impl.Duel{Jobs: slices.Repeat([]impl.JobRun{{Phase: impl.JbDone}}, n)}
				d.Jobs[at].Phase = phase
				if duelOver(t, d) != (phase == 3) {
					t.Errorf("job %d of %d in phase %d", at, n, phase)
				}
			}
		}
	}
	wrong := impl.Duel{Mem: impl.Mem{Clock: -1}, Jobs: []impl.JobRun{{Phase: impl.JbDone, Tries: -9, Rv: -9, Seen: logOf(9, 9)}}, Hist: []impl.Wrote{{}, {}}}
	if !duelOver(t, wrong) {
		t.Error("nothing but the phases is asked for")
	}
}

func TestJobsInTurn(t *testing.T) {
	cells := []int{1, 2, 3, 4, 5, 6, 7, 8}
	jobs := []impl.Job{aJob([]int{0}, 0, 10, 1, 11), aJob([]int{1, 2}), aJob(nil, 1, 21, 1, 22, 7, 27), aJob(nil, 0, 65535, 7, 0)}
	for _, c := range []struct {
		order []int
		want  []int
	}{
		{nil, cells},
		{[]int{}, cells},
		{[]int{1}, cells},
		{[]int{0}, []int{10, 11, 3, 4, 5, 6, 7, 8}},
		{[]int{2}, []int{1, 22, 3, 4, 5, 6, 7, 27}},
		{[]int{3}, []int{65535, 2, 3, 4, 5, 6, 7, 0}},
		{[]int{0, 2}, []int{10, 22, 3, 4, 5, 6, 7, 27}},
		{[]int{2, 0}, []int{10, 11, 3, 4, 5, 6, 7, 27}},
		{[]int{0, 2, 0}, []int{10, 11, 3, 4, 5, 6, 7, 27}},
		{[]int{2, 0, 2}, []int{10, 22, 3, 4, 5, 6, 7, 27}},
		{[]int{0, 0, 0}, []int{10, 11, 3, 4, 5, 6, 7, 8}},
		{[]int{0, 1, 2, 3}, []int{65535, 22, 3, 4, 5, 6, 7, 0}},
		{[]int{3, 2, 1, 0}, []int{10, 11, 3, 4, 5, 6, 7, 27}},
		{[]int{4, -1, 5}, cells},
		{[]int{math.MinInt, 0, math.MaxInt, 4, 2, -1}, []int{10, 22, 3, 4, 5, 6, 7, 27}},
	} {
		if got := jobsInTurn(t, cells, jobs, c.order); !slices.Equal(got, c.want) {
			t.Errorf("JobsInTurn(%v, %v, %v) is %v, not %v", cells, jobs, c.order, got, c.want)
		}
	}
	if got := jobsInTurn(t, cells, nil, []int{0, 1, -1}); !slices.Equal(got, cells) {
		t.Error("without jobs", got)
	}
	if got := jobsInTurn(t, cells, jobs, append(slices.Repeat([]int{3, 2, 0, 9}, 50000), 2)); !slices.Equal(got, []int{10, 22, 3, 4, 5, 6, 7, 27}) {
		t.Error("a long order", got)
	}
}

func TestJobsInTurnOfDrawnOrders(t *testing.T) {
	pick := picker(121)
	for range 2000 {
		jobs := pickJobs(pick, 8)
		order := make([]int, pick(9))
		for i := range order {
			order[i] = pick(7) - 1
		}
		jobsInTurn(t, rowValues, jobs, order)
	}
}

func TestDuelAnswersStayTheSame(t *testing.T) {
	pick := picker(1212)
	for range 100 {
		jobs := pickJobs(pick, 4)
		picks := pickPicks(pick, len(jobs), pick(200))
		first := impl.DuelPlay(rowValues, jobs, picks)
		truth, turn := impl.DuelTrue(rowValues, first), impl.JobsInTurn(rowValues, jobs, picks)
		for range 5 {
			if !alikeDuel(impl.DuelPlay(rowValues, jobs, picks), first) || impl.DuelTrue(rowValues, first) != truth {
				t.Errorf("%v, %v: another answer", jobs, picks)
			}
			if !slices.Equal(impl.JobsInTurn(rowValues, jobs, picks), turn) || !impl.JobsOk(rowValues, jobs) {
				t.Errorf("%v, %v: another answer", jobs, picks)
			}
		}
	}
}
