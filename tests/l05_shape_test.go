package tests

import (
	"math"
	"slices"
	"testing"

	"loop.example/g01277/impl"
)

var (
	aSet   = impl.Op{Kind: impl.OpSet, A: 1, B: 2}
	aBegin = impl.Op{Kind: impl.OpBegin, A: 2}
	anEnd  = impl.Op{Kind: impl.OpEnd}
	aFork  = impl.Op{Kind: impl.OpFork}
)

func aSkip(b int) impl.Op { return impl.Op{Kind: impl.OpSkip, A: 3, B: b} }

// sketch is the code of which each sign is an op: b a begin, e an end, f a fork, . a set, x an op that is not right, a digit a skip of so many.
func sketch(s string) []impl.Op {
	var code []impl.Op
	for _, sign := range s {
		switch sign {
		case 'b':
			code = append(code, aBegin)
		case 'e':
			code = append(code, anEnd)
		case 'f':
			code = append(code, aFork)
		case '.':
			code = append(code, aSet)
		case 'x':
			code = append(code, impl.Op{Kind: impl.OpSet, A: 4})
		default:
			code = append(code, aSkip(int(sign-'0')))
		}
	}
	return code
}

// badFields is the code with fields that no op may have: only the kinds are as they were.
func badFields(code []impl.Op) []impl.Op {
	code = slices.Clone(code)
	for i := range code {
		code[i].A, code[i].B, code[i].C = -1, math.MinInt, math.MaxInt
	}
	return code
}

func sets(n int) []impl.Op { return slices.Repeat([]impl.Op{aSet}, n) }

// withOp is the code with one op put in at place i.
func withOp(code []impl.Op, i int, o impl.Op) []impl.Op {
	return slices.Insert(slices.Clone(code), i, o)
}

// count tells how many ops of the kind there are.
func count(code []impl.Op, kind int) int {
	n := 0
	for _, o := range code {
		if o.Kind == kind {
			n++
		}
	}
	return n
}

// Each of the plain ones takes the chapter's words one by one, and counts anew at each place.

func plainDepth(code []impl.Op, i int) int {
	if i < 0 {
		return 0
	}
	if i > len(code) {
		i = len(code)
	}
	return count(code[:i], 8) - count(code[:i], 9)
}

func plainEnd(code []impl.Op, i int) int {
	if i < 0 || i >= len(code) || code[i].Kind != 8 {
		return -1
	}
	for k := i; k < len(code); k++ {
		if count(code[i:k+1], 9) == count(code[i:k+1], 8) {
			return k
		}
	}
	return -1
}

// plainWhole: no beginning has more ends than begins, and the whole as many.
func plainWhole(code []impl.Op) bool {
	for n := range len(code) + 1 {
		if count(code[:n], 9) > count(code[:n], 8) {
			return false
		}
	}
	return count(code, 9) == count(code, 8)
}

func plainCode(code []impl.Op) bool {
	if len(code) > 24 || !plainWhole(code) || count(code, 11) > 1 {
		return false
	}
	for i, o := range code {
		if !plainOp(o) {
			return false
		}
		if o.Kind == 7 && (i+1+o.B > len(code) || !plainWhole(code[i+1:i+1+o.B])) {
			return false
		}
		if o.Kind == 11 && plainDepth(code, i) != 0 {
			return false
		}
	}
	return true
}

func plainKid(code []impl.Op) bool {
	for _, kind := range []int{11, 12, 13, 14, 15, 16} {
		if count(code, kind) > 0 {
			return false
		}
	}
	return plainCode(code)
}

func plainProg(p impl.Prog) bool {
	if !plainCode(p.Code) || len(p.Kids) > 3 || (count(p.Code, 11) == 1) != (len(p.Kids) != 0) {
		return false
	}
	for _, kid := range p.Kids {
		if !plainKid(kid.Code) {
			return false
		}
	}
	return true
}

// rooms are what may lie in the spare room behind a code: what would end a block, begin one, be a fork, or make up for a skip that is too long.
func rooms() [][]impl.Op {
	return [][]impl.Op{
		slices.Repeat([]impl.Op{anEnd}, 22),
		append([]impl.Op{aFork, aBegin}, sets(20)...),
		sets(22),
		slices.Repeat([]impl.Op{{Kind: -5, A: -6, B: -7, C: -8}}, 22),
	}
}

// roomed asks of a code with each of the spare rooms behind it, and with none; the answer must be the same, and nothing may have been written.
func roomed[R comparable](t *testing.T, name string, code []impl.Op, ask func([]impl.Op) R) R {
	t.Helper()
	want := ask(slices.Clip(slices.Clone(code)))
	for _, room := range rooms() {
		all := append(slices.Clone(code), room...)
		before := slices.Clone(all)
		if got := ask(all[:len(code)]); got != want {
			t.Errorf("%s of %v is %v with a spare room behind it, else %v", name, code, got, want)
		}
		if !slices.Equal(all, before) {
			t.Errorf("%s of %v wrote into what it was given", name, code)
		}
	}
	return want
}

func depthAt(t *testing.T, code []impl.Op, i int) int {
	t.Helper()
	return roomed(t, "DepthAt", code, func(c []impl.Op) int { return impl.DepthAt(c, i) })
}

func endOf(t *testing.T, code []impl.Op, i int) int {
	t.Helper()
	return roomed(t, "EndOf", code, func(c []impl.Op) int { return impl.EndOf(c, i) })
}

func codeOk(t *testing.T, code []impl.Op) bool {
	t.Helper()
	return roomed(t, "CodeOk", code, impl.CodeOk)
}

func kidOk(t *testing.T, code []impl.Op) bool {
	t.Helper()
	return roomed(t, "KidOk", code, impl.KidOk)
}

func hasFork(t *testing.T, code []impl.Op) bool {
	t.Helper()
	return roomed(t, "HasFork", code, impl.HasFork)
}

func copyProg(p impl.Prog) impl.Prog {
	q := impl.Prog{Code: slices.Clone(p.Code), Kids: slices.Clone(p.Kids)}
	for i := range q.Kids {
		q.Kids[i].Code = slices.Clone(q.Kids[i].Code)
	}
	return q
}

// roomyProg is the program with spare room behind each of its lists; all of it, room too, is handed out a second time as what to look at.
func roomyProg(p impl.Prog, room []impl.Op) (impl.Prog, impl.Prog) {
	all := copyProg(p)
	all.Code = append(all.Code, room...)
	all.Kids = append(all.Kids, impl.Kid{Code: sets(2)}, impl.Kid{Code: room})
	q := impl.Prog{Code: all.Code[:len(p.Code)], Kids: all.Kids[:len(p.Kids)]}
	for i := range q.Kids {
		whole := append(slices.Clone(p.Kids[i].Code), room...)
		q.Kids[i].Code = whole[:len(p.Kids[i].Code)]
	}
	return q, all
}

// whole is the program with the spare room of its Kids' codes taken in.
func whole(p impl.Prog) impl.Prog {
	q := impl.Prog{Code: slices.Clone(p.Code), Kids: slices.Clone(p.Kids)}
	for i := range q.Kids {
		c := q.Kids[i].Code
		q.Kids[i].Code = slices.Clone(c[:cap(c)])
	}
	return q
}

func alikeProg(a, b impl.Prog) bool {
	alike := func(a, b impl.Kid) bool { return slices.Equal(a.Code, b.Code) }
	return slices.Equal(a.Code, b.Code) && slices.EqualFunc(a.Kids, b.Kids, alike)
}

func progOk(t *testing.T, p impl.Prog) bool {
	t.Helper()
	want := impl.ProgOk(copyProg(p))
	for _, room := range rooms() {
		q, all := roomyProg(p, room)
		before := whole(all)
		if got := impl.ProgOk(q); got != want {
			t.Errorf("ProgOk of %v is %v with a spare room behind it, else %v", p, got, want)
		}
		if !alikeProg(whole(all), before) {
			t.Errorf("ProgOk of %v wrote into what it was given", p)
		}
	}
	return want
}

// sameProg asks both ways round.
func sameProg(t *testing.T, a, b impl.Prog) bool {
	t.Helper()
	want := impl.SameProg(copyProg(a), copyProg(b))
	for i, room := range rooms() {
		p, allP := roomyProg(a, room)
		q, allQ := roomyProg(b, rooms()[(i+1)%len(rooms())])
		beforeP, beforeQ := whole(allP), whole(allQ)
		if there, back := impl.SameProg(p, q), impl.SameProg(q, p); there != want || back != want {
			t.Errorf("SameProg of %v and %v is %v, and %v the other way round, else %v", a, b, there, back, want)
		}
		if !alikeProg(whole(allP), beforeP) || !alikeProg(whole(allQ), beforeQ) {
			t.Errorf("SameProg of %v and %v wrote into what it was given", a, b)
		}
	}
	return want
}

// sketches are all of up to most of these signs behind each other.
func sketches(signs string, most int) []string {
	l := []string{""}
	for at := 0; at < len(l); at++ {
		if len(l[at]) == most {
			continue
		}
		for _, sign := range signs {
			l = append(l, l[at]+string(sign))
		}
	}
	return l
}

// touchOps are right ops of each kind that touches the map or the counter.
func touchOps() []impl.Op {
	return []impl.Op{
		{Kind: impl.OpPut, A: 7, B: 3, C: 3}, {Kind: impl.OpPut}, {Kind: impl.OpGet, A: 3, B: 7}, {Kind: impl.OpGet},
		{Kind: impl.OpDrop, A: 7, B: 3}, {Kind: impl.OpDrop}, {Kind: impl.OpBump, A: 3}, {Kind: impl.OpBump},
		{Kind: impl.OpCount, A: 3}, {Kind: impl.OpCount},
	}
}

// plainOps are right ops of each kind that stands anywhere, and touches neither map nor counter.
func plainOps() []impl.Op {
	return []impl.Op{
		{Kind: impl.OpSet, A: 3, B: 65535}, {Kind: impl.OpAdd, A: 1, B: 2, C: 3}, {Kind: impl.OpSub, A: 3, B: 3, C: 3},
		{Kind: impl.OpLess}, {Kind: impl.OpRead, A: 3, B: 7}, {Kind: impl.OpWrite, A: 7, B: 3}, {Kind: impl.OpAbort},
	}
}

// wrongOps are ops that are not right, of kinds that there are and that there are not.
func wrongOps() []impl.Op {
	return []impl.Op{
		{}, {Kind: -1}, {Kind: 17}, {Kind: math.MinInt}, {Kind: math.MaxInt},
		{Kind: impl.OpSet, A: 4}, {Kind: impl.OpSet, B: 65536}, {Kind: impl.OpSet, C: 1}, {Kind: impl.OpAdd, C: -1},
		{Kind: impl.OpRead, B: 8}, {Kind: impl.OpWrite, A: 8}, {Kind: impl.OpAbort, A: 1}, {Kind: impl.OpFork, C: 1},
		{Kind: impl.OpPut, A: 8}, {Kind: impl.OpGet, B: 8}, {Kind: impl.OpDrop, B: 4}, {Kind: impl.OpBump, A: 4}, {Kind: impl.OpCount, B: 1},
		{Kind: impl.OpSkip}, {Kind: impl.OpSkip, B: -1}, {Kind: impl.OpSkip, B: 21}, {Kind: impl.OpSkip, A: 4, B: 1},
		{Kind: impl.OpSkip, B: math.MaxInt}, {Kind: impl.OpSkip, B: math.MinInt}, {Kind: impl.OpSkip, B: 1, C: 1},
	}
}

func TestShapeConstants(t *testing.T) {
	if impl.MaxCode != 24 || impl.MaxKids != 3 {
		t.Error("limits are", impl.MaxCode, impl.MaxKids)
	}
}

func TestDepthAtOfEachPlace(t *testing.T) {
	for _, c := range []struct {
		code string
		want []int // from place 0 on, that behind the last op too
	}{
		{"", []int{0}},
		{".", []int{0, 0}},
		{"b", []int{0, 1}},
		{"e", []int{0, -1}},
		{"be", []int{0, 1, 0}},
		{"eb", []int{0, -1, 0}},
		{"bbee", []int{0, 1, 2, 1, 0}},
		{"eebb", []int{0, -1, -2, -1, 0}},
		{"be.be", []int{0, 1, 0, 0, 1, 0}},
		{"eee", []int{0, -1, -2, -3}},
		{".b2b.f.ex.", []int{0, 0, 1, 1, 2, 2, 2, 2, 1, 1, 1}},
		{"ebbeeeb", []int{0, -1, 0, 1, 0, -1, -2, -1}},
	} {
		code := sketch(c.code)
		for _, code := range [][]impl.Op{code, badFields(code)} {
			for i, want := range c.want {
				if got := depthAt(t, code, i); got != want {
					t.Errorf("DepthAt(%s, %d) is %d, not %d", c.code, i, got, want)
				}
			}
			for _, i := range []int{-1, -2, -len(code), math.MinInt, math.MinInt + 1} {
				if got := depthAt(t, code, i); got != 0 {
					t.Errorf("DepthAt(%s, %d) is %d, not 0", c.code, i, got)
				}
			}
			all := c.want[len(c.want)-1]
			for _, i := range []int{len(code) + 1, len(code) + 2, 2*len(code) + 3, math.MaxInt - 1, math.MaxInt} {
				if got := depthAt(t, code, i); got != all {
					t.Errorf("DepthAt(%s, %d) is %d, not %d", c.code, i, got, all)
				}
			}
		}
	}
}

// No kind but those of a begin and an end counts, be it one that there is or not.
func TestDepthAtOfEachKind(t *testing.T) {
	for _, kind := range opKinds {
		want := 0
		if kind == impl.OpBegin {
			want = 2
		}
		if kind == impl.OpEnd {
			want = -2
		}
		for _, o := range []impl.Op{{Kind: kind}, {Kind: kind, A: -1, B: 8, C: 9}} {
			if got := depthAt(t, []impl.Op{o, o, aBegin}, 2); got != want {
				t.Errorf("behind two ops of kind %d DepthAt is %d, not %d", kind, got, want)
			}
		}
	}
}

func TestEndOfEachPlace(t *testing.T) {
	for _, c := range []struct {
		code string
		want []int // from place 0 on
	}{
		{"", nil},
		{"b", []int{-1}},
		{"e", []int{-1}},
		{"be", []int{1, -1}},
		{"b.e", []int{2, -1, -1}},
		{"eb", []int{-1, -1}},
		{"ebe", []int{-1, 2, -1}},
		{"bbee", []int{3, 2, -1, -1}},
		{"bbe", []int{-1, 2, -1}},
		{"bebe", []int{1, -1, 3, -1}},
		{"bbebee", []int{5, 2, -1, 4, -1, -1}},
		{"bbbeee", []int{5, 4, 3, -1, -1, -1}},
		{"bbbebee", []int{-1, 6, 3, -1, 5, -1, -1}},
		{"beee", []int{1, -1, -1, -1}},
		{"beeb", []int{1, -1, -1, -1}},
		{"beebbe", []int{1, -1, -1, -1, 5, -1}},
		{".b1.xf.e.", []int{-1, 7, -1, -1, -1, -1, -1, -1, -1}},
	} {
		code := sketch(c.code)
		for _, code := range [][]impl.Op{code, badFields(code)} {
			for i, want := range c.want {
				if got := endOf(t, code, i); got != want {
					t.Errorf("EndOf(%s, %d) is %d, not %d", c.code, i, got, want)
				}
			}
			for _, i := range []int{-1, -2, -len(code), math.MinInt, len(code), len(code) + 1, len(code) + 2, math.MaxInt} {
				if i == 0 {
					continue
				}
				if got := endOf(t, code, i); got != -1 {
					t.Errorf("EndOf(%s, %d) is %d where there is no op", c.code, i, got)
				}
			}
		}
	}
}

// An op of another kind has no end, and ends nothing.
func TestEndOfEachKind(t *testing.T) {
	for _, kind := range opKinds {
		for _, o := range []impl.Op{{Kind: kind}, {Kind: kind, A: -1, B: 8, C: 9}} {
			want := -1
			if kind == impl.OpBegin {
				want = 1
			}
			if got := endOf(t, []impl.Op{o, anEnd, anEnd}, 0); got != want {
				t.Errorf("the end of an op of kind %d is %d, not %d", kind, got, want)
			}
			want = 2
			if kind == impl.OpBegin {
				want = 3
			}
			if kind == impl.OpEnd {
				want = 1
			}
			if got := endOf(t, []impl.Op{aBegin, o, anEnd, anEnd}, 0); got != want {
				t.Errorf("the end of a block with an op of kind %d is %d, not %d", kind, got, want)
			}
		}
	}
}

// Code that is longer than right code may be is asked too, with as many blocks in one another as the document's limits name.
func TestEndOfDeepBlocks(t *testing.T) {
	const deep = 65536
	code := slices.Concat(slices.Repeat([]impl.Op{aBegin}, deep), slices.Repeat([]impl.Op{anEnd}, deep))
	for _, i := range []int{0, 1, 24, 25, deep / 2, deep - 1} {
		if got, want := impl.EndOf(code, i), 2*deep-1-i; got != want {
			t.Errorf("the end of deep block %d is %d, not %d", i, got, want)
		}
		if got := impl.EndOf(code[:2*deep-1-i], i); got != -1 {
			t.Errorf("deep block %d without its end ends at %d", i, got)
		}
		if got, want := impl.DepthAt(code, 2*deep-i), i; got != want {
			t.Errorf("the depth ahead of place %d is %d", 2*deep-i, got)
		}
	}
}

func TestCodeOkOfLengths(t *testing.T) {
	if !impl.CodeOk(nil) || !impl.CodeOk([]impl.Op{}) {
		t.Error("no code is refused")
	}
	for n := range 60 {
		if got := codeOk(t, sets(n)); got != (n <= 24) {
			t.Errorf("CodeOk of %d ops is %v", n, got)
		}
	}
	blocks := slices.Concat(slices.Repeat([]impl.Op{aBegin}, 12), slices.Repeat([]impl.Op{anEnd}, 12))
	if !codeOk(t, blocks) || codeOk(t, withOp(blocks, 12, aSet)) || codeOk(t, withOp(blocks, 24, aSet)) {
		t.Error("twelve blocks in one another, and one op more")
	}
	if codeOk(t, slices.Concat([]impl.Op{aBegin}, blocks, []impl.Op{anEnd})) {
		t.Error("thirteen blocks in one another are taken")
	}
}

func TestCodeOkOfEachRightOp(t *testing.T) {
	for _, o := range slices.Concat(plainOps(), touchOps()) {
		for _, code := range [][]impl.Op{sketch("."), sketch("b.e.be"), sketch("2be."), sets(23)} {
			for i := range len(code) + 1 {
				with := withOp(code, i, o)
				if got, want := codeOk(t, with), plainCode(with); got != want {
					t.Errorf("CodeOk(%v) is %v", with, got)
				}
			}
		}
	}
}

func TestCodeOkRefusesWrongOps(t *testing.T) {
	for _, o := range wrongOps() {
		for _, code := range [][]impl.Op{nil, sketch("."), sketch("b.be.e.be"), sketch("f..be"), sets(23)} {
			for i := range len(code) + 1 {
				if with := withOp(code, i, o); codeOk(t, with) {
					t.Errorf("CodeOk(%v) is true", with)
				}
			}
		}
	}
	for _, code := range []string{"be", "bbee", "f.be", "..b.e"} {
		for i := range len(code) {
			wrong := sketch(code)
			wrong[i].C = 1
			if codeOk(t, wrong) {
				t.Errorf("CodeOk(%v) is true", wrong)
			}
		}
	}
}

func TestCodeOkOfBlocks(t *testing.T) {
	right := []string{"be", "b.e", "bbee", "bebe", "b.b.e.e", "bbebee", ".be.be.", "bbbeee", "bbebebee"}
	for _, s := range right {
		code := sketch(s)
		if !codeOk(t, code) {
			t.Errorf("CodeOk(%s) is false", s)
		}
		for i := range len(code) + 1 {
			if codeOk(t, withOp(code, i, anEnd)) {
				t.Errorf("CodeOk(%s) is true with one end more at %d", s, i)
			}
			if codeOk(t, withOp(code, i, aBegin)) {
				t.Errorf("CodeOk(%s) is true with one begin more at %d", s, i)
			}
		}
	}
	for _, s := range []string{
		"e", "b", "eb", "ebe", "eeb", "ebbe", ".e", "e.", "beeb", "be.eb", "bee", "bbe", "bb", "ee", "eebb", "bebeeb", "bbeeeb", "b.", "bbeb", "beb",
	} {
		if codeOk(t, sketch(s)) {
			t.Errorf("CodeOk(%s) is true", s)
		}
	}
}

func TestCodeOkOfSkips(t *testing.T) {
	for s, want := range map[string]bool{
		// to the length, and one beyond it
		"1": false, "1.": true, "2.": false, "2..": true, "3..": false, ".1": false, "..3...": true, "..4...": false, "9": false,
		// over whole blocks
		"2be": true, "2be.": true, "3be.": true, "3b.e": true, "4bbee": true, "4bebe": true, "6.be.be": true, "b2bee": true, "b2.2bebe": false,
		// into the middle of one
		"1be": false, "1bbee": false, "2bbee": false, "3bbee": false, "2b.e": false, "2.be": false, "3bebe": false, "5.be.be": false, "1b.e": false, "b1bee": false,
		// up to one, without its begin
		"1.be": true, "1.bbee": true, "3be.be": true,
		// out of one: over its end, over its end and the next one's begin
		"b1e": false, "b1e.": false, "b2.e": false, "b2.e.": false, "b2ebe": false, "b3ebe.": false, "bb2eebe": false,
		"b1ebe": false, "b4.ebee": false, "b2ebee": false, "bb1ee": false, "bb2ebee": false, "bb3e.bee": false,
		// as deep behind it as ahead, by way of outside
		"b2eb.e": false, "b3e.b.e": false, "b4e..b.e": false, "b3.eb.e": false, "bb2ebe.e": false,
		// up to the end of the block in which it is
		"b1.e": true, "b2..e": true, "b3..e": false, "bb1.ee": true, "bb2.ee": false, "b3be.e": true, "b4be.e": false,
		// beside and over each other
		"2.1.": true, "21..": true, "31...": true, "22...": true, "321...": true, "32be.": true, "32be..": true, "42be.": true, "412be": true, "22be": false, "21be": false, "3.2be": false,
		// where the one goes far enough, and another one doesn't
		"51.be.": true, "52.be.": false, "53.be.": true, "54.be..": true, "25.be.": false, "31be": false, "41bee": false, "7b2.be.e": false, "6b3.be.e": false, "7b3.be.e": true,
		// with a fork
		"1f": true, "2f.": true, "f1.": true, "1.f": true, "2.f": true, "1.bfe": false,
	} {
		code := sketch(s)
		if got := codeOk(t, code); got != want || plainCode(code) != want {
			t.Errorf("CodeOk(%s) is %v, and by the words %v, not %v", s, got, plainCode(code), want)
		}
	}
}

// The greatest skips there are, each with just as many ops behind it, one less and one more.
func TestCodeOkOfLongSkips(t *testing.T) {
	for b := 1; b <= 22; b++ {
		for ahead := 0; ahead <= 3; ahead++ {
			for behind := 0; behind <= 23-ahead; behind++ {
				code := slices.Concat(sets(ahead), []impl.Op{aSkip(b)}, sets(behind))
				if got, want := codeOk(t, code), b <= 20 && behind >= b; got != want {
					t.Errorf("a skip of %d with %d ops ahead and %d behind is %v", b, ahead, behind, got)
				}
			}
		}
	}
	whole := slices.Concat([]impl.Op{aSkip(20), aBegin}, sets(18), []impl.Op{anEnd})
	if !codeOk(t, whole) || codeOk(t, withOp(whole, 20, aSet)) || codeOk(t, withOp(whole, 1, aSet)) || !codeOk(t, withOp(whole, 21, aSet)) {
		t.Error("a skip of 20 over one block")
	}
}

func TestCodeOkOfForks(t *testing.T) {
	for s, want := range map[string]bool{
		"f": true, ".f": true, "f.": true, "bef": true, "fbe": true, "befbe": true, "bfe": false, "b.fe": false, "bf.e": false, "bbfee": false,
		"bbefe": false, "bfbee": false, "ff": false, "f.f": false, "fbef": false, "fbfe": false, "bfef": false, "bfefbe": false, "fff": false, "efb": false,
	} {
		code := sketch(s)
		if got := codeOk(t, code); got != want || plainCode(code) != want {
			t.Errorf("CodeOk(%s) is %v, and by the words %v, not %v", s, got, plainCode(code), want)
		}
	}
}

// All code out of these ops, held against the chapter's words; and promise 5 of the code that is right.
func TestAllShortCode(t *testing.T) {
	for _, all := range []struct {
		signs string
		most  int
	}{
		{"be.123f", 6}, {"be2", 9}, {"be3", 9}, {"be", 13}, {"be124", 7}, {"bef", 8}, {"b.e1x", 6},
	} {
		right := 0
		for _, s := range sketches(all.signs, all.most) {
			code := sketch(s)
			want := plainCode(code)
			if impl.CodeOk(code) != want {
				t.Fatalf("CodeOk(%s) is %v", s, !want)
			}
			if impl.KidOk(code) != plainKid(code) || impl.HasFork(code) != (count(code, 11) > 0) {
				t.Fatalf("KidOk(%s) is %v, HasFork %v", s, impl.KidOk(code), impl.HasFork(code))
			}
			for i := -1; i <= len(code)+1; i++ {
				if impl.DepthAt(code, i) != plainDepth(code, i) || impl.EndOf(code, i) != plainEnd(code, i) {
					t.Fatalf("of %s at %d DepthAt is %d, EndOf %d", s, i, impl.DepthAt(code, i), impl.EndOf(code, i))
				}
			}
			if want {
				right++
				keepsPromise5(t, code)
			}
		}
		if right < 10 {
			t.Errorf("of %s there is too little right code: %d", all.signs, right)
		}
	}
}

// keepsPromise5 asks of right code what the promise says, and of its skips what they are made right for.
func keepsPromise5(t *testing.T, code []impl.Op) {
	t.Helper()
	ends := map[int]int{}
	for i, o := range code {
		if impl.DepthAt(code, i) < 0 {
			t.Errorf("%v has the depth %d at %d", code, impl.DepthAt(code, i), i)
		}
		k := impl.EndOf(code, i)
		if o.Kind != impl.OpBegin {
			if k != -1 {
				t.Errorf("%v: op %d begins no block, and EndOf is %d", code, i, k)
			}
			continue
		}
		if k <= i || k >= len(code) || code[k].Kind != impl.OpEnd {
			t.Errorf("%v: the block at %d ends at %d", code, i, k)
			continue
		}
		ends[k]++
		ahead := impl.DepthAt(code, i)
		if impl.DepthAt(code, k) != ahead+1 || impl.DepthAt(code, k+1) != ahead {
			t.Errorf("%v: ahead of the block at %d the depth is %d, ahead of its end %d, behind it %d", code, i, ahead, impl.DepthAt(code, k), impl.DepthAt(code, k+1))
		}
		for in := i + 1; in <= k; in++ {
			if impl.DepthAt(code, in) <= ahead {
				t.Errorf("%v: the block at %d is left at %d", code, i, in)
			}
		}
	}
	if impl.DepthAt(code, len(code)) != 0 || len(ends) != count(code, impl.OpEnd) {
		t.Errorf("%v: not each end is that of one block", code)
	}
}

// Long code, picked by a rule: blocks are begun and ended nearly as they should be, skips and forks stand anywhere.
func TestLongCode(t *testing.T) {
	seed := uint32(97531)
	pick := func(below int) int {
		seed = seed*1664525 + 1013904223
		return int(seed>>8) % below
	}
	anyOps := slices.Concat(plainOps(), touchOps())
	right, wrong := 0, 0
	for range 60000 {
		var code []impl.Op
		depth, length := 0, 8+pick(18)
		for len(code) < length {
			switch n := pick(24); {
			case depth > 0 && (n < 5 || length-len(code) <= depth):
				code, depth = append(code, anEnd), depth-1
			case n < 9 && length-len(code) > depth+1:
				code, depth = append(code, aBegin), depth+1
			case n == 9:
				code = append(code, aSkip(1+pick(6)))
			case n == 10 && depth == 0:
				code = append(code, aFork)
			default:
				code = append(code, anyOps[pick(len(anyOps))])
			}
		}
		want := plainCode(code)
		if impl.CodeOk(code) != want || impl.KidOk(code) != plainKid(code) {
			t.Fatalf("CodeOk(%v) is %v, KidOk %v", code, impl.CodeOk(code), impl.KidOk(code))
		}
		if want {
			right++
			keepsPromise5(t, code)
		} else {
			wrong++
		}
	}
	if right < 5000 || wrong < 5000 {
		t.Errorf("%d codes are right, %d wrong", right, wrong)
	}
}

func TestKidOk(t *testing.T) {
	for _, s := range []string{"", ".", "be", "b.be.e", "3b.e.", "1.", "bb1.ee"} {
		code := sketch(s)
		if !kidOk(t, code) {
			t.Errorf("KidOk(%s) is false", s)
		}
		for i := range len(code) + 1 {
			if kidOk(t, withOp(code, i, aFork)) {
				t.Errorf("KidOk(%s) is true with a fork at %d", s, i)
			}
			for _, o := range touchOps() {
				if kidOk(t, withOp(code, i, o)) {
					t.Errorf("KidOk(%s) is true with %v at %d", s, o, i)
				}
			}
			for _, o := range wrongOps() {
				if kidOk(t, withOp(code, i, o)) {
					t.Errorf("KidOk(%s) is true with %v at %d", s, o, i)
				}
			}
		}
	}
	for _, o := range append(touchOps(), aFork) {
		if code := []impl.Op{o}; !codeOk(t, code) || kidOk(t, code) {
			t.Errorf("of %v alone CodeOk is %v, KidOk %v", o, impl.CodeOk(code), impl.KidOk(code))
		}
	}
	for _, o := range plainOps() {
		if !kidOk(t, []impl.Op{o}) || !kidOk(t, []impl.Op{aBegin, o, anEnd}) {
			t.Errorf("KidOk with %v is false", o)
		}
	}
	for _, s := range []string{"b", "e", "eb", "1", "1be", "b2eb.e", "bee"} {
		if kidOk(t, sketch(s)) {
			t.Errorf("KidOk(%s) is true", s)
		}
	}
	if !kidOk(t, sets(24)) || kidOk(t, sets(25)) || !impl.KidOk(nil) {
		t.Error("KidOk of lengths")
	}
}

// kidsOf are as many kids with that code.
func kidsOf(n int, code []impl.Op) []impl.Kid {
	var l []impl.Kid
	for range n {
		l = append(l, impl.Kid{Code: slices.Clone(code)})
	}
	return l
}

func TestProgOkOfKids(t *testing.T) {
	if !impl.ProgOk(impl.Prog{}) || !impl.ProgOk(impl.Prog{Code: []impl.Op{}, Kids: []impl.Kid{}}) {
		t.Error("the program without ops is refused")
	}
	for n := range 8 {
		for _, kid := range []string{"", ".", "b.e"} {
			for s, forks := range map[string]bool{"": false, ".": false, "be": false, "f": true, ".f.": true, "befbe": true, "1f": true} {
				p := impl.Prog{Code: sketch(s), Kids: kidsOf(n, sketch(kid))}
				want := !forks && n == 0 || forks && n >= 1 && n <= 3
				if got := progOk(t, p); got != want {
					t.Errorf("ProgOk(%s) with %d kids is %v", s, n, got)
				}
			}
			for _, s := range []string{"b", "e", "bfe", "ff", "x", "xf", "fx", "1", "f1", "fe", "eb", "f1be", "..........................f"} {
				if progOk(t, impl.Prog{Code: sketch(s), Kids: kidsOf(n, sketch(kid))}) {
					t.Errorf("ProgOk(%s) with %d kids is true", s, n)
				}
			}
		}
	}
}

// One kid whose code is not right, at each place among right ones.
func TestProgOkRefusesWrongKids(t *testing.T) {
	wrong := [][]impl.Op{sketch("f"), sketch("x"), sketch("b"), sketch("e"), sketch("eb"), sketch("1"), sketch("1be"), sketch("bfe"), sets(25)}
	for _, o := range touchOps() {
		wrong = append(wrong, []impl.Op{o}, []impl.Op{aBegin, aSet, o, anEnd})
	}
	for _, o := range wrongOps() {
		wrong = append(wrong, []impl.Op{o})
	}
	for n := 1; n <= 3; n++ {
		for at := range n {
			for _, code := range wrong {
				p := impl.Prog{Code: sketch(".f"), Kids: kidsOf(n, sketch("b.e"))}
				p.Kids[at].Code = code
				if progOk(t, p) {
					t.Errorf("ProgOk(%v) is true", p)
				}
			}
			p := impl.Prog{Code: sketch(".f"), Kids: kidsOf(n, sketch("b.e"))}
			for _, code := range [][]impl.Op{nil, sets(24), plainOps(), sketch("2be")} {
				p.Kids[at].Code = code
				if !progOk(t, p) {
					t.Errorf("ProgOk(%v) is false", p)
				}
			}
		}
	}
}

// A program's own code may touch map and counter, a kid's may not.
func TestProgOkOfEachOp(t *testing.T) {
	for _, o := range slices.Concat(touchOps(), plainOps(), wrongOps()) {
		for _, p := range []impl.Prog{
			{Code: []impl.Op{o}},
			{Code: []impl.Op{aFork, o}, Kids: kidsOf(3, nil)},
			{Code: []impl.Op{aFork}, Kids: []impl.Kid{{}, {Code: []impl.Op{o}}}},
			{Code: []impl.Op{aBegin, o, anEnd}},
		} {
			if got, want := progOk(t, p), plainProg(p); got != want {
				t.Errorf("ProgOk(%v) is %v", p, got)
			}
		}
	}
}

func TestHasFork(t *testing.T) {
	for s, want := range map[string]bool{
		"": false, ".": false, "be": false, "x": false, "1": false, "eb": false,
		"f": true, "ff": true, "bf": true, "bfe": true, "ef": true, "xf": true, "fx": true, "..f": true, "f..": true, "1f": true, "bbbf": true,
	} {
		for _, code := range [][]impl.Op{sketch(s), badFields(sketch(s))} {
			if got := hasFork(t, code); got != want {
				t.Errorf("HasFork(%s) is %v", s, got)
			}
		}
	}
	for _, kind := range opKinds {
		if got := hasFork(t, []impl.Op{{Kind: kind}}); got != (kind == 11) {
			t.Errorf("HasFork of kind %d is %v", kind, got)
		}
	}
	if impl.HasFork(nil) || hasFork(t, sets(100)) || !hasFork(t, append(sets(100), aFork)) {
		t.Error("HasFork of lengths")
	}
}

// someProgs are programs of which no two are the same; right ones, and such as are not.
func someProgs() []impl.Prog {
	some := impl.Prog{Code: sketch("b.ef"), Kids: []impl.Kid{{Code: sketch("..")}, {}, {Code: sketch("1.")}}}
	l := []impl.Prog{{}, some}
	for i := range some.Code {
		for field := range 4 {
			p := copyProg(some)
			turnField(&p.Code[i], field)
			l = append(l, p)
		}
	}
	for i := range some.Kids {
		for k := range some.Kids[i].Code {
			for field := range 4 {
				p := copyProg(some)
				turnField(&p.Kids[i].Code[k], field)
				l = append(l, p)
			}
		}
		p := copyProg(some)
		p.Kids[i].Code = append(p.Kids[i].Code, impl.Op{})
		l = append(l, p)
	}
	for _, turn := range []func(p *impl.Prog){
		func(p *impl.Prog) { p.Code = append(p.Code, impl.Op{}) },
		func(p *impl.Prog) { p.Code = append([]impl.Op{{}}, p.Code...) },
		func(p *impl.Prog) { p.Code = p.Code[:3] },
		func(p *impl.Prog) { p.Code = p.Code[1:] },
		func(p *impl.Prog) { p.Code = nil },
		func(p *impl.Prog) { p.Code[0], p.Code[1] = p.Code[1], p.Code[0] },
		func(p *impl.Prog) { p.Kids = append(p.Kids, impl.Kid{}) },
		func(p *impl.Prog) { p.Kids = append([]impl.Kid{{}}, p.Kids...) },
		func(p *impl.Prog) { p.Kids = p.Kids[:2] },
		func(p *impl.Prog) { p.Kids = p.Kids[:1] },
		func(p *impl.Prog) { p.Kids = p.Kids[1:] },
		func(p *impl.Prog) { p.Kids = nil },
		func(p *impl.Prog) { p.Kids[0], p.Kids[1] = p.Kids[1], p.Kids[0] },
		func(p *impl.Prog) { p.Kids[0].Code = p.Kids[0].Code[:1] },
		func(p *impl.Prog) { p.Kids[0].Code = nil },
		func(p *impl.Prog) { p.Kids[1].Code, p.Kids[2].Code = p.Kids[2].Code, nil },
	} {
		p := copyProg(some)
		turn(&p)
		l = append(l, p)
	}
	return append(l, impl.Prog{Code: []impl.Op{{}}}, impl.Prog{Kids: []impl.Kid{{}}}, impl.Prog{Kids: []impl.Kid{{}, {}}}, impl.Prog{Code: sets(30)}, impl.Prog{Code: sets(31)})
}

func turnField(o *impl.Op, field int) {
	for i, at := range []*int{&o.Kind, &o.A, &o.B, &o.C} {
		if i == field {
			*at += 1000
		}
	}
}

func TestSameProg(t *testing.T) {
	l := someProgs()
	for i, a := range l {
		for k, b := range l {
			if got := sameProg(t, a, b); got != (i == k) {
				t.Errorf("SameProg of %v and %v is %v", a, b, got)
			}
		}
	}
}

func TestSameProgOfEmptyLists(t *testing.T) {
	none := impl.Prog{}
	empty := impl.Prog{Code: []impl.Op{}, Kids: []impl.Kid{}}
	if !impl.SameProg(none, empty) || !impl.SameProg(empty, none) {
		t.Error("an empty list is not the same as none")
	}
	none.Kids = []impl.Kid{{}}
	empty.Kids = []impl.Kid{{Code: []impl.Op{}}}
	if !impl.SameProg(none, empty) || !impl.SameProg(empty, none) {
		t.Error("a kid's empty code is not the same as none")
	}
}
