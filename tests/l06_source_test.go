package tests

import (
	"fmt"
	"slices"
	"strings"
	"sync"
	"testing"

	"loop.example/g01277/impl"
)

// opWordList are the words in the order of the kinds, from 1 on.
var opWordList = strings.Fields("set add sub less read write skip begin end abort fork put get drop bump count")

// Each of the plain ones below takes the chapter's words one by one.

func plainShowOp(o impl.Op) string {
	if !plainOp(o) {
		return ""
	}
	word := opWordList[o.Kind-1]
	switch word {
	case "add", "sub", "less", "put":
		return fmt.Sprintf("%s %d %d %d", word, o.A, o.B, o.C)
	case "set", "read", "write", "skip", "get", "drop":
		return fmt.Sprintf("%s %d %d", word, o.A, o.B)
	case "begin", "bump", "count":
		return fmt.Sprintf("%s %d", word, o.A)
	}
	return word
}

// opsByText are all right ops there are, each by the text that is made of it.
var opsByText = sync.OnceValue(func() map[string]impl.Op {
	l := map[string]impl.Op{}
	put := func(o impl.Op) {
		if plainOp(o) {
			l[plainShowOp(o)] = o
		}
	}
	for kind := 1; kind <= 16; kind++ {
		for a := range 8 {
			for b := range 21 {
				for c := range 4 {
					put(impl.Op{Kind: kind, A: a, B: b, C: c})
				}
			}
		}
	}
	for a := range 4 {
		for b := range 65536 {
			put(impl.Op{Kind: 1, A: a, B: b})
		}
	}
	return l
})

// plainReadOp looks for the one op that has this text.
func plainReadOp(s string) (impl.Op, bool) {
	o, is := opsByText()[s]
	return o, is
}

func plainShowCode(code []impl.Op) string {
	if !plainCode(code) {
		return ""
	}
	s := ""
	for _, o := range code {
		s += plainShowOp(o) + "\n"
	}
	return s
}

// plainLines are the ops of lines, each ended by a byte 10.
func plainLines(s string) ([]impl.Op, bool) {
	var code []impl.Op
	if s == "" {
		return nil, true
	}
	lines := strings.Split(s, "\n")
	if lines[len(lines)-1] != "" {
		return nil, false
	}
	for _, line := range lines[:len(lines)-1] {
		o, is := plainReadOp(line)
		if !is {
			return nil, false
		}
		code = append(code, o)
	}
	return code, true
}

func plainReadCode(s string) ([]impl.Op, bool) {
	code, is := plainLines(s)
	if !is || !plainCode(code) {
		return nil, false
	}
	return code, true
}

func plainShowProg(p impl.Prog) string {
	if !plainProg(p) {
		return ""
	}
	s := plainShowCode(p.Code)
	for _, kid := range p.Kids {
		s += "kid\n" + plainShowCode(kid.Code)
	}
	return s
}

// plainReadProg first parts the text at its lines kid, then reads each part.
func plainReadProg(s string) (impl.Prog, bool) {
	parts := []string{""}
	for _, line := range strings.SplitAfter(s, "\n") {
		if line == "kid\n" {
			parts = append(parts, "")
		} else {
			parts[len(parts)-1] += line
		}
	}
	var codes [][]impl.Op
	for _, part := range parts {
		code, is := plainLines(part)
		if !is {
			return impl.Prog{}, false
		}
		codes = append(codes, code)
	}
	p := impl.Prog{Code: codes[0]}
	for _, code := range codes[1:] {
		p.Kids = append(p.Kids, impl.Kid{Code: code})
	}
	if !plainProg(p) {
		return impl.Prog{}, false
	}
	return p, true
}

func showCode(t *testing.T, code []impl.Op) string {
	t.Helper()
	return roomed(t, "ShowCode", code, impl.ShowCode)
}

func showProg(t *testing.T, p impl.Prog) string {
	t.Helper()
	want := impl.ShowProg(copyProg(p))
	for _, room := range rooms() {
		q, all := roomyProg(p, room)
		before := whole(all)
		if got := impl.ShowProg(q); got != want {
			t.Errorf("ShowProg of %v is %q with a spare room behind it, else %q", p, got, want)
		}
		if !alikeProg(whole(all), before) {
			t.Errorf("ShowProg of %v wrote into what it was given", p)
		}
	}
	return want
}

// reads holds all three Reads of one text against the plain ones, and each thing that is read against the text that is shown of it.
func reads(t *testing.T, s string) {
	t.Helper()
	o, isOp := impl.ReadOp(s)
	if want, is := plainReadOp(s); o != want || isOp != is {
		t.Fatalf("ReadOp(%q) is %v, %v", s, o, isOp)
	}
	if isOp && impl.ShowOp(o) != s {
		t.Fatalf("ReadOp(%q) is %v, which is shown as %q", s, o, impl.ShowOp(o))
	}
	code, isCode := impl.ReadCode(s)
	if want, is := plainReadCode(s); !slices.Equal(code, want) || isCode != is {
		t.Fatalf("ReadCode(%q) is %v, %v", s, code, isCode)
	}
	if isCode && impl.ShowCode(code) != s {
		t.Fatalf("ReadCode(%q) is %v, which is shown as %q", s, code, impl.ShowCode(code))
	}
	p, isProg := impl.ReadProg(s)
	if want, is := plainReadProg(s); !alikeProg(p, want) || isProg != is {
		t.Fatalf("ReadProg(%q) is %v, %v", s, p, isProg)
	}
	if isProg && impl.ShowProg(p) != s {
		t.Fatalf("ReadProg(%q) is %v, which is shown as %q", s, p, impl.ShowProg(p))
	}
}

// refused: none of the Reads may take the text, and beside the false stands nothing.
func refused(t *testing.T, s string) {
	t.Helper()
	reads(t, s)
	if o, is := impl.ReadOp(s); is || o != (impl.Op{}) {
		t.Errorf("ReadOp(%q) is %v, %v", s, o, is)
	}
	refusedCode(t, s)
	refusedProg(t, s)
}

func refusedCode(t *testing.T, s string) {
	t.Helper()
	if code, is := impl.ReadCode(s); is || len(code) != 0 {
		t.Errorf("ReadCode(%q) is %v, %v", s, code, is)
	}
}

func refusedProg(t *testing.T, s string) {
	t.Helper()
	if p, is := impl.ReadProg(s); is || len(p.Code) != 0 || len(p.Kids) != 0 {
		t.Errorf("ReadProg(%q) is %v, %v", s, p, is)
	}
}

// beside are the texts that are one byte apart from s: one turned into any other byte, one taken out, one put in.
func beside(s string) []string {
	var l []string
	for i := range len(s) + 1 {
		for b := range 256 {
			l = append(l, s[:i]+string([]byte{byte(b)})+s[i:])
			if i < len(s) {
				l = append(l, s[:i]+string([]byte{byte(b)})+s[i+1:])
			}
		}
		if i < len(s) {
			l = append(l, s[:i]+s[i+1:])
		}
	}
	return l
}

func TestShowOpOfEachKind(t *testing.T) {
	for _, c := range []struct {
		op   impl.Op
		text string
	}{
		{impl.Op{Kind: impl.OpSet}, "set 0 0"}, {impl.Op{Kind: impl.OpSet, A: 3, B: 65535}, "set 3 65535"}, {impl.Op{Kind: impl.OpSet, A: 1, B: 500}, "set 1 500"},
		{impl.Op{Kind: impl.OpAdd}, "add 0 0 0"}, {impl.Op{Kind: impl.OpAdd, A: 1, B: 2, C: 3}, "add 1 2 3"},
		{impl.Op{Kind: impl.OpSub}, "sub 0 0 0"}, {impl.Op{Kind: impl.OpSub, A: 3, B: 1, C: 2}, "sub 3 1 2"},
		{impl.Op{Kind: impl.OpLess}, "less 0 0 0"}, {impl.Op{Kind: impl.OpLess, A: 2, B: 3, C: 1}, "less 2 3 1"},
		{impl.Op{Kind: impl.OpRead}, "read 0 0"}, {impl.Op{Kind: impl.OpRead, A: 3, B: 7}, "read 3 7"},
		{impl.Op{Kind: impl.OpWrite}, "write 0 0"}, {impl.Op{Kind: impl.OpWrite, A: 7, B: 3}, "write 7 3"},
		{impl.Op{Kind: impl.OpSkip, B: 1}, "skip 0 1"}, {impl.Op{Kind: impl.OpSkip, A: 3, B: 20}, "skip 3 20"},
		{impl.Op{Kind: impl.OpBegin}, "begin 0"}, {impl.Op{Kind: impl.OpBegin, A: 3}, "begin 3"},
		{impl.Op{Kind: impl.OpEnd}, "end"}, {impl.Op{Kind: impl.OpAbort}, "abort"}, {impl.Op{Kind: impl.OpFork}, "fork"},
		{impl.Op{Kind: impl.OpPut}, "put 0 0 0"}, {impl.Op{Kind: impl.OpPut, A: 7, B: 1, C: 2}, "put 7 1 2"},
		{impl.Op{Kind: impl.OpGet}, "get 0 0"}, {impl.Op{Kind: impl.OpGet, A: 3, B: 7}, "get 3 7"},
		{impl.Op{Kind: impl.OpDrop}, "drop 0 0"}, {impl.Op{Kind: impl.OpDrop, A: 7, B: 3}, "drop 7 3"},
		{impl.Op{Kind: impl.OpBump}, "bump 0"}, {impl.Op{Kind: impl.OpBump, A: 3}, "bump 3"},
		{impl.Op{Kind: impl.OpCount}, "count 0"}, {impl.Op{Kind: impl.OpCount, A: 3}, "count 3"},
	} {
		if got := impl.ShowOp(c.op); got != c.text {
			t.Errorf("ShowOp(%v) is %q, not %q", c.op, got, c.text)
		}
		if got, is := impl.ReadOp(c.text); got != c.op || !is {
			t.Errorf("ReadOp(%q) is %v, %v", c.text, got, is)
		}
		for _, s := range beside(c.text) {
			reads(t, s)
		}
	}
}

func TestShowOpOfWhatIsNotRight(t *testing.T) {
	for _, o := range wrongOps() {
		if got := impl.ShowOp(o); got != "" {
			t.Errorf("ShowOp(%v) is %q", o, got)
		}
	}
}

func TestShowOpAtAllEdges(t *testing.T) {
	for _, o := range edgeOps() {
		if got, want := impl.ShowOp(o), plainShowOp(o); got != want {
			t.Fatalf("ShowOp(%v) is %q, not %q", o, got, want)
		}
	}
}

func TestEachRightOpIsReadBack(t *testing.T) {
	all := opsByText()
	if len(all) != 4*65536+3*64+2*32+80+3*4+3+128+2*32 {
		t.Errorf("there are %d right ops", len(all))
	}
	for s, o := range all {
		if got := impl.ShowOp(o); got != s {
			t.Fatalf("ShowOp(%v) is %q, not %q", o, got, s)
		}
		if got, is := impl.ReadOp(s); got != o || !is {
			t.Fatalf("ReadOp(%q) is %v, %v", s, got, is)
		}
	}
}

func TestReadOpRefuses(t *testing.T) {
	for _, s := range []string{
		// a word alone that wants numbers, a number too few, one too many
		"set", "add", "begin", "put", "count", "set 1", "add 1 2", "read 1", "skip 1", "put 1 2", "get 1", "drop 1",
		"set 1 2 3", "set 1 2 0", "add 1 2 3 0", "add 1 2 3 4 5 6", "read 1 2 0", "begin 1 0", "end 0", "abort 0", "fork 0", "fork 0 0 0", "put 1 2 3 0", "bump 0 0", "count 0 0 0",
		// no word, and words that are none
		"1", "0 1 2", "1 1 2", " 1 2", "kid", "kid 1", "kids", "none", "sett 1 2", "se 1 2", "begins 1", "en", "ends", "beg 1", "mul 1 2 3", "set1 2", "1 set 2",
		"Set 1 2", "SET 1 2", "seT 1 2", "END", "End", "Fork", "ABORT", "\xc5\xbfet 1 2", "set\x00", "\xff", "end\x00", "\xef\xbb\xbfend",
		// blanks
		" ", "  ", " end", "end ", "  end", "end  ", " set 1 2", "set 1 2 ", "set  1 2", "set 1  2", "set 1 2  ", "set ", "set  ", "set 1 ", "set\t1 2", "set 1\t2", "\tend", "end\t", "set 1\u00a02", "end\r",
		// numbers with noughts ahead, with a sign, with what is no digit
		"set 1 05", "set 01 5", "set 00 5", "set 0 00", "set 0 000000000", "begin 03", "skip 0 01", "put 00 0 0", "put 0 0 00",
		"set +1 5", "set 1 +5", "set -1 5", "set 1 -5", "set -0 5", "set 0 -0", "begin +0", "begin -0", "skip 0 -1", "set 1 --5",
		"set a 5", "set 1 5a", "set 1 a5", "set 1 5.", "set 1 5.0", "set 1 0x5", "set 1 1e1", "set 1 1_0", "set 1 1,0", "set 1 5;", "begin x", "set 1 \u0665", "set one 5", "set 1 \x00",
		// out of range, one beyond each bound
		"set 4 0", "set 0 65536", "set 0 131072", "add 4 0 0", "add 0 4 0", "sub 0 0 4", "less 9 9 9", "read 4 0", "read 0 8", "write 8 0", "write 0 4",
		"skip 4 1", "skip 0 0", "skip 0 21", "begin 4", "put 8 0 0", "put 0 4 0", "put 0 0 4", "get 4 0", "get 0 8", "drop 8 0", "drop 0 4", "bump 4", "count 4", "begin 10", "begin 13",
		// greater than nine digits, than any int, and such as would wrap round to a right number
		"set 0 999999999", "set 0 1000000000", "set 0 4294967296", "set 0 9223372036854775807", "set 0 9223372036854775808", "set 0 18446744073709551616",
		"set 0 18446744073709551617", "set 18446744073709551616 0", "begin 18446744073709551617", "skip 0 4294967297", "set 0 -9223372036854775809", "begin 256", "begin 65536",
		"set 0 " + strings.Repeat("9", 400), "set 0 " + strings.Repeat("0", 400) + "1",
	} {
		refused(t, s)
		refused(t, s+"\n")
	}
	if o, is := impl.ReadOp(""); is || o != (impl.Op{}) {
		t.Errorf("ReadOp of the empty text is %v, %v", o, is)
	}
	for _, s := range []string{"end\n", "set 1 2\n", "\nend", "end\nend", "end\n\n", "\n", "set\n1 2", "set 1\n2", "set 1 2\nset 1 2", "kid\n", "fork\nkid\n"} {
		if o, is := impl.ReadOp(s); is || o != (impl.Op{}) {
			t.Errorf("ReadOp(%q) is %v, %v", s, o, is)
		}
	}
}

// All texts of these pieces behind each other, with one blank or another thing between them.
func TestReadOpOfPieces(t *testing.T) {
	words := append(slices.Clone(opWordList), "", "kid", "Set", "sets", "0")
	numbers := []string{"", "0", "1", "3", "4", "7", "8", "20", "21", "00", "01", "+1", "-1", "-0", "1a", "65535", "65536", "18446744073709551617", " 1", "1 "}
	taken := 0
	for _, word := range words {
		texts := []string{word}
		for range 4 {
			for _, s := range texts {
				reads(t, s)
				if _, is := impl.ReadOp(s); is {
					taken++
				}
			}
			var longer []string
			for _, s := range texts {
				// only what reads well so far is worth being looked at with all numbers behind it
				if strings.Count(s, " ") > 1 && strings.ContainsAny(s, "+-a") {
					continue
				}
				for _, n := range numbers {
					longer = append(longer, s+" "+n)
				}
			}
			texts = longer
		}
	}
	if taken < 200 {
		t.Errorf("only %d texts are taken", taken)
	}
}

func TestShowCode(t *testing.T) {
	if impl.ShowCode(nil) != "" || impl.ShowCode([]impl.Op{}) != "" {
		t.Error("no code is shown as something")
	}
	for s, want := range map[string]string{
		".":     "set 1 2\n",
		"..":    "set 1 2\nset 1 2\n",
		"b.e":   "begin 2\nset 1 2\nend\n",
		"f":     "fork\n",
		"2bef.": "skip 3 2\nbegin 2\nend\nfork\nset 1 2\n",
	} {
		if got := showCode(t, sketch(s)); got != want {
			t.Errorf("ShowCode(%s) is %q, not %q", s, got, want)
		}
	}
	if got := showCode(t, sets(24)); got != strings.Repeat("set 1 2\n", 24) {
		t.Errorf("ShowCode of 24 ops is %q", got)
	}
	if got := showCode(t, sets(25)); got != "" {
		t.Errorf("ShowCode of 25 ops is %q", got)
	}
	for _, s := range []string{"b", "e", "eb", "x", ".x", "x.", "bfe", "ff", "1", ".1", "1be", "b1e.", "b2eb.e", "beeb", ".........................", "be.............b..........."} {
		if got := showCode(t, sketch(s)); got != "" {
			t.Errorf("ShowCode(%s) is %q", s, got)
		}
	}
	for _, o := range wrongOps() {
		for i := range 3 {
			if got := showCode(t, withOp(sets(2), i, o)); got != "" {
				t.Errorf("ShowCode with %v at %d is %q", o, i, got)
			}
		}
	}
}

func TestReadCodeOfLengths(t *testing.T) {
	if code, is := impl.ReadCode(""); !is || len(code) != 0 {
		t.Errorf("ReadCode of the empty text is %v, %v", code, is)
	}
	for n := range 60 {
		s := strings.Repeat("set 1 2\n", n)
		code, is := impl.ReadCode(s)
		if n <= 24 && (!is || !slices.Equal(code, sets(n))) {
			t.Errorf("ReadCode of %d lines is %v, %v", n, code, is)
		}
		if n > 24 {
			refused(t, s)
		}
		reads(t, s)
		if n > 0 {
			refused(t, s[:len(s)-1]+" ")
			refusedCode(t, s[:len(s)-1])
			refusedProg(t, s[:len(s)-1])
		}
		refused(t, s+"\n")
		refused(t, s+"set 4 2\n")
		refused(t, s+"kid")
	}
}

// A line that is none, at each place of a text that is right without it.
func TestReadCodeOfWrongLines(t *testing.T) {
	for _, right := range []string{"", ".", "...", "b.e", "2be.", "......................."} {
		lines := strings.SplitAfter(impl.ShowCode(sketch(right)), "\n")
		lines = lines[:len(lines)-1]
		for i := range len(lines) + 1 {
			ahead, behind := strings.Join(lines[:i], ""), strings.Join(lines[i:], "")
			for _, wrong := range []string{
				"\n", "\n\n", " \n", "set\n", "set 1\n", "set 1 2 3\n", "set 1 02\n", "set 4 0\n", "set 1 65536\n", "end \n", " end\n", "abort\r\n", "\rabort\n", "ABORT\n", "abort\x00\n",
				"kid\n", "kid 1\n", " kid\n", "skip 0 0\n", "skip 0 21\n", "put 8 0 0\n", "set 1 2 set 1 2\n", "set 1 18446744073709551618\n", "\xff\n", "\x85", "\u2028",
			} {
				refused(t, ahead+wrong+behind)
			}
			if ahead != "" {
				refused(t, ahead[:len(ahead)-1]+"\r\n"+behind)
				refused(t, ahead[:len(ahead)-1]+" "+behind)
				refused(t, ahead[:len(ahead)-1]+"\x00"+behind)
			}
		}
	}
}

// Lines that are right one by one, and no right code together.
func TestReadCodeOfNoRightCode(t *testing.T) {
	for _, s := range []string{
		"begin 0\n", "end\n", "end\nbegin 0\n", "begin 0\nend\nend\n", "begin 0\nbegin 0\nend\n",
		"skip 0 1\n", "skip 0 2\nabort\n", "abort\nskip 0 1\n", "skip 0 20\n" + strings.Repeat("abort\n", 19),
		"skip 0 1\nbegin 0\nend\n", "begin 0\nskip 0 1\nend\nabort\n", "begin 0\nskip 0 2\nend\nbegin 0\nabort\nend\n",
		"fork\nfork\n", "begin 0\nfork\nend\n", strings.Repeat("abort\n", 25), strings.Repeat("abort\n", 24) + "fork\n",
	} {
		refused(t, s)
	}
}

// All short code, right and not: what is right is shown and read back, what is not is shown as nothing, and its lines are not read.
func TestAllShortCodeAsText(t *testing.T) {
	right := 0
	for _, s := range append(sketches("be.12f", 5), sketches("bex3", 5)...) {
		code := sketch(s)
		text := impl.ShowCode(code)
		if want := plainShowCode(code); text != want {
			t.Fatalf("ShowCode(%s) is %q, not %q", s, text, want)
		}
		if !plainCode(code) {
			lines := ""
			for _, o := range code {
				lines += plainShowOp(o) + "\n"
			}
			refusedCode(t, lines)
			refusedProg(t, lines)
			continue
		}
		right++
		if got, is := impl.ReadCode(text); !is || !slices.Equal(got, code) {
			t.Fatalf("ReadCode(%q) is %v, %v", text, got, is)
		}
		reads(t, text)
	}
	if right < 100 {
		t.Errorf("only %d are right", right)
	}
}

// sourceProgs are right programs: without kids, with one, with MaxKids, with kids without ops.
func sourceProgs() []impl.Prog {
	forked := func(code string, kids ...[]impl.Op) impl.Prog {
		p := impl.Prog{Code: sketch(code)}
		for _, kid := range kids {
			p.Kids = append(p.Kids, impl.Kid{Code: kid})
		}
		return p
	}
	return []impl.Prog{
		{},
		forked("."), forked("b.e"), forked("2be."),
		{Code: sets(24)}, {Code: plainOps()}, {Code: touchOps()},
		forked("f", nil), forked("f", sketch(".")), forked("f", sets(24)), forked(".f.", sketch("b.e")),
		forked("f", nil, nil), forked("f", sketch("."), nil), forked("f", nil, sketch(".")), forked("befbe", sketch("1."), sketch("2be.")),
		forked("f", nil, nil, nil), forked("f", sketch("."), nil, nil), forked("f", nil, sketch("."), nil), forked("f", nil, nil, sketch(".")),
		forked("f.", plainOps(), sketch("b.e"), sets(24)),
		{Code: append(sets(23), aFork), Kids: kidsOf(3, sets(24))},
		{Code: append([]impl.Op{aFork}, touchOps()...), Kids: kidsOf(2, plainOps())},
	}
}

func TestShowProg(t *testing.T) {
	for _, c := range []struct {
		p    impl.Prog
		text string
	}{
		{impl.Prog{}, ""},
		{impl.Prog{Code: []impl.Op{}, Kids: []impl.Kid{}}, ""},
		{impl.Prog{Code: sketch(".be")}, "set 1 2\nbegin 2\nend\n"},
		{impl.Prog{Code: sketch("f"), Kids: kidsOf(1, nil)}, "fork\nkid\n"},
		{impl.Prog{Code: sketch(".f."), Kids: kidsOf(1, sketch("."))}, "set 1 2\nfork\nset 1 2\nkid\nset 1 2\n"},
		{impl.Prog{Code: sketch("f"), Kids: kidsOf(3, nil)}, "fork\nkid\nkid\nkid\n"},
		{impl.Prog{Code: sketch("f."), Kids: []impl.Kid{{Code: sketch("be")}, {}, {Code: sketch("1.")}}}, "fork\nset 1 2\nkid\nbegin 2\nend\nkid\nkid\nskip 3 1\nset 1 2\n"},
	} {
		if got := showProg(t, c.p); got != c.text {
			t.Errorf("ShowProg(%v) is %q, not %q", c.p, got, c.text)
		}
	}
	for _, p := range []impl.Prog{
		{Code: sketch("f")}, {Kids: kidsOf(1, nil)}, {Code: sketch("."), Kids: kidsOf(1, nil)}, {Code: sketch("f"), Kids: kidsOf(4, nil)},
		{Code: sketch("x")}, {Code: sketch("b")}, {Code: sets(25)}, {Code: sketch("ff"), Kids: kidsOf(1, nil)},
		{Code: sketch("f"), Kids: kidsOf(1, sketch("x"))}, {Code: sketch("f"), Kids: kidsOf(1, sketch("e"))}, {Code: sketch("f"), Kids: kidsOf(2, sketch("f"))},
		{Code: sketch("f"), Kids: kidsOf(1, sets(25))}, {Code: sketch("f"), Kids: kidsOf(1, touchOps()[:1])},
		{Code: sketch("f"), Kids: []impl.Kid{{}, {}, {Code: sketch("b")}}},
	} {
		if got := showProg(t, p); got != "" {
			t.Errorf("ShowProg(%v) is %q", p, got)
		}
	}
	for _, p := range someProgs() {
		if got, want := showProg(t, p), plainShowProg(p); got != want {
			t.Errorf("ShowProg(%v) is %q, not %q", p, got, want)
		}
	}
}

func TestReadProgOfWhatIsShown(t *testing.T) {
	if p, is := impl.ReadProg(""); !is || len(p.Code) != 0 || len(p.Kids) != 0 {
		t.Errorf("ReadProg of the empty text is %v, %v", p, is)
	}
	for _, p := range sourceProgs() {
		text := showProg(t, p)
		if want := plainShowProg(p); text != want {
			t.Errorf("ShowProg(%v) is %q, not %q", p, text, want)
		}
		got, is := impl.ReadProg(text)
		if !is || !alikeProg(got, p) || !impl.SameProg(got, p) {
			t.Errorf("ReadProg(%q) is %v, %v", text, got, is)
		}
		if again := impl.ShowProg(got); again != text {
			t.Errorf("%q is read and shown again as %q", text, again)
		}
		if len(p.Kids) > 0 {
			refusedCode(t, text)
		}
	}
}

// Texts that are one byte apart from right ones are taken only where they are shown of another program.
func TestReadProgOfTextsBesideRightOnes(t *testing.T) {
	for _, s := range []string{"", "abort\n", "fork\nkid\n", "set 1 10\nbegin 0\nend\n", "skip 0 1\nfork\nkid\nwrite 7 3\nkid\n", "fork\nkid\nkid\nkid\nend\n"} {
		reads(t, s)
		for _, near := range beside(s) {
			reads(t, near)
		}
	}
}

func TestReadProgRefuses(t *testing.T) {
	for _, s := range []string{
		// kids and no fork, a fork and no kids, too many of both
		"kid\n", "kid\nkid\n", "abort\nkid\n", "kid\nabort\n", "kid\nfork\n", "fork\n", "abort\nfork\n", "fork\nabort\n", "fork\nkid\nkid\nkid\nkid\n", "fork\nfork\nkid\n",
		"fork\nkid\nabort\nkid\nkid\nabort\nkid\n", "kid\nfork\nkid\n", "begin 0\nfork\nend\nkid\n", "fork\nkid\nkid\nkid\nkid", "fork\nkid\nkid\nkid\nkid\nkid\n",
		// a line kid that is none
		"kid", "fork\nkid", "forkkid\n", "fork kid\n", "fork\n kid\n", "fork\nkid \n", "fork\n\nkid\n", "fork\nkid\n\n", "\nfork\nkid\n", "fork\nkid\nkid", "fork\nkid\n kid\n", "fork\nkid\nabort\nkid",
		"fork\nKid\n", "fork\nKID\n", "fork\nkids\n", "fork\nki\n", "fork\nkid 0\n", "fork\nkid\r\n", "fork\r\nkid\n", "fork\nkid\x00\n", "fork\nkid\n\x00", "fork\nkidkid\n", "fork\nkid kid\n", "fork\nkid\tabort\n", "fork\nkid abort\n", "fork\nkid\nkid\nkid\n ",
		// codes that are not right, of the program and of a kid
		"end\nfork\nkid\n", "fork\nend\nkid\n", "begin 0\nfork\nkid\n", "fork\nbegin 0\nkid\nend\n", "skip 0 1\nkid\n", "fork\nskip 0 1\nkid\nabort\n", "fork\nskip 0 1\nkid\n",
		"fork\nkid\nend\n", "fork\nkid\nbegin 0\n", "fork\nkid\nbegin 0\nkid\nend\n", "fork\nkid\nskip 0 1\n", "fork\nkid\nskip 0 1\nkid\nabort\n", "fork\nkid\nfork\n", "fork\nkid\nfork\nkid\n", "fork\nkid\nabort\nkid\nfork\n",
		"fork\nkid\nput 0 0 0\n", "fork\nkid\nget 0 0\n", "fork\nkid\ndrop 0 0\n", "fork\nkid\nbump 0\n", "fork\nkid\ncount 0\n", "fork\nkid\nkid\nkid\ncount 0\n", "fork\nkid\nbegin 0\nbump 0\nend\n",
		// lines of a kid that are none
		"fork\nkid\nset 4 0\n", "fork\nkid\nset 0 00\n", "fork\nkid\nabort", "fork\nkid\nabort\n\n", "fork\nkid\n\nabort\n", "fork\nkid\nabort \n", "fork\nkid\nkid\nabort", "fork\nkid\nkid\nkid\nset 1\n", "fork\nkid\nnone\nkid\n",
		// too long a code, of the program and of a kid
		strings.Repeat("abort\n", 25), strings.Repeat("abort\n", 24) + "fork\nkid\n", "fork\n" + strings.Repeat("abort\n", 24) + "kid\n",
		"fork\nkid\n" + strings.Repeat("abort\n", 25), "fork\nkid\n" + strings.Repeat("abort\n", 25) + "kid\n", "fork\nkid\nkid\nkid\n" + strings.Repeat("abort\n", 25),
		strings.Repeat("abort\n", 25) + "kid\n", strings.Repeat("abort\n", 26) + "kid\n", "fork\nkid\n" + strings.Repeat("abort\n", 26) + "kid\n", "fork\nkid\n" + strings.Repeat("abort\n", 24) + "set 9 9\n",
	} {
		reads(t, s)
		refusedProg(t, s)
	}
	for _, s := range []string{
		"fork\nkid\n" + strings.Repeat("abort\n", 24), "fork\nkid\n" + strings.Repeat("abort\n", 24) + "kid\nkid\n", strings.Repeat("abort\n", 23) + "fork\nkid\n",
		"fork\n" + strings.Repeat("kid\n"+strings.Repeat("abort\n", 24), 3), strings.Repeat("abort\n", 24),
	} {
		if _, is := impl.ReadProg(s); !is {
			t.Errorf("ReadProg(%q) is refused", s)
		}
		reads(t, s)
		refusedProg(t, s+"\n")
		refusedProg(t, s[:len(s)-1])
	}
}

// All texts of up to six of these lines.
func TestReadProgOfAllShortTexts(t *testing.T) {
	lines := map[rune]string{'k': "kid\n", 'f': "fork\n", 'a': "abort\n", 'b': "begin 0\n", 'e': "end\n", '1': "skip 0 1\n", 'u': "bump 1\n", 'n': "\n", 'w': "set 0 01\n"}
	taken := 0
	for _, l := range append(sketches("kfabe", 6), sketches("kf1unw", 5)...) {
		s := ""
		for _, sign := range l {
			s += lines[sign]
		}
		reads(t, s)
		if _, is := impl.ReadProg(s); is {
			taken++
		}
	}
	if taken < 100 {
		t.Errorf("only %d texts are taken", taken)
	}
}

// Programs picked by a rule, each shown, read, and then read with one line taken out, put in twice, or put elsewhere.
func TestManyPrograms(t *testing.T) {
	seed := uint32(24681)
	pick := func(below int) int {
		seed = seed*1664525 + 1013904223
		return int(seed>>8) % below
	}
	ops := append(plainOps(), aSkip(1), aSkip(2), aSkip(3))
	pickCode := func(most int) []impl.Op {
		var code []impl.Op
		open := 0
		for range pick(most) {
			switch n := pick(8); {
			case n == 0:
				code, open = append(code, aBegin), open+1
			case n == 1 && open > 0:
				code, open = append(code, anEnd), open-1
			default:
				code = append(code, ops[pick(len(ops))])
			}
		}
		return append(code, slices.Repeat([]impl.Op{anEnd}, open)...)
	}
	right, wrong, turned := 0, 0, 0
	for range 20000 {
		p := impl.Prog{Code: pickCode(14)}
		if pick(3) > 0 {
			p.Code = append(p.Code, aFork)
			for range pick(5) {
				p.Kids = append(p.Kids, impl.Kid{Code: pickCode(6)})
			}
		}
		text := impl.ShowProg(p)
		if want := plainShowProg(p); text != want {
			t.Fatalf("ShowProg(%v) is %q, not %q", p, text, want)
		}
		if !plainProg(p) {
			wrong++
			continue
		}
		right++
		if got, is := impl.ReadProg(text); !is || !alikeProg(got, p) {
			t.Fatalf("ReadProg(%q) is %v, %v", text, got, is)
		}
		lines := strings.SplitAfter(text, "\n")
		from, to := pick(len(lines)), pick(len(lines))
		out := slices.Delete(slices.Clone(lines), from, from+1)
		for _, l := range [][]string{out, slices.Insert(slices.Clone(out), min(to, len(out)), lines[from]), slices.Insert(slices.Clone(lines), to, lines[from])} {
			s := strings.Join(l, "")
			reads(t, s)
			if _, is := impl.ReadProg(s); is && s != text {
				turned++
			}
		}
	}
	if right < 3000 || wrong < 3000 || turned < 500 {
		t.Errorf("%d programs are right, %d wrong, %d turned into others", right, wrong, turned)
	}
}

// An answer is new memory: what is written into it, and into the room behind it, is seen neither in another list of it nor in another answer.
func TestReadsShareNothing(t *testing.T) {
	mark := impl.Op{Kind: -1, A: -2, B: -3, C: -4}
	fill := func(code []impl.Op) {
		for i := range code[:cap(code)] {
			code[:cap(code)][i] = mark
		}
	}
	for _, p := range sourceProgs() {
		text := impl.ShowProg(p)
		first, _ := impl.ReadProg(text)
		lists := [][]impl.Op{first.Code}
		want := [][]impl.Op{p.Code}
		for i, kid := range first.Kids {
			lists = append(lists, kid.Code)
			want = append(want, p.Kids[i].Code)
		}
		for i, code := range lists {
			fill(code)
			for k := i + 1; k < len(lists); k++ {
				if !slices.Equal(lists[k], want[k]) {
					t.Errorf("of ReadProg(%q) lists %d and %d share memory", text, i, k)
				}
			}
		}
		for i := range first.Kids {
			first.Kids[i] = impl.Kid{}
		}
		if second, is := impl.ReadProg(text); !is || !alikeProg(second, p) {
			t.Errorf("ReadProg(%q) is %v, %v the second time", text, second, is)
		}
		code, _ := impl.ReadCode(impl.ShowCode(p.Code))
		fill(code)
		if again, is := impl.ReadCode(impl.ShowCode(p.Code)); !is || !slices.Equal(again, p.Code) {
			t.Errorf("ReadCode of %v is %v, %v the second time", p.Code, again, is)
		}
	}
}

func TestReadsOfLongTexts(t *testing.T) {
	const many = 1 << 20
	for _, s := range []string{
		strings.Repeat("abort\n", many), strings.Repeat("kid\n", many), "fork\n" + strings.Repeat("kid\n", many), strings.Repeat("\n", many), strings.Repeat(" ", many),
		"set " + strings.Repeat("1 ", many), "set 0 " + strings.Repeat("1", many), strings.Repeat("set", many), strings.Repeat("begin 0\n", many), strings.Repeat("begin 0\n", many) + strings.Repeat("end\n", many),
		"fork\n" + strings.Repeat("kid\nabort\n", many), "fork\nkid\n" + strings.Repeat("abort\n", many), strings.Repeat("\x00", many),
	} {
		o, isOp := impl.ReadOp(s)
		code, isCode := impl.ReadCode(s)
		p, isProg := impl.ReadProg(s)
		if isOp || isCode || isProg || o != (impl.Op{}) || len(code)+len(p.Code)+len(p.Kids) > 0 {
			t.Errorf("a text of %d bytes that begins with %q is taken", len(s), s[:12])
		}
	}
}
