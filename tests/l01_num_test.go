package tests

import (
	"math"
	"strings"
	"testing"

	"loop.example/g01277/impl"
)

// edgeNumbers are those next to each border of a byte, of seven bits and of the limits, and the ends of 64 bits.
func edgeNumbers() []int {
	l := []int{math.MinInt, math.MinInt + 1, math.MaxInt - 1, math.MaxInt}
	for bits := range 63 {
		p := 1 << bits
		l = append(l, p-1, p, p+1, -p, -p-1)
	}
	for _, n := range []int{10, 99, 100, 300, 999999999, 1000000000, impl.MaxVar} {
		l = append(l, n-1, n, n+1, -n, -n-1, -n+1)
	}
	return l
}

func TestFixedMakes(t *testing.T) {
	for _, c := range []struct {
		n, width int
		want     string
	}{
		{0, 1, "\x00"},
		{255, 1, "\xff"},
		{256, 1, ""},
		{256, 2, "\x01\x00"},
		{258, 2, "\x01\x02"},
		{65535, 2, "\xff\xff"},
		{65536, 2, ""},
		{7, 4, "\x00\x00\x00\x07"},
		{0x01020304050607, 7, "\x01\x02\x03\x04\x05\x06\x07"},
		{1<<56 - 1, 7, "\xff\xff\xff\xff\xff\xff\xff"},
		{1 << 56, 7, ""},
		{math.MaxInt, 7, ""},
		{0, 7, "\x00\x00\x00\x00\x00\x00\x00"},
		{0, 0, ""},
		{0, 8, ""},
		{1, 9, ""},
		{0, -1, ""},
		{0, math.MinInt, ""},
		{0, math.MaxInt, ""},
		{-1, 1, ""},
		{-1, 3, ""},
		{-1, 7, ""},
		{-256, 2, ""},
		{math.MinInt, 7, ""},
	} {
		if got := impl.Fixed(c.n, c.width); got != c.want {
			t.Errorf("Fixed(%d, %d) is %q, not %q", c.n, c.width, got, c.want)
		}
	}
}

func TestReadFixedReads(t *testing.T) {
	for _, c := range []struct {
		s     string
		width int
		n     int
		ok    bool
	}{
		{"\x00", 1, 0, true},
		{"\xff", 1, 255, true},
		{"\x01\x02", 2, 258, true},
		{"\x01\x02\x03", 2, 258, true},
		{"\x00\x00\x07", 3, 7, true},
		{"\xff\xff\xff\xff\xff\xff\xff", 7, 1<<56 - 1, true},
		{"\x80\x00\x00\x00\x00\x00\x00\xff", 7, 1 << 55, true},
		{"", 1, 0, false},
		{"a", 2, 0, false},
		{"\x01\x02\x03\x04\x05\x06", 7, 0, false},
		{"", 0, 0, false},
		{"abc", 0, 0, false},
		{"abcdefgh", 8, 0, false},
		{"abcdefghi", 8, 0, false},
		{"abc", -1, 0, false},
		{"abc", math.MinInt, 0, false},
		{"abc", math.MaxInt, 0, false},
	} {
		n, ok := impl.ReadFixed(c.s, c.width)
		if n != c.n || ok != c.ok {
			t.Errorf("ReadFixed(%q, %d) is %d %v, not %d %v", c.s, c.width, n, ok, c.n, c.ok)
		}
	}
}

func TestFixedFitsItsWidth(t *testing.T) {
	for _, n := range edgeNumbers() {
		for width := -1; width <= 9; width++ {
			s := impl.Fixed(n, width)
			fits := width >= 1 && width <= 7 && n >= 0 && n < 1<<(8*width)
			if fits != (s != "") || fits && len(s) != width {
				t.Errorf("Fixed(%d, %d) is %q", n, width, s)
			}
			if back, ok := impl.ReadFixed(s+"\xff", width); fits && (back != n || !ok) {
				t.Errorf("ReadFixed of Fixed(%d, %d) is %d %v", n, width, back, ok)
			}
		}
	}
}

func TestReadFixedTellsOnlyWhatFixedMakes(t *testing.T) {
	for high := range 256 {
		for low := range 256 {
			s := string([]byte{byte(high), byte(low)})
			for width := 1; width <= 2; width++ {
				n, ok := impl.ReadFixed(s, width)
				if !ok || impl.Fixed(n, width) != s[:width] {
					t.Fatalf("ReadFixed(%q, %d) is %d %v", s, width, n, ok)
				}
			}
		}
	}
}

func TestVarMakes(t *testing.T) {
	if impl.MaxVar != 562949953421311 {
		t.Error("MaxVar is", impl.MaxVar)
	}
	for _, c := range []struct {
		n    int
		want string
	}{
		{0, "\x00"},
		{1, "\x01"},
		{127, "\x7f"},
		{128, "\x80\x01"},
		{300, "\xac\x02"},
		{16383, "\xff\x7f"},
		{16384, "\x80\x80\x01"},
		{impl.MaxVar, "\xff\xff\xff\xff\xff\xff\x7f"},
		{impl.MaxVar + 1, ""},
		{math.MaxInt, ""},
		{-1, ""},
		{-128, ""},
		{math.MinInt, ""},
	} {
		if got := impl.Var(c.n); got != c.want {
			t.Errorf("Var(%d) is %q, not %q", c.n, got, c.want)
		}
	}
}

func TestReadVarReads(t *testing.T) {
	for _, c := range []struct {
		s    string
		n, k int
	}{
		{"\x00", 0, 1},
		{"\x00\x00", 0, 1},
		{"\x7f", 127, 1},
		{"\x80\x01", 128, 2},
		{"\xac\x02", 300, 2},
		{"\xac\x02z", 300, 2},
		{"\xac\x02\x80", 300, 2},
		{"\x80\x80\x80\x80\x80\x80\x01", 1 << 42, 7},
		{"\xff\xff\xff\xff\xff\xff\x7f", impl.MaxVar, 7},
		{"\xff\xff\xff\xff\xff\xff\x7f\xff", impl.MaxVar, 7},
		{"", 0, 0},
		{"\x80", 0, 0},
		{"\xff", 0, 0},
		{"\xff\xff\xff\xff\xff\xff", 0, 0},
		{"\xff\xff\xff\xff\xff\xff\xff", 0, 0},
		{"\x80\x00", 0, 0},
		{"\x81\x00", 0, 0},
		{"\xac\x82\x00", 0, 0},
		{"\xac\x82\x80\x00z", 0, 0},
		{"\x80\x80\x80\x80\x80\x80\x00", 0, 0},
		{"\x80\x80\x80\x80\x80\x80\x80\x01", 0, 0},
		{"\xff\xff\xff\xff\xff\xff\xff\x00", 0, 0},
		{"\xff\xff\xff\xff\xff\xff\xff\x7f", 0, 0},
		{strings.Repeat("\xff", 1000) + "\x01", 0, 0},
	} {
		if n, k := impl.ReadVar(c.s); n != c.n || k != c.k {
			t.Errorf("ReadVar(%q) is %d %d, not %d %d", c.s, n, k, c.n, c.k)
		}
	}
}

func TestVarIsReadBack(t *testing.T) {
	l := edgeNumbers()
	for n := range 70000 {
		l = append(l, n)
	}
	for _, n := range l {
		s := impl.Var(n)
		if n < 0 || n > impl.MaxVar {
			if s != "" {
				t.Errorf("Var(%d) is %q", n, s)
			}
			continue
		}
		if s == "" || len(s) > 1 && n < 1<<(7*(len(s)-1)) {
			t.Errorf("Var(%d) is %q, which is not the shortest", n, s)
		}
		for _, behind := range []string{"", "\x00", "\xff", "\x01\x02"} {
			if back, k := impl.ReadVar(s + behind); back != n || k != len(s) {
				t.Errorf("ReadVar(%q) is %d %d", s+behind, back, k)
			}
		}
		for cut := range len(s) {
			if back, k := impl.ReadVar(s[:cut]); back != 0 || k != 0 {
				t.Errorf("ReadVar of the cut off %q is %d %d", s[:cut], back, k)
			}
		}
	}
}

func TestReadVarTellsOnlyWhatVarMakes(t *testing.T) {
	made := map[string]bool{}
	for n := range 1 << 14 {
		made[impl.Var(n)] = true
	}
	for first := range 256 {
		for second := range 256 {
			s := string([]byte{byte(first), byte(second)})
			n, k := impl.ReadVar(s)
			if k > 0 && impl.Var(n) != s[:k] {
				t.Fatalf("ReadVar(%q) is %d %d", s, n, k)
			}
			if k == 0 && (n != 0 || made[s[:1]] || made[s]) {
				t.Fatalf("ReadVar(%q) is %d %d, but Var makes its beginning", s, n, k)
			}
		}
	}
}

func TestHexMakes(t *testing.T) {
	for _, c := range [][2]string{
		{"", ""},
		{"\x00", "00"},
		{"a\xff", "61ff"},
		{"\x09\x0a\x90\xa0", "090a90a0"},
		{"\x01\x23\x45\x67\x89\xab\xcd\xef", "0123456789abcdef"},
		{"é\n", "c3a90a"},
	} {
		if got := impl.Hex(c[0]); got != c[1] {
			t.Errorf("Hex(%q) is %q, not %q", c[0], got, c[1])
		}
		if got, ok := impl.Unhex(c[1]); got != c[0] || !ok {
			t.Errorf("Unhex(%q) is %q %v, not %q", c[1], got, ok, c[0])
		}
	}
}

func TestUnhexRefuses(t *testing.T) {
	for _, s := range []string{
		"0", "a", "abc", "61f", "6F", "F6", "FF", "61FF", "AB", "0g", "g0", "0G", "0x", "0x61", "x0",
		" 61", "61 ", "6 1", " 6", "6 ", "-1", "+1", "6_1", "61\n", "\n\n", "\x00\x00", "\xff\xff", "é", "616", "61zz61", "zz",
	} {
		if got, ok := impl.Unhex(s); got != "" || ok {
			t.Errorf("Unhex(%q) is %q %v", s, got, ok)
		}
	}
}

func TestUnhexTellsOnlyWhatHexMakes(t *testing.T) {
	made := map[string]string{}
	for b := range 256 {
		made[impl.Hex(string([]byte{byte(b)}))] = string([]byte{byte(b)})
	}
	if len(made) != 256 {
		t.Error("Hex makes one text of two bytes", len(made))
	}
	for first := range 256 {
		for second := range 256 {
			s := string([]byte{byte(first), byte(second)})
			want, is := made[s]
			if got, ok := impl.Unhex(s); got != want || ok != is {
				t.Fatalf("Unhex(%q) is %q %v, not %q %v", s, got, ok, want, is)
			}
		}
	}
}

func TestLongHex(t *testing.T) {
	s := strings.Repeat("\x00\xffab\n", 200000)
	h := impl.Hex(s)
	if h != strings.Repeat("00ff61620a", 200000) {
		t.Error("Hex of a long text")
	}
	if back, ok := impl.Unhex(h); back != s || !ok {
		t.Error("Unhex of a long text")
	}
	if back, ok := impl.Unhex(h + "A0"); back != "" || ok {
		t.Error("Unhex of a long text with a wrong end")
	}
}

func TestDecMakes(t *testing.T) {
	for _, c := range []struct {
		n    int
		want string
	}{
		{0, "0"},
		{7, "7"},
		{-7, "-7"},
		{10, "10"},
		{-120, "-120"},
		{65536, "65536"},
		{999999999, "999999999"},
		{1000000000, "1000000000"},
		{math.MaxInt, "9223372036854775807"},
		{math.MinInt + 1, "-9223372036854775807"},
		{math.MinInt, "-9223372036854775808"},
	} {
		if got := impl.Dec(c.n); got != c.want {
			t.Errorf("Dec(%d) is %q, not %q", c.n, got, c.want)
		}
	}
}

func TestReadDecRefuses(t *testing.T) {
	for _, s := range []string{
		"", "-", "+", "--1", "-+1", "+1", "+0", "-0", "00", "01", "-01", "0000000001", "000000000", "-00",
		" ", " 1", "1 ", "1 2", "- 1", "1\n", "\t1", "1-", "1_000", "_1", "1.0", "1e3", "0x1", "a", "1a", "\x00", "1\x00", "\xd9\xa1",
		"1000000000", "-1000000000", "9999999999", "4294967296", "9223372036854775807", "-9223372036854775808",
		"9223372036854775808", "18446744073709551617", "18446744073709551616", strings.Repeat("9", 1000), strings.Repeat("0", 1000),
	} {
		if n, ok := impl.ReadDec(s); n != 0 || ok {
			t.Errorf("ReadDec(%q) is %d %v", s, n, ok)
		}
	}
}

func TestDecIsReadBack(t *testing.T) {
	l := edgeNumbers()
	for n := -70000; n <= 70000; n++ {
		l = append(l, n)
	}
	for _, n := range l {
		s := impl.Dec(n)
		want, is := 0, n >= -999999999 && n <= 999999999
		if is {
			want = n
		}
		if back, ok := impl.ReadDec(s); back != want || ok != is {
			t.Errorf("ReadDec(%q) is %d %v, not %d %v", s, back, ok, want, is)
		}
	}
}

func TestReadDecTellsOnlyWhatDecMakes(t *testing.T) {
	made := map[string]int{}
	for n := -9999; n <= 9999; n++ {
		made[impl.Dec(n)] = n
	}
	const signs = "01259-+ _ax.\n"
	l := []string{""}
	for at := 0; len(l[at]) < 4; at++ {
		for i := range len(signs) {
			l = append(l, l[at]+signs[i:i+1])
		}
	}
	for _, s := range l {
		want, is := made[s]
		if got, ok := impl.ReadDec(s); got != want || ok != is {
			t.Errorf("ReadDec(%q) is %d %v, not %d %v", s, got, ok, want, is)
		}
	}
}
