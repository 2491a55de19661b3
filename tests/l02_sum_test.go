package tests

import (
	"strings"
	"testing"

	"loop.example/g01277/impl"
)

// bitSum takes the chapter's words bit by bit, without a table.
func bitSum(s string) int {
	c := 4294967295
	for i := 0; i < len(s); i++ {
		c ^= int(s[i])
		for range 8 {
			odd := c%2 == 1
			c /= 2
			if odd {
				c ^= 2197175160
			}
		}
	}
	return 4294967295 - c
}

// sumTexts are texts of every kind of byte: none, plain ones, runes of two to four bytes, whole, cut off and turned, and bytes that stand in no valid UTF-8.
func sumTexts() []string {
	l := []string{
		"", "a", "abc", "123456789", "\x00", "\x00\x00", "\x00\x00\x00\x00", "\n", "\x7f", "a\x00b",
		"\x80", "\xff", "\xc0", "\xfe", "\x80\x80", "\xff\xff", "\xff\xff\xff\xff", "\xc0\x80", "\xc3", "\xc3(", "\xa9\xc3",
		"é", "éé", "aéb", "€", "a€b", "\xe2\x82", "\x82\xac", "\xe2\x82z", "𝄞", "a𝄞b", "\xf0\x9d\x84", "\x9d\x84\x9e",
		"\ufffd", "\xef\xbf\xbd", "\xef\xbf", "\xed\xa0\x80", "\xf4\x90\x80\x80", "\xf8\x88\x80\x80\x80", "\ufeff", "\U0010ffff",
		"é\xff€\x80𝄞\xc3", "\xff\xfe\xfd", strings.Repeat("\xff", 1000), strings.Repeat("é", 1000), strings.Repeat("\x00", 1000),
	}
	all := make([]byte, 256)
	for b := range all {
		all[b] = byte(b)
	}
	return append(l, string(all), string(all[128:])+string(all[:128]))
}

func TestCrcOfKnownTexts(t *testing.T) {
	for _, c := range []struct {
		s    string
		want int
	}{
		{"123456789", 3808858755},
		{"", 0},
		{"a", 0xc1d04330},
		{"abc", 0x364b3fb7},
		{strings.Repeat("\x00", 32), 0x8a9136aa},
		{strings.Repeat("\xff", 32), 0x62a8ab43},
	} {
		if got := impl.Crc(c.s); got != c.want {
			t.Errorf("Crc(%q) is %d, not %d", c.s, got, c.want)
		}
	}
}

func TestCrcOfEachByte(t *testing.T) {
	seen := map[int]int{}
	for b := range 256 {
		s := string([]byte{byte(b)})
		got := impl.Crc(s)
		if got != bitSum(s) {
			t.Errorf("Crc(%q) is %d, not %d", s, got, bitSum(s))
		}
		if other, is := seen[got]; is {
			t.Errorf("bytes %d and %d have one sum", other, b)
		}
		seen[got] = b
	}
}

func TestCrcOfEachTwoBytes(t *testing.T) {
	for first := range 256 {
		for second := range 256 {
			s := string([]byte{byte(first), byte(second)})
			if got := impl.Crc(s); got != bitSum(s) {
				t.Fatalf("Crc(%q) is %d, not %d", s, got, bitSum(s))
			}
		}
	}
}

func TestCrcOfRunesAndOfWhatIsNone(t *testing.T) {
	for _, s := range sumTexts() {
		for _, behind := range sumTexts() {
			if got := impl.Crc(s + behind); got != bitSum(s+behind) {
				t.Fatalf("Crc(%q) is %d, not %d", s+behind, got, bitSum(s+behind))
			}
		}
	}
}

func TestCrcOfLongTexts(t *testing.T) {
	for _, piece := range []string{"a", "\xff", "é", "\xe2\x82", "a\x00𝄞\x80"} {
		s := strings.Repeat(piece, 100000)
		if got := impl.Crc(s); got != bitSum(s) {
			t.Errorf("Crc of %q again and again is %d, not %d", piece, got, bitSum(s))
		}
	}
}

func TestCrcTellsOneBitApart(t *testing.T) {
	for _, s := range []string{"a", "ab", "123456789", "\x00\x00\x00", "é", "\xff\x80", "a€b", "\xf0\x9d\x84\x9e"} {
		for i := range len(s) {
			for bit := range 8 {
				turned := []byte(s)
				turned[i] ^= 1 << bit
				if impl.Crc(s) == impl.Crc(string(turned)) {
					t.Errorf("Crc(%q) is that of %q", s, turned)
				}
			}
		}
	}
}

func TestCrcTellsOrderApart(t *testing.T) {
	for _, c := range [][2]string{
		{"ab", "ba"},
		{"abc", "acb"},
		{"123456789", "123456798"},
		{"123456789", "213456789"},
		{"\x00\x01", "\x01\x00"},
		{"\x00a", "a\x00"},
		{"\x80\xff", "\xff\x80"},
		{"é", "\xa9\xc3"},
		{"éa", "aé"},
		{"a", "a\x00"},
		{"a", "\x00a"},
		{"\x00", ""},
		{"\x00", "\x00\x00"},
		{"\xff", "\ufffd"},
		{"\xff", "\x80"},
		{"\xff\xff", "\ufffd\ufffd"},
	} {
		if impl.Crc(c[0]) == impl.Crc(c[1]) {
			t.Errorf("Crc(%q) is that of %q", c[0], c[1])
		}
	}
}

func TestCrcDependsOnTheBytesAlone(t *testing.T) {
	l := sumTexts()
	first := make([]int, len(l))
	for i, s := range l {
		first[i] = impl.Crc(s)
		if again := impl.Crc(s); again != first[i] {
			t.Errorf("Crc(%q) is %d, then %d", s, first[i], again)
		}
		if first[i] < 0 || first[i] > 4294967295 {
			t.Errorf("Crc(%q) is %d", s, first[i])
		}
	}
	for i := len(l) - 1; i >= 0; i-- {
		// The same bytes at another place in memory, between others that don't belong to the text.
		other := ("\xc3" + l[i] + "\xa9z")[1 : 1+len(l[i])]
		if got := impl.Crc(other); got != first[i] {
			t.Errorf("Crc(%q) is %d, then %d", l[i], first[i], got)
		}
	}
}
