package impl

import (
	"strconv"
	"strings"
)

const MaxVar = 562949953421311

// Seven bytes are the most whose number is surely no negative int.
const maxWidth = 7

// MaxVar fills this many bytes of seven bits.
const maxVarBytes = 7

// The greatest number of the nine digits that ReadDec takes.
const maxDec = 999999999

const hexDigits = "0123456789abcdef"

func Fixed(n int, width int) string {
	if width < 1 || width > maxWidth || n < 0 || n>>(8*width) != 0 {
		return ""
	}
	room := make([]byte, width)
	at := 0
	for at < width {
		at = putBytes(room, at, byte(n>>(8*(width-1-at))))
	}
	return string(room)
}

func ReadFixed(s string, width int) (int, bool) {
	if width < 1 || width > maxWidth || len(s) < width {
		return 0, false
	}
	n := 0
	for i := range width {
		n = 256*n + int(s[i])
	}
	return n, true
}

func Var(n int) string {
	if n < 0 || n > MaxVar {
		return ""
	}
	room := make([]byte, maxVarBytes)
	at := 0
	for n > 127 {
		at = putBytes(room, at, byte(n%128+128))
		n /= 128
	}
	at = putBytes(room, at, byte(n))
	return string(room[:at])
}

func ReadVar(s string) (int, int) {
	n := 0
	for i := range min(len(s), maxVarBytes) {
		n += int(s[i]%128) << (7 * i)
		if s[i] > 127 {
			continue
		}
		// A last byte 0 behind another one is needless: Var makes none.
		if s[i] == 0 && i > 0 {
			return 0, 0
		}
		return n, i + 1
	}
	return 0, 0
}

func Hex(s string) string {
	room := make([]byte, 2*len(s))
	at := 0
	for i := range len(s) {
		at = putBytes(room, at, hexDigits[s[i]/16], hexDigits[s[i]%16])
	}
	return string(room)
}

func Unhex(s string) (string, bool) {
	if len(s)%2 != 0 {
		return "", false
	}
	room := make([]byte, len(s)/2)
	at := 0
	for at < len(room) {
		high := strings.IndexByte(hexDigits, s[2*at])
		low := strings.IndexByte(hexDigits, s[2*at+1])
		if high < 0 || low < 0 {
			return "", false
		}
		at = putBytes(room, at, byte(16*high+low))
	}
	return string(room), true
}

func Dec(n int) string {
	return strconv.Itoa(n)
}

func ReadDec(s string) (int, bool) {
	n, err := strconv.Atoi(s)
	if err != nil || n < -maxDec || n > maxDec {
		return 0, false
	}
	// Atoi also takes +1, 01 and -0, of which Dec makes none.
	if Dec(n) != s {
		return 0, false
	}
	return n, true
}

// putBytes copies more bytes into the room from that place on, and tells the
// place behind them. The room is made whole ahead, so that long texts are
// not copied again and again while they grow.
func putBytes(room []byte, at int, more ...byte) int {
	return at + copy(room[at:], more)
}
