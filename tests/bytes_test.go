package tests

import (
	"bytes"
	"encoding/hex"
	"hash/crc32"
	"math"
	"math/big"
	"strconv"
	"strings"
	"testing"

	"loop.example/g00391/impl"
)

// wave makes n bytes in which neighbours differ and every value comes up.
func wave(n int) []byte {
	b := make([]byte, n)
	for i := range b {
		b[i] = byte(i*167 + i/256*31 + 13)
	}
	return b
}

// roomy makes a list with spare room behind it, and hands out that room too.
func roomy(b []byte, room int) ([]byte, []byte) {
	whole := make([]byte, len(b)+room)
	copy(whole, b)
	for i := len(b); i < len(whole); i++ {
		whole[i] = 0xee
	}
	return whole[:len(b)], whole
}

// limit is 256^size, worked out without shifts.
func limit(size int) int {
	n := 1
	for range size {
		n *= 256
	}
	return n
}

// sample has the edges of a number in size bytes and some between them.
func sample(size int) []int {
	top := limit(size) - 1
	return []int{0, 1, 127, 128, 254, 255, top, top - 1, top / 2, top/2 + 1, top / 3, top / 255}
}

func wrongSizes() []int {
	return []int{0, 7, 8, 9, 64, -1, -6, math.MinInt, math.MaxInt, 1 << 32, 1<<32 + 1, 1<<32 + 6, math.MaxInt - 5}
}

func TestNumOk(t *testing.T) {
	for size := 1; size <= 6; size++ {
		for _, n := range sample(size) {
			if !impl.NumOk(n, size) {
				t.Errorf("NumOk(%d, %d) is false", n, size)
			}
		}
		for _, n := range []int{-1, -255, -limit(size), math.MinInt, limit(size), limit(size) + 1, math.MaxInt} {
			if impl.NumOk(n, size) {
				t.Errorf("NumOk(%d, %d) is true", n, size)
			}
		}
	}
	for _, size := range wrongSizes() {
		for _, n := range []int{-1, 0, 1, 255, impl.MaxNum, math.MinInt, math.MaxInt} {
			if impl.NumOk(n, size) {
				t.Errorf("NumOk(%d, %d) is true", n, size)
			}
		}
	}
}

func TestNumLimits(t *testing.T) {
	if impl.MaxBytes != 60000 || impl.MaxNum != 1<<48-1 || impl.MaxWord != 12 {
		t.Error("a constant isn't the document's")
	}
	if !impl.NumOk(impl.MaxNum, 6) || impl.NumOk(impl.MaxNum+1, 6) || impl.NumOk(impl.MaxNum, 5) {
		t.Error("MaxNum isn't the greatest number of six bytes")
	}
}

func TestPutNumWrites(t *testing.T) {
	for _, ahead := range [][]byte{nil, {}, {0}, {255, 0, 7}, wave(300)} {
		for size := 1; size <= 6; size++ {
			for _, n := range sample(size) {
				got, ok := impl.PutNum(ahead, n, size)
				want := append(bytes.Clone(ahead), big.NewInt(int64(n)).FillBytes(make([]byte, size))...)
				if !ok || !bytes.Equal(got, want) {
					t.Errorf("PutNum(%d bytes, %d, %d): %v %v, not %v", len(ahead), n, size, got, ok, want)
				}
			}
		}
	}
	got, ok := impl.PutNum([]byte{9}, 0x010203040506, 6)
	if !ok || !bytes.Equal(got, []byte{9, 1, 2, 3, 4, 5, 6}) {
		t.Errorf("the highest byte isn't first: %v %v", got, ok)
	}
}

func TestPutNumRefuses(t *testing.T) {
	refuse := func(b []byte, n int, size int) {
		t.Helper()
		if got, ok := impl.PutNum(b, n, size); ok || len(got) != 0 {
			t.Errorf("PutNum(%d bytes, %d, %d): %d bytes, %v", len(b), n, size, len(got), ok)
		}
	}
	for _, b := range [][]byte{nil, {1, 2}} {
		for size := 1; size <= 6; size++ {
			for _, n := range []int{-1, math.MinInt, -limit(size), limit(size), limit(size) + 1, math.MaxInt} {
				refuse(b, n, size)
			}
		}
		for _, size := range wrongSizes() {
			refuse(b, 0, size)
			refuse(b, 1, size)
			refuse(b, -1, size)
			refuse(b, math.MaxInt, size)
		}
	}
	refuse(wave(impl.MaxBytes), 0, 0)
}

func TestPutNumMaxBytes(t *testing.T) {
	for size := 1; size <= 6; size++ {
		full := wave(impl.MaxBytes - size)
		got, ok := impl.PutNum(full, 200, size)
		if !ok || len(got) != impl.MaxBytes || !bytes.Equal(got[:len(full)], full) || got[len(got)-1] != 200 {
			t.Errorf("size %d up to MaxBytes: %d bytes, %v", size, len(got), ok)
		}
		for _, n := range []int{impl.MaxBytes - size + 1, impl.MaxBytes, impl.MaxBytes + 1, 2 * impl.MaxBytes} {
			if got, ok := impl.PutNum(wave(n), 0, size); ok || len(got) != 0 {
				t.Errorf("size %d behind %d bytes: %d bytes, %v", size, n, len(got), ok)
			}
		}
	}
}

func TestPutNumNewMemory(t *testing.T) {
	b, whole := roomy([]byte{1, 2, 3}, 16)
	before := bytes.Clone(whole)
	one, _ := impl.PutNum(b, 258, 2)
	two, _ := impl.PutNum(b, 772, 2)
	if !bytes.Equal(whole, before) {
		t.Errorf("the argument or the room behind it is changed: %v", whole)
	}
	if !bytes.Equal(one, []byte{1, 2, 3, 1, 2}) || !bytes.Equal(two, []byte{1, 2, 3, 3, 4}) {
		t.Errorf("two answers share memory: %v %v", one, two)
	}
	for i := range one {
		one[i] = 99
	}
	if !bytes.Equal(whole, before) || !bytes.Equal(two, []byte{1, 2, 3, 3, 4}) {
		t.Error("an answer shares memory with the argument or another answer")
	}
}

func TestGetNumReads(t *testing.T) {
	b := wave(40)
	before := bytes.Clone(b)
	for size := 1; size <= 6; size++ {
		for at := 0; at+size <= len(b); at++ {
			want := int(new(big.Int).SetBytes(b[at : at+size]).Int64())
			if got, ok := impl.GetNum(b, at, size); !ok || got != want {
				t.Errorf("GetNum at %d of %d bytes: %d %v, not %d", at, size, got, ok, want)
			}
		}
	}
	if !bytes.Equal(b, before) {
		t.Error("the argument is changed")
	}
	high := bytes.Repeat([]byte{255}, 6)
	for size := 1; size <= 6; size++ {
		if got, ok := impl.GetNum(high, 6-size, size); !ok || got != limit(size)-1 {
			t.Errorf("the greatest of %d bytes: %d %v", size, got, ok)
		}
	}
	long := append(make([]byte, 2*impl.MaxBytes), 7)
	if got, ok := impl.GetNum(long, 2*impl.MaxBytes, 1); !ok || got != 7 {
		t.Errorf("behind 2 MaxBytes bytes: %d %v", got, ok)
	}
}

func TestGetNumRefuses(t *testing.T) {
	refuse := func(b []byte, at int, size int) {
		t.Helper()
		if got, ok := impl.GetNum(b, at, size); ok || got != 0 {
			t.Errorf("GetNum(%d bytes, %d, %d): %d %v", len(b), at, size, got, ok)
		}
	}
	lists := [][]byte{nil, {}, {1}, wave(5), wave(6), wave(20)}
	for _, b := range lists {
		for size := 1; size <= 6; size++ {
			for _, at := range []int{len(b) - size + 1, len(b), len(b) + 1, math.MaxInt, math.MaxInt - size, math.MaxInt - size + 1, 1 << 32} {
				if at >= 0 {
					refuse(b, at, size)
				}
			}
			for _, at := range []int{-1, -size, -7, math.MinInt, math.MinInt + 1} {
				refuse(b, at, size)
			}
		}
		for _, size := range wrongSizes() {
			for _, at := range []int{0, 1, len(b), -1, math.MaxInt, math.MinInt} {
				refuse(b, at, size)
			}
		}
	}
	roomyList, _ := roomy([]byte{1, 2}, 8)
	refuse(roomyList, 1, 2)
	refuse(roomyList, 2, 1)
}

func TestNumsAreReadAsWritten(t *testing.T) {
	for size := 1; size <= 6; size++ {
		for _, n := range sample(size) {
			for _, ahead := range []int{0, 1, 9} {
				b, _ := impl.PutNum(wave(ahead), n, size)
				b = append(b, 255, 255)
				if got, ok := impl.GetNum(b, ahead, size); !ok || got != n {
					t.Errorf("%d in %d bytes behind %d: read as %d %v", n, size, ahead, got, ok)
				}
			}
		}
	}
	for size := 1; size <= 6; size++ {
		b := wave(size + 3)
		n, _ := impl.GetNum(b, 3, size)
		if got, ok := impl.PutNum(b[:3], n, size); !ok || !bytes.Equal(got, b) {
			t.Errorf("%v read and written again: %v %v", b, got, ok)
		}
	}
}

// plainSum is Sum16 by the rest of a division, with the one value that this can't tell apart set right.
func plainSum(b []byte) int {
	total := 0
	for i, x := range b {
		if i%2 == 0 {
			total += 256 * int(x)
		} else {
			total += int(x)
		}
	}
	if total > 0 && total%65535 == 0 {
		return 0
	}
	return 65535 - total%65535
}

func TestSum16(t *testing.T) {
	cases := []struct {
		b    []byte
		want int
	}{
		{nil, 65535},
		{[]byte{}, 65535},
		{[]byte{0}, 65535},
		{[]byte{0, 0}, 65535},
		{[]byte{1}, 65535 - 256},
		{[]byte{0, 1}, 65534},
		{[]byte{255}, 255},
		{[]byte{255, 255}, 0},
		{[]byte{255, 255, 255, 255}, 0},
		{[]byte{255, 255, 0, 1}, 65534},
		{[]byte{255, 254, 0, 1}, 0},
		{[]byte{255, 255, 1}, 65535 - 256},
		{[]byte{1, 2, 3}, 65535 - 258 - 768},
		{[]byte{128, 0, 128, 0}, 65534},
	}
	for _, c := range cases {
		if got := impl.Sum16(c.b); got != c.want {
			t.Errorf("Sum16(%v): %d, not %d", c.b, got, c.want)
		}
	}
	for _, n := range []int{2, 3, 20, 21, 511, 512, 1500, impl.MaxBytes, impl.MaxBytes + 1, 2*impl.MaxBytes + 1} {
		b := wave(n)
		before := bytes.Clone(b)
		if got := impl.Sum16(b); got != plainSum(b) {
			t.Errorf("Sum16 of %d bytes: %d, not %d", n, got, plainSum(b))
		}
		if !bytes.Equal(b, before) {
			t.Errorf("Sum16 changed its %d bytes", n)
		}
	}
}

func TestSum16LastByte(t *testing.T) {
	for _, n := range []int{0, 1, 2, 7, 8} {
		b, _ := roomy(wave(2*n+1), 4)
		padded := append(bytes.Clone(b), 0)
		if impl.Sum16(b) != impl.Sum16(padded) {
			t.Errorf("the last of %d bytes isn't the high byte of a pair with 0", len(b))
		}
	}
}

func TestCrc32(t *testing.T) {
	if got := impl.Crc32([]byte("123456789")); got != 3421780262 {
		t.Errorf("Crc32 of nine digits: %d", got)
	}
	for x := range 256 {
		b := []byte{byte(x)}
		if got := impl.Crc32(b); got != int(crc32.ChecksumIEEE(b)) {
			t.Errorf("Crc32(%v): %d, not %d", b, got, crc32.ChecksumIEEE(b))
		}
	}
	for _, n := range []int{0, 2, 3, 4, 5, 18, 1500, impl.MaxBytes, 2*impl.MaxBytes + 1} {
		b := wave(n)
		before := bytes.Clone(b)
		if got := impl.Crc32(b); got != int(crc32.ChecksumIEEE(b)) || got < 0 {
			t.Errorf("Crc32 of %d bytes: %d, not %d", n, got, crc32.ChecksumIEEE(b))
		}
		if !bytes.Equal(b, before) {
			t.Errorf("Crc32 changed its %d bytes", n)
		}
	}
	if impl.Crc32(nil) != 0 || impl.Crc32([]byte{0, 0}) == impl.Crc32([]byte{0}) {
		t.Error("Crc32 of no bytes, or of noughts")
	}
}

func TestHexOf(t *testing.T) {
	for x := range 256 {
		b := []byte{byte(x)}
		if got := impl.HexOf(b); got != hex.EncodeToString(b) {
			t.Errorf("HexOf(%v): %q", b, got)
		}
	}
	if impl.HexOf(nil) != "" || impl.HexOf([]byte{}) != "" {
		t.Error("HexOf of no bytes isn't the empty text")
	}
	for _, n := range []int{2, 3, 300, impl.MaxBytes, impl.MaxBytes + 1} {
		b := wave(n)
		before := bytes.Clone(b)
		if got := impl.HexOf(b); got != hex.EncodeToString(b) {
			t.Errorf("HexOf of %d bytes is wrong", n)
		}
		if !bytes.Equal(b, before) {
			t.Errorf("HexOf changed its %d bytes", n)
		}
	}
}

func TestUnhexReadsWhatHexOfWrites(t *testing.T) {
	for _, n := range []int{0, 1, 2, 3, 256, 700, impl.MaxBytes - 1, impl.MaxBytes} {
		b := wave(n)
		got, ok := impl.Unhex(impl.HexOf(b))
		if !ok || !bytes.Equal(got, b) {
			t.Errorf("%d bytes aren't read as they were written: %v", n, ok)
		}
	}
	got, ok := impl.Unhex("00ff10afe9")
	if !ok || !bytes.Equal(got, []byte{0, 255, 16, 175, 233}) {
		t.Errorf("Unhex: %v %v", got, ok)
	}
	one, _ := impl.Unhex("0102")
	two, _ := impl.Unhex("0102")
	one[0] = 9
	if two[0] != 1 {
		t.Error("two answers share memory")
	}
}

func TestUnhexEveryPair(t *testing.T) {
	const digits = "0123456789abcdef"
	for a := range 256 {
		for b := range 256 {
			s := string([]byte{byte(a), byte(b)})
			high, low := strings.IndexByte(digits, byte(a)), strings.IndexByte(digits, byte(b))
			got, ok := impl.Unhex(s)
			if high < 0 || low < 0 {
				if ok || len(got) != 0 {
					t.Fatalf("Unhex(%q): %v %v", s, got, ok)
				}
				continue
			}
			if !ok || len(got) != 1 || int(got[0]) != 16*high+low {
				t.Fatalf("Unhex(%q): %v %v", s, got, ok)
			}
		}
	}
}

func TestUnhexRefuses(t *testing.T) {
	wrong := []string{
		"0", "f", "abc", "00000", "0A", "A0", "FF", "0g", "g0", "0x", "0x10", " 00", "00 ", "00\n", "+1", "-1",
		"00é", "é", "００", "0000zz", "zz0000", "00A0", strings.Repeat("0", 99),
		strings.Repeat("0", 2*impl.MaxBytes-1), strings.Repeat("0", 2*impl.MaxBytes+1),
		strings.Repeat("0", 2*impl.MaxBytes+2), strings.Repeat("ab", 2*impl.MaxBytes),
		strings.Repeat("0", 2*impl.MaxBytes-1) + "F", "F" + strings.Repeat("0", 2*impl.MaxBytes-1),
	}
	for _, s := range wrong {
		if got, ok := impl.Unhex(s); ok || len(got) != 0 {
			t.Errorf("Unhex of %d bytes that begin %.8q: %d bytes, %v", len(s), s, len(got), ok)
		}
	}
}

func TestWordOk(t *testing.T) {
	right := []string{"a", "z", "a9", "z0", "switch", "x1y2z3", "abcdefghijkl", "a00000000000", "not", "nopqrstuvwxy"}
	for _, s := range right {
		if !impl.WordOk(s) {
			t.Errorf("%q isn't taken for a word", s)
		}
	}
	wrong := []string{
		"", "0", "9a", "1", "A", "aB", "Ab", "a b", " a", "a ", "a_b", "a-b", "a.b", "a\n", "\x00", "a\x00", "é", "aé", "a\xff",
		"abcdefghijklm", "a000000000000", "9bcdefghijkl", "abcdefghijkL", "abcdefghijk-", strings.Repeat("a", 1000),
	}
	for _, s := range wrong {
		if impl.WordOk(s) {
			t.Errorf("%q is taken for a word", s)
		}
	}
	if !impl.WordOk(strings.Repeat("w", impl.MaxWord)) || impl.WordOk(strings.Repeat("w", impl.MaxWord+1)) {
		t.Error("MaxWord isn't the length of the longest word")
	}
}

func TestWordOkEveryByte(t *testing.T) {
	for x := range 256 {
		c := byte(x)
		letter := 'a' <= c && c <= 'z'
		digit := '0' <= c && c <= '9'
		if impl.WordOk(string([]byte{c})) != letter {
			t.Errorf("the byte %d as a word", x)
		}
		if impl.WordOk(string([]byte{c, 'a'})) != letter {
			t.Errorf("the byte %d at the front of a word", x)
		}
		for at := 1; at < impl.MaxWord; at++ {
			s := []byte(strings.Repeat("k", impl.MaxWord))
			s[at] = c
			if impl.WordOk(string(s)) != (letter || digit) {
				t.Errorf("the byte %d at place %d of a word", x, at)
			}
		}
	}
}

func TestNumText(t *testing.T) {
	for _, n := range []int{0, 1, 9, 10, 11, 99, 100, 101, 65535, 1000000, 4294967296, 100000000000000, impl.MaxNum - 1, impl.MaxNum} {
		if got := impl.NumText(n); got != big.NewInt(int64(n)).String() {
			t.Errorf("NumText(%d): %q", n, got)
		}
	}
	for _, n := range []int{-1, -10, math.MinInt, impl.MaxNum + 1, impl.MaxNum + 2, math.MaxInt, -impl.MaxNum} {
		if got := impl.NumText(n); got != "" {
			t.Errorf("NumText(%d): %q", n, got)
		}
	}
}

func TestTextNumReadsWhatNumTextWrites(t *testing.T) {
	for n := range 3000 {
		if got, ok := impl.TextNum(impl.NumText(n)); !ok || got != n {
			t.Errorf("%d is read as %d %v", n, got, ok)
		}
	}
	for n := 1; n <= impl.MaxNum; n *= 2 {
		for _, k := range []int{n - 1, n, impl.MaxNum - n, impl.MaxNum - n + 1} {
			if got, ok := impl.TextNum(strconv.Itoa(k)); !ok || got != k {
				t.Errorf("%d is read as %d %v", k, got, ok)
			}
		}
	}
}

func TestTextNumRefuses(t *testing.T) {
	wrong := []string{
		"", "00", "01", "007", "0000", "-1", "-0", "+0", "+1", "-", "+", " 1", "1 ", "1\n", "\t1", "1.0", "1e3", "1_000", "0x10", "0b1", "0o7",
		"a", "1a", "a1", "1,2", "\x00", "1\x00", "١", "１", "é", "true",
		"281474976710656", "281474976710657", "999999999999999", "1000000000000000", "9223372036854775807",
		"9223372036854775808", "18446744073709551616", "18446744073709551617", "-281474976710655", "0281474976710655",
		strings.Repeat("0", 40) + "1", strings.Repeat("1", 100000), strings.Repeat("9", 2*impl.MaxBytes),
	}
	for _, s := range wrong {
		if got, ok := impl.TextNum(s); ok || got != 0 {
			t.Errorf("TextNum of %d bytes that begin %.20q: %d %v", len(s), s, got, ok)
		}
	}
}

func TestTextNumEveryShortText(t *testing.T) {
	const alphabet = "0123456789+-_. aAx/:"
	texts := []string{""}
	for at := 0; at < len(texts); at++ {
		s := texts[at]
		got, ok := impl.TextNum(s)
		plain := s != "" && strings.Trim(s, "0123456789") == "" && (s == "0" || s[0] != '0')
		want := 0
		if plain {
			for _, c := range []byte(s) {
				want = 10*want + int(c-'0')
			}
		}
		if ok != plain || got != want {
			t.Errorf("TextNum(%q): %d %v, not %d %v", s, got, ok, want, plain)
		}
		if len(s) < 3 {
			for _, c := range []byte(alphabet) {
				texts = append(texts, s+string(c))
			}
		}
	}
}
