package impl

import "strconv"

const MaxBytes = 60000
const MaxNum = 281474976710655
const MaxWord = 12

const hexDigits = "0123456789abcdef"

func NumOk(n int, size int) bool {
	return sizeOk(size) && n >= 0 && n < 1<<(8*size)
}

func sizeOk(size int) bool {
	return size >= 1 && size <= 6
}

func PutNum(b []byte, n int, size int) ([]byte, bool) {
	if !NumOk(n, size) || len(b)+size > MaxBytes {
		return nil, false
	}
	// Appending to b itself could write into spare room that the caller still holds.
	out := make([]byte, len(b)+size)
	copy(out, b)
	for i := range size {
		out[len(b)+i] = byte(n >> (8 * (size - 1 - i)))
	}
	return out, true
}

func GetNum(b []byte, at int, size int) (int, bool) {
	// at + size could wrap round at a very large place; len(b) - size can't.
	if !sizeOk(size) || at < 0 || at > len(b)-size {
		return 0, false
	}
	n := 0
	for i := range size {
		n = n<<8 | int(b[at+i])
	}
	return n, true
}

func Sum16(b []byte) int {
	s := 0
	for i := range (len(b) + 1) / 2 {
		s += pairAt(b, 2*i)
		if s > 65535 {
			s -= 65535
		}
	}
	return 65535 - s
}

func pairAt(b []byte, at int) int {
	high := int(b[at]) << 8
	if at+1 == len(b) {
		return high
	}
	return high | int(b[at+1])
}

func Crc32(b []byte) int {
	register := uint32(4294967295)
	feed := func(x byte) {
		register ^= uint32(x)
		for range 8 {
			low := register & 1
			register >>= 1
			if low == 1 {
				register ^= 3988292384
			}
		}
	}
	for _, x := range b {
		feed(x)
	}
	return int(^register)
}

func HexOf(b []byte) string {
	out := make([]byte, 0, 2*len(b))
	for _, x := range b {
		out = append(out, hexDigits[x>>4], hexDigits[x&15])
	}
	return string(out)
}

func Unhex(s string) ([]byte, bool) {
	if len(s) > 2*MaxBytes || len(s)%2 != 0 {
		return nil, false
	}
	out := make([]byte, len(s)/2)
	for i := range out {
		high, highOk := hexValue(s[2*i])
		low, lowOk := hexValue(s[2*i+1])
		if !highOk || !lowOk {
			return nil, false
		}
		out[i] = high<<4 | low
	}
	return out, true
}

func hexValue(c byte) (byte, bool) {
	switch {
	case isDigit(c):
		return c - '0', true
	case c >= 'a' && c <= 'f':
		return c - 'a' + 10, true
	}
	return 0, false
}

func isDigit(c byte) bool {
	return c >= '0' && c <= '9'
}

func isSmall(c byte) bool {
	return c >= 'a' && c <= 'z'
}

func WordOk(s string) bool {
	if len(s) < 1 || len(s) > MaxWord || !isSmall(s[0]) {
		return false
	}
	for i := range len(s) {
		if !isSmall(s[i]) && !isDigit(s[i]) {
			return false
		}
	}
	return true
}

func NumText(n int) string {
	if n < 0 || n > MaxNum {
		return ""
	}
	return strconv.Itoa(n)
}

func TextNum(s string) (int, bool) {
	n, err := strconv.Atoi(s)
	// Atoi also takes signs and noughts ahead; only the text that is written back is one.
	if err != nil || NumText(n) != s {
		return 0, false
	}
	return n, true
}
