package tests

import (
	"bytes"
	"encoding/binary"
	"math"
	"testing"

	"loop.example/g00391/impl"
)

const maxEnd = 1<<32 - 1

func sameIp(a impl.Ip, b impl.Ip) bool {
	return a.Ttl == b.Ttl && a.Proto == b.Proto && a.Src == b.Src && a.Dst == b.Dst && bytes.Equal(a.Data, b.Data)
}

func sameUdp(a impl.Udp, b impl.Udp) bool {
	return a.Src == b.Src && a.Dst == b.Dst && bytes.Equal(a.Data, b.Data)
}

func noIp(d impl.Ip) bool { return sameIp(d, impl.Ip{}) }

func noUdp(u impl.Udp) bool { return sameUdp(u, impl.Udp{}) }

func copyIp(d impl.Ip) impl.Ip {
	d.Data = bytes.Clone(d.Data)
	return d
}

func copyUdp(u impl.Udp) impl.Udp {
	u.Data = bytes.Clone(u.Data)
	return u
}

// ipSummed puts the sum into the head of b, whatever b is, without the program's help:
// the rest of a division stands for the carries, and 65535 for a rest of 0.
func ipSummed(b []byte) []byte {
	out := bytes.Clone(b)
	out[10], out[11] = 0, 0
	total := 0
	for i := 0; i < 20; i += 2 {
		total += int(binary.BigEndian.Uint16(out[i:]))
	}
	rest := total % 65535
	if rest == 0 && total > 0 {
		rest = 65535
	}
	binary.BigEndian.PutUint16(out[10:], uint16(65535-rest))
	return out
}

// ipSpelled writes a datagram without the program's help.
func ipSpelled(d impl.Ip) []byte {
	b := []byte{69, 0}
	b = binary.BigEndian.AppendUint16(b, uint16(20+len(d.Data)))
	b = append(b, 0, 0, 0, 0, byte(d.Ttl), byte(d.Proto), 0, 0)
	b = binary.BigEndian.AppendUint32(b, uint32(d.Src))
	b = binary.BigEndian.AppendUint32(b, uint32(d.Dst))
	return ipSummed(append(b, d.Data...))
}

func udpSpelled(u impl.Udp) []byte {
	b := binary.BigEndian.AppendUint16(nil, uint16(u.Src))
	b = binary.BigEndian.AppendUint16(b, uint16(u.Dst))
	b = binary.BigEndian.AppendUint16(b, uint16(8+len(u.Data)))
	return append(append(b, 0, 0), u.Data...)
}

// ipReadCode is the code of the document for b, asked one by one.
func ipReadCode(b []byte) int {
	switch {
	case len(b) < 20 || len(b) > 1500:
		return 1
	case b[0] != 69:
		return 2
	case b[1] != 0 || b[4] != 0 || b[5] != 0 || b[6] != 0 || b[7] != 0:
		return 3
	case int(b[2])*256+int(b[3]) != len(b):
		return 4
	case !bytes.Equal(ipSummed(b), b):
		return 5
	}
	return 0
}

func udpReadCode(b []byte) int {
	switch {
	case len(b) < 8 || len(b) > 1480:
		return 1
	case int(b[4])*256+int(b[5]) != len(b):
		return 2
	case b[6] != 0 || b[7] != 0:
		return 3
	}
	return 0
}

func octets() []int { return []int{0, 1, 2, 16, 17, 127, 128, 254, 255} }

func wrongOctets() []int {
	return []int{-1, -2, 256, 257, 1<<16 + 64, 1<<32 + 64, -192, math.MinInt, math.MaxInt}
}

func ipEnds() []int {
	return []int{0, 1, 255, 256, 65535, 65536, 0x01020304, 1 << 31, maxEnd - 1, maxEnd}
}

func wrongIpEnds() []int {
	return []int{-1, -2, -maxEnd, maxEnd + 1, maxEnd + 2, 1 << 33, impl.MaxNum, math.MinInt, math.MaxInt}
}

func udpEnds() []int { return []int{0, 1, 53, 255, 256, 0x0102, 32768, 65534, 65535} }

func wrongUdpEnds() []int {
	return []int{-1, -2, -65535, 65536, 65537, 1<<16 + 53, 1<<32 + 53, maxEnd, math.MinInt, math.MaxInt}
}

func ipDatas() [][]byte {
	return [][]byte{nil, {}, {0}, {255}, wave(2), wave(45), wave(1472), wave(1473), wave(1479), wave(1480)}
}

func longIpDatas() [][]byte {
	return [][]byte{wave(1481), wave(1482), wave(1500), wave(1501), wave(65516), wave(2 * impl.MaxBytes)}
}

func udpDatas() [][]byte {
	return [][]byte{nil, {}, {0}, {255}, wave(2), wave(45), wave(1471), wave(1472)}
}

func longUdpDatas() [][]byte {
	return [][]byte{wave(1473), wave(1474), wave(1480), wave(1500), wave(65528), wave(2 * impl.MaxBytes)}
}

func rightIps() []impl.Ip {
	base := impl.Ip{Ttl: 64, Proto: 17, Src: 0x0a0b0c0d, Dst: 0x01020304, Data: []byte("hello")}
	l := []impl.Ip{base, {}, {Ttl: 255, Proto: 255, Src: maxEnd, Dst: maxEnd, Data: wave(1480)}}
	for _, n := range octets() {
		d, e := base, base
		d.Ttl, e.Proto = n, n
		l = append(l, d, e)
	}
	for _, n := range ipEnds() {
		d, e := base, base
		d.Src, e.Dst = n, n
		l = append(l, d, e)
	}
	for _, data := range ipDatas() {
		d := base
		d.Data = data
		l = append(l, d)
	}
	return l
}

// wrongIps has one wrong field each, and one datagram in which all are wrong.
func wrongIps() []impl.Ip {
	base := impl.Ip{Ttl: 64, Proto: 17, Src: 5, Dst: 6, Data: []byte("hello")}
	l := []impl.Ip{{Ttl: -1, Proto: -1, Src: -1, Dst: -1, Data: wave(1481)}}
	for _, n := range wrongOctets() {
		d, e := base, base
		d.Ttl, e.Proto = n, n
		l = append(l, d, e)
	}
	for _, n := range wrongIpEnds() {
		d, e := base, base
		d.Src, e.Dst = n, n
		l = append(l, d, e)
	}
	for _, data := range longIpDatas() {
		d := base
		d.Data = data
		l = append(l, d)
	}
	return l
}

func rightUdps() []impl.Udp {
	base := impl.Udp{Src: 0x0a0b, Dst: 0x0102, Data: []byte("hello")}
	l := []impl.Udp{base, {}, {Src: 65535, Dst: 65535, Data: wave(1472)}}
	for _, n := range udpEnds() {
		u, v := base, base
		u.Src, v.Dst = n, n
		l = append(l, u, v)
	}
	for _, data := range udpDatas() {
		u := base
		u.Data = data
		l = append(l, u)
	}
	return l
}

func wrongUdps() []impl.Udp {
	base := impl.Udp{Src: 5, Dst: 6, Data: []byte("hello")}
	l := []impl.Udp{{Src: -1, Dst: -1, Data: wave(1473)}}
	for _, n := range wrongUdpEnds() {
		u, v := base, base
		u.Src, v.Dst = n, n
		l = append(l, u, v)
	}
	for _, data := range longUdpDatas() {
		u := base
		u.Data = data
		l = append(l, u)
	}
	return l
}

func TestIpConstants(t *testing.T) {
	if impl.IpType != 2048 || impl.UdpProto != 17 {
		t.Error("a constant isn't the document's")
	}
}

func TestIpOk(t *testing.T) {
	for _, d := range rightIps() {
		if !impl.IpOk(d) {
			t.Errorf("%d %d %d %d with %d bytes isn't right", d.Ttl, d.Proto, d.Src, d.Dst, len(d.Data))
		}
	}
	for _, d := range wrongIps() {
		if impl.IpOk(d) {
			t.Errorf("%d %d %d %d with %d bytes is right", d.Ttl, d.Proto, d.Src, d.Dst, len(d.Data))
		}
	}
	for n := -300; n < 600; n++ {
		if impl.IpOk(impl.Ip{Ttl: n}) != (n >= 0 && n <= 255) || impl.IpOk(impl.Ip{Proto: n}) != (n >= 0 && n <= 255) {
			t.Errorf("a Ttl or Proto of %d", n)
		}
	}
	for n := range 1600 {
		if impl.IpOk(impl.Ip{Data: make([]byte, n)}) != (n <= 1480) {
			t.Errorf("%d bytes of Data", n)
		}
	}
}

func TestIpBytesWrites(t *testing.T) {
	for _, d := range rightIps() {
		before := copyIp(d)
		b, ok := impl.IpBytes(d)
		if !ok || !bytes.Equal(b, ipSpelled(d)) {
			t.Errorf("%d %d %d %d with %d bytes: %v %v", d.Ttl, d.Proto, d.Src, d.Dst, len(d.Data), b, ok)
		}
		if !sameIp(d, before) {
			t.Error("the argument is changed")
		}
	}
	b, _ := impl.IpBytes(impl.Ip{Ttl: 7, Proto: 17, Src: 0x01020304, Dst: 0x05060708, Data: []byte{0x55}})
	if !bytes.Equal(b, []byte{69, 0, 0, 21, 0, 0, 0, 0, 7, 17, 0xa3, 0xc5, 1, 2, 3, 4, 5, 6, 7, 8, 0x55}) {
		t.Errorf("a datagram by hand: %v", b)
	}
}

func TestIpBytesRefuses(t *testing.T) {
	for _, d := range wrongIps() {
		if b, ok := impl.IpBytes(d); ok || len(b) != 0 {
			t.Errorf("%d %d %d %d with %d bytes: %d bytes, %v", d.Ttl, d.Proto, d.Src, d.Dst, len(d.Data), len(b), ok)
		}
	}
}

func TestIpBytesNewMemory(t *testing.T) {
	for _, text := range []string{"", "hello"} {
		data, whole := roomy([]byte(text), 40)
		before := bytes.Clone(whole)
		d := impl.Ip{Ttl: 9, Proto: 17, Src: 1, Dst: 2, Data: data}
		one, _ := impl.IpBytes(d)
		two, _ := impl.IpBytes(d)
		for i := range one {
			one[i] = 99
		}
		if !bytes.Equal(whole, before) || !bytes.Equal(two, ipSpelled(d)) {
			t.Error("an answer shares memory with the argument or another answer")
		}
	}
}

func TestIpHeadSumsToNought(t *testing.T) {
	for _, d := range rightIps() {
		b, ok := impl.IpBytes(d)
		if !ok || impl.Sum16(b[:20]) != 0 {
			t.Errorf("%d %d %d %d with %d bytes: the head, its sum in it, doesn't sum to 0", d.Ttl, d.Proto, d.Src, d.Dst, len(d.Data))
		}
	}
}

func TestIpSumIsOfTheHeadAlone(t *testing.T) {
	one, _ := impl.IpBytes(impl.Ip{Ttl: 3, Proto: 4, Src: 5, Dst: 6, Data: []byte{1, 2, 3}})
	two, _ := impl.IpBytes(impl.Ip{Ttl: 3, Proto: 4, Src: 5, Dst: 6, Data: []byte{9, 8, 7}})
	if len(one) != 23 || len(two) != 23 || !bytes.Equal(one[:20], two[:20]) {
		t.Error("the sum hangs on the Data")
	}
}

func TestIpsAreReadAsWritten(t *testing.T) {
	for _, d := range rightIps() {
		b, _ := impl.IpBytes(d)
		e, code := impl.IpRead(b)
		if code != 0 || !sameIp(d, e) {
			t.Errorf("%d %d %d %d with %d bytes is read as %d %d %d %d with %d, code %d", d.Ttl, d.Proto, d.Src, d.Dst, len(d.Data), e.Ttl, e.Proto, e.Src, e.Dst, len(e.Data), code)
		}
	}
}

// checkIpRead holds what is read against the document's codes, and what is written of it against b.
func checkIpRead(t *testing.T, b []byte) {
	t.Helper()
	before := bytes.Clone(b)
	d, code := impl.IpRead(b)
	if !bytes.Equal(b, before) {
		t.Error("IpRead changed its argument")
	}
	if code != ipReadCode(b) {
		t.Errorf("%d bytes (%x ..): code %d, not %d", len(b), b[:min(len(b), 20)], code, ipReadCode(b))
	}
	if code != 0 && !noIp(d) {
		t.Errorf("a datagram beside the code %d", code)
	}
	if code == 0 {
		again, ok := impl.IpBytes(d)
		if !ok || !bytes.Equal(again, b) || !bytes.Equal(ipSpelled(d), b) {
			t.Errorf("%d bytes are read with code 0 and written as %d others, %v", len(b), len(again), ok)
		}
	}
}

// ipSized writes a head that tells its own length ahead of as many bytes as fill b up to n.
func ipSized(n int) []byte {
	b := ipSpelled(impl.Ip{Ttl: 64, Proto: 17, Src: 1, Dst: 2, Data: wave(max(n, 20) - 20)})
	return b[:n]
}

func TestIpReadEveryLength(t *testing.T) {
	for n := range 1600 {
		checkIpRead(t, ipSized(n))
	}
	checkIpRead(t, nil)
	checkIpRead(t, []byte{})
	checkIpRead(t, ipSized(65535))
	checkIpRead(t, ipSized(65556))
	checkIpRead(t, make([]byte, 2*impl.MaxBytes))
	for _, c := range []struct{ size, code int }{{0, 1}, {19, 1}, {20, 0}, {1500, 0}, {1501, 1}} {
		if d, code := impl.IpRead(ipSized(c.size)); code != c.code || code != 0 && !noIp(d) {
			t.Errorf("%d bytes: code %d, not %d", c.size, code, c.code)
		}
	}
}

// set changes places of b and sets the sum right again, so that only the change is at fault.
func set(b []byte, change map[int]byte) []byte {
	out := bytes.Clone(b)
	for at, x := range change {
		out[at] = x
	}
	return ipSummed(out)
}

func TestIpReadCodes(t *testing.T) {
	good := ipSized(25)
	cases := []struct {
		what string
		b    []byte
		code int
	}{
		{"as written", good, 0},
		{"version 6", set(good, map[int]byte{0: 96}), 2},
		{"a longer head", set(good, map[int]byte{0: 70}), 2},
		{"a first byte of 0", set(good, map[int]byte{0: 0}), 2},
		{"a second byte", set(good, map[int]byte{1: 1}), 3},
		{"a second byte of 255", set(good, map[int]byte{1: 255}), 3},
		{"place 4", set(good, map[int]byte{4: 1}), 3},
		{"place 5", set(good, map[int]byte{5: 1}), 3},
		{"place 6", set(good, map[int]byte{6: 64}), 3},
		{"place 7", set(good, map[int]byte{7: 1}), 3},
		{"a length of 0", set(good, map[int]byte{3: 0}), 4},
		{"a length one less", set(good, map[int]byte{3: 24}), 4},
		{"a length one more", set(good, map[int]byte{3: 26}), 4},
		{"a high byte in the length", set(good, map[int]byte{2: 1}), 4},
		{"the length of the Data", set(good, map[int]byte{3: 5}), 4},
		{"two codes: 2 and 3", set(good, map[int]byte{0: 70, 1: 1}), 2},
		{"two codes: 2 and 4", set(good, map[int]byte{0: 70, 3: 1}), 2},
		{"two codes: 3 and 4", set(good, map[int]byte{7: 1, 3: 1}), 3},
		{"two codes: 1 and 2", set(ipSized(1501), map[int]byte{0: 70}), 1},
		{"two codes: 1 and 3", set(ipSized(1501), map[int]byte{1: 70}), 1},
		{"two codes: 1 and 4", set(ipSized(1501), map[int]byte{3: 0}), 1},
		{"noughts", make([]byte, 20), 2},
		{"ones", bytes.Repeat([]byte{255}, 20), 2},
		{"69 and noughts", append([]byte{69}, make([]byte, 19)...), 4},
	}
	for _, c := range cases {
		if d, code := impl.IpRead(c.b); code != c.code || code != 0 && !noIp(d) {
			t.Errorf("%s: code %d, not %d", c.what, code, c.code)
		}
		checkIpRead(t, c.b)
		if len(c.b) < 20 || len(c.b) > 1500 {
			continue
		}
		wrong := bytes.Clone(c.b)
		wrong[11] ^= 1
		want := c.code
		if want == 0 {
			want = 5
		}
		if _, code := impl.IpRead(wrong); code != want {
			t.Errorf("%s and a wrong sum: code %d, not %d", c.what, code, want)
		}
	}
}

func TestIpReadEveryFirstBytes(t *testing.T) {
	good := ipSized(30)
	for x := range 256 {
		for at := range 20 {
			b := bytes.Clone(good)
			b[at] = byte(x)
			checkIpRead(t, b)
			checkIpRead(t, ipSummed(b))
		}
	}
}

func TestIpReadEverySum(t *testing.T) {
	for _, d := range []impl.Ip{{Ttl: 64, Proto: 17, Src: 1, Dst: 2}, {Ttl: 255, Proto: 255, Src: maxEnd, Dst: maxEnd}, {Src: 65535 - 69*256 - 20}} {
		b := ipSpelled(d)
		for n := range 65536 {
			binary.BigEndian.PutUint16(b[10:], uint16(n))
			checkIpRead(t, b)
		}
	}
}

func TestIpReadSumsOfNoughtAndOnes(t *testing.T) {
	// The other pairs of this head sum to 65535, so that its sum is 0.
	d := impl.Ip{Src: 65535 - 69*256 - 20}
	b, ok := impl.IpBytes(d)
	if !ok || b[10] != 0 || b[11] != 0 {
		t.Fatalf("the sum isn't 0: %v", b)
	}
	if got, code := impl.IpRead(b); code != 0 || !sameIp(got, d) {
		t.Errorf("a sum of 0 is read with code %d", code)
	}
	b[10], b[11] = 255, 255
	if got, code := impl.IpRead(b); code != 5 || !noIp(got) {
		t.Errorf("a sum of 65535, where 0 is due, is read with code %d", code)
	}
	for _, d := range rightIps() {
		for _, x := range []byte{0, 255} {
			b := ipSpelled(d)
			b[10], b[11] = x, x
			checkIpRead(t, b)
		}
	}
}

func TestIpReadTurnedBits(t *testing.T) {
	for _, d := range rightIps() {
		if len(d.Data) > 100 {
			continue
		}
		b, _ := impl.IpBytes(d)
		for bit := range 8 * len(b) {
			turned := bytes.Clone(b)
			turned[bit/8] ^= 1 << (bit % 8)
			checkIpRead(t, turned)
			// The sum is of the head alone: a bit of the Data may turn.
			if _, code := impl.IpRead(turned); (code == 0) != (bit >= 160) {
				t.Errorf("bit %d turned: code %d", bit, code)
			}
		}
	}
}

func TestIpReadNewMemory(t *testing.T) {
	d := impl.Ip{Ttl: 9, Proto: 17, Src: 1, Dst: 2, Data: []byte("hello")}
	b, whole := roomy(ipSpelled(d), 30)
	before := bytes.Clone(whole)
	one, _ := impl.IpRead(b)
	two, _ := impl.IpRead(b)
	for i := range one.Data {
		one.Data[i] = 99
	}
	one.Data = append(one.Data, 98, 98, 98)
	if !bytes.Equal(whole, before) || !sameIp(two, d) || len(one.Data) != 8 {
		t.Error("an answer shares memory with the argument or another answer")
	}
	for i := range b {
		b[i] = 97
	}
	if !sameIp(two, d) {
		t.Error("an answer hangs on the argument's memory")
	}
	// Without Data, too, what is laid behind the answer must not land in the argument's spare room.
	b, whole = roomy(ipSpelled(impl.Ip{Ttl: 9}), 30)
	before = bytes.Clone(whole)
	one, _ = impl.IpRead(b)
	one.Data = append(one.Data, 98)
	if !bytes.Equal(whole, before) || len(one.Data) != 1 {
		t.Error("an empty answer shares memory with the argument")
	}
}

func TestHop(t *testing.T) {
	for _, d := range rightIps() {
		before := copyIp(d)
		want := copyIp(d)
		want.Ttl--
		got, ok := impl.Hop(d)
		if d.Ttl >= 2 && (!ok || !sameIp(got, want)) || d.Ttl < 2 && (ok || !noIp(got)) {
			t.Errorf("a hop from %d %d %d %d: %d %d %d %d, %v", d.Ttl, d.Proto, d.Src, d.Dst, got.Ttl, got.Proto, got.Src, got.Dst, ok)
		}
		if !sameIp(d, before) {
			t.Error("the argument is changed")
		}
	}
	for _, d := range wrongIps() {
		if got, ok := impl.Hop(d); ok || !noIp(got) {
			t.Errorf("a hop of %d %d %d %d with %d bytes", d.Ttl, d.Proto, d.Src, d.Dst, len(d.Data))
		}
	}
}

func TestHopEveryTtl(t *testing.T) {
	for n := -3; n < 300; n++ {
		got, ok := impl.Hop(impl.Ip{Ttl: n, Proto: 6, Src: 7, Dst: 8, Data: []byte{9}})
		if n >= 2 && n <= 255 {
			if !ok || !sameIp(got, impl.Ip{Ttl: n - 1, Proto: 6, Src: 7, Dst: 8, Data: []byte{9}}) {
				t.Errorf("a hop at %d: %d, %v", n, got.Ttl, ok)
			}
		} else if ok || !noIp(got) {
			t.Errorf("a hop at %d", n)
		}
	}
}

func TestHopNewMemory(t *testing.T) {
	for _, text := range []string{"", "hello"} {
		data, whole := roomy([]byte(text), 10)
		before := bytes.Clone(whole)
		d := impl.Ip{Ttl: 9, Data: data}
		one, _ := impl.Hop(d)
		two, _ := impl.Hop(d)
		for i := range one.Data {
			one.Data[i] = 99
		}
		one.Data = append(one.Data, 98)
		if !bytes.Equal(whole, before) || string(two.Data) != text || len(one.Data) != len(text)+1 {
			t.Error("an answer shares memory with the argument or another answer")
		}
	}
}

func TestUdpOk(t *testing.T) {
	for _, u := range rightUdps() {
		if !impl.UdpOk(u) {
			t.Errorf("%d %d with %d bytes isn't right", u.Src, u.Dst, len(u.Data))
		}
	}
	for _, u := range wrongUdps() {
		if impl.UdpOk(u) {
			t.Errorf("%d %d with %d bytes is right", u.Src, u.Dst, len(u.Data))
		}
	}
	for n := range 1600 {
		if impl.UdpOk(impl.Udp{Data: make([]byte, n)}) != (n <= 1472) {
			t.Errorf("%d bytes of Data", n)
		}
	}
}

func TestUdpBytesWrites(t *testing.T) {
	for _, u := range rightUdps() {
		before := copyUdp(u)
		b, ok := impl.UdpBytes(u)
		if !ok || !bytes.Equal(b, udpSpelled(u)) {
			t.Errorf("%d %d with %d bytes: %v %v", u.Src, u.Dst, len(u.Data), b, ok)
		}
		if !sameUdp(u, before) {
			t.Error("the argument is changed")
		}
	}
	b, _ := impl.UdpBytes(impl.Udp{Src: 0x0102, Dst: 0x0304, Data: []byte{0x55, 0x66}})
	if !bytes.Equal(b, []byte{1, 2, 3, 4, 0, 10, 0, 0, 0x55, 0x66}) {
		t.Errorf("an inner datagram by hand: %v", b)
	}
}

func TestUdpBytesRefuses(t *testing.T) {
	for _, u := range wrongUdps() {
		if b, ok := impl.UdpBytes(u); ok || len(b) != 0 {
			t.Errorf("%d %d with %d bytes: %d bytes, %v", u.Src, u.Dst, len(u.Data), len(b), ok)
		}
	}
}

func TestUdpBytesNewMemory(t *testing.T) {
	for _, text := range []string{"", "hello"} {
		data, whole := roomy([]byte(text), 40)
		before := bytes.Clone(whole)
		u := impl.Udp{Src: 1, Dst: 2, Data: data}
		one, _ := impl.UdpBytes(u)
		two, _ := impl.UdpBytes(u)
		for i := range one {
			one[i] = 99
		}
		if !bytes.Equal(whole, before) || !bytes.Equal(two, udpSpelled(u)) {
			t.Error("an answer shares memory with the argument or another answer")
		}
	}
}

func TestUdpsAreReadAsWritten(t *testing.T) {
	for _, u := range rightUdps() {
		b, _ := impl.UdpBytes(u)
		v, code := impl.UdpRead(b)
		if code != 0 || !sameUdp(u, v) {
			t.Errorf("%d %d with %d bytes is read as %d %d with %d, code %d", u.Src, u.Dst, len(u.Data), v.Src, v.Dst, len(v.Data), code)
		}
	}
}

// checkUdpRead holds what is read against the document's codes, and what is written of it against b.
func checkUdpRead(t *testing.T, b []byte) {
	t.Helper()
	before := bytes.Clone(b)
	u, code := impl.UdpRead(b)
	if !bytes.Equal(b, before) {
		t.Error("UdpRead changed its argument")
	}
	if code != udpReadCode(b) {
		t.Errorf("%d bytes (%x ..): code %d, not %d", len(b), b[:min(len(b), 20)], code, udpReadCode(b))
	}
	if code != 0 && !noUdp(u) {
		t.Errorf("an inner datagram beside the code %d", code)
	}
	if code == 0 {
		again, ok := impl.UdpBytes(u)
		if !ok || !bytes.Equal(again, b) || !bytes.Equal(udpSpelled(u), b) {
			t.Errorf("%d bytes are read with code 0 and written as %d others, %v", len(b), len(again), ok)
		}
	}
}

func udpSized(n int) []byte {
	return udpSpelled(impl.Udp{Src: 1, Dst: 2, Data: wave(max(n, 8) - 8)})[:n]
}

func TestUdpReadEveryLength(t *testing.T) {
	for n := range 1600 {
		checkUdpRead(t, udpSized(n))
	}
	checkUdpRead(t, nil)
	checkUdpRead(t, []byte{})
	checkUdpRead(t, udpSized(65535))
	checkUdpRead(t, udpSized(65544))
	checkUdpRead(t, make([]byte, 2*impl.MaxBytes))
	for _, c := range []struct{ size, code int }{{0, 1}, {7, 1}, {8, 0}, {1480, 0}, {1481, 1}, {1500, 1}} {
		if u, code := impl.UdpRead(udpSized(c.size)); code != c.code || code != 0 && !noUdp(u) {
			t.Errorf("%d bytes: code %d, not %d", c.size, code, c.code)
		}
	}
}

func TestUdpReadCodes(t *testing.T) {
	cases := []struct {
		what string
		b    []byte
		code int
	}{
		{"as written", []byte{1, 2, 3, 4, 0, 9, 0, 0, 7}, 0},
		{"a length one less", []byte{1, 2, 3, 4, 0, 8, 0, 0, 7}, 2},
		{"a length one more", []byte{1, 2, 3, 4, 0, 10, 0, 0, 7}, 2},
		{"the length of the Data", []byte{1, 2, 3, 4, 0, 1, 0, 0, 7}, 2},
		{"a high byte in the length", []byte{1, 2, 3, 4, 1, 9, 0, 0, 7}, 2},
		{"place 6", []byte{1, 2, 3, 4, 0, 9, 1, 0, 7}, 3},
		{"place 7", []byte{1, 2, 3, 4, 0, 9, 0, 1, 7}, 3},
		{"255 at both", []byte{1, 2, 3, 4, 0, 9, 255, 255, 7}, 3},
		{"two codes: 2 and 3", []byte{1, 2, 3, 4, 0, 8, 0, 1, 7}, 2},
		{"two codes: 1 and 2", make([]byte, 1481), 1},
		{"two codes: 1 and 3", append([]byte{0, 0, 0, 0, 5, 201, 0, 1}, make([]byte, 1473)...), 1},
		{"noughts", make([]byte, 8), 2},
		{"ones", bytes.Repeat([]byte{255}, 8), 2},
	}
	for _, c := range cases {
		if u, code := impl.UdpRead(c.b); code != c.code || code != 0 && !noUdp(u) {
			t.Errorf("%s: code %d, not %d", c.what, code, c.code)
		}
		checkUdpRead(t, c.b)
	}
}

func TestUdpReadEveryHeadByte(t *testing.T) {
	good := udpSized(15)
	for x := range 256 {
		for at := range 8 {
			b := bytes.Clone(good)
			b[at] = byte(x)
			checkUdpRead(t, b)
		}
	}
}

func TestUdpReadNewMemory(t *testing.T) {
	u := impl.Udp{Src: 1, Dst: 2, Data: []byte("hello")}
	b, whole := roomy(udpSpelled(u), 30)
	before := bytes.Clone(whole)
	one, _ := impl.UdpRead(b)
	two, _ := impl.UdpRead(b)
	for i := range one.Data {
		one.Data[i] = 99
	}
	one.Data = append(one.Data, 98, 98, 98)
	if !bytes.Equal(whole, before) || !sameUdp(two, u) || len(one.Data) != 8 {
		t.Error("an answer shares memory with the argument or another answer")
	}
	for i := range b {
		b[i] = 97
	}
	if !sameUdp(two, u) {
		t.Error("an answer hangs on the argument's memory")
	}
	b, whole = roomy(udpSpelled(impl.Udp{}), 30)
	before = bytes.Clone(whole)
	one, _ = impl.UdpRead(b)
	one.Data = append(one.Data, 98)
	if !bytes.Equal(whole, before) || len(one.Data) != 1 {
		t.Error("an empty answer shares memory with the argument")
	}
}

func TestInnerFitsOuterFitsPacket(t *testing.T) {
	u := impl.Udp{Src: 1, Dst: 2, Data: wave(impl.MaxBody - 28)}
	inner, _ := impl.UdpBytes(u)
	d := impl.Ip{Ttl: 64, Proto: impl.UdpProto, Src: 3, Dst: 4, Data: inner}
	outer, ok := impl.IpBytes(d)
	p := impl.Packet{Dst: 5, Src: 6, Tag: -1, Type: impl.IpType, Body: outer}
	if !ok || len(outer) != impl.MaxBody || !impl.PacketOk(p) {
		t.Fatal("the longest inner datagram doesn't fill a packet")
	}
	b, _ := impl.PacketBytes(p)
	q, packetCode := impl.PacketRead(b)
	e, ipCode := impl.IpRead(q.Body)
	v, udpCode := impl.UdpRead(e.Data)
	if packetCode != 0 || ipCode != 0 || udpCode != 0 || !sameIp(d, e) || !sameUdp(u, v) {
		t.Errorf("codes %d, %d, %d", packetCode, ipCode, udpCode)
	}
}
