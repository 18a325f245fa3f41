package tests

import (
	"bytes"
	"math"
	"slices"
	"testing"

	"loop.example/g00391/impl"
)

func sameHead(a impl.Head, b impl.Head) bool { return slices.Equal(a.V, b.V) }

func noHead(h impl.Head) bool { return len(h.V) == 0 }

func copyHead(h impl.Head) impl.Head { return impl.Head{V: slices.Clone(h.V)} }

// greatest is, for each field, the greatest number that it takes, written out.
func greatest() []int {
	return []int{255, 281474976710655, 281474976710655, 65535, 65535, 4294967295, 4294967295, 255}
}

// headRight is HeadOk by the document's words, without the program's help.
func headRight(h impl.Head) bool {
	if len(h.V) != 8 {
		return false
	}
	for f, n := range h.V {
		if n < 0 || n > greatest()[f] {
			return false
		}
	}
	return true
}

// headSpelled is HeadOf by the document's words; the datagram is taken apart by hand.
func headSpelled(p impl.Packet, in int) impl.Head {
	v := []int{in, p.Src, p.Dst, p.Type, p.Tag + 1, 0, 0, 0}
	b := p.Body
	if p.Type == 2048 && ipReadCode(b) == 0 {
		v[5] = int(b[12])<<24 | int(b[13])<<16 | int(b[14])<<8 | int(b[15])
		v[6] = int(b[16])<<24 | int(b[17])<<16 | int(b[18])<<8 | int(b[19])
		v[7] = int(b[9])
	}
	return impl.Head{V: v}
}

func farNums() []int {
	return []int{-2, -255, -256, 1 << 48, 1 << 49, 1<<56 + 1, 1 << 62, -1 << 62, -impl.MaxNum, math.MinInt, math.MinInt + 1, math.MaxInt - 1, math.MaxInt}
}

// edgesOf has numbers at both ends of the field f and well beyond them, also some that fit if high bits are dropped.
func edgesOf(f int) []int {
	top := greatest()[f]
	l := []int{-1, 0, 1, 2, top / 2, top/2 + 1, top - 1, top, top + 1, top + 2, 2*top + 1, 2*top + 2, -top, -top - 1}
	return append(l, farNums()...)
}

// noFields are numbers that are none of the fields, some of them only by high bits.
func noFields() []int {
	return []int{-1, -2, -7, -8, 8, 9, 16, 255, 256, 257, 1 << 8, 1 << 16, 1<<16 + 1, 1 << 32, 1<<32 + 1, 1<<32 + 7, 1 << 62, math.MinInt, math.MinInt + 1, math.MinInt + 7, math.MaxInt - 1, math.MaxInt}
}

func rightHeads() []impl.Head {
	l := []impl.Head{
		{V: make([]int, 8)},
		{V: greatest()},
		{V: []int{1, 2, 3, 2048, 5, 6, 7, 8}},
		{V: []int{255, 0x010203040506, 0x0a0b0c0d0e0f, 33024, 4095, 0x01020304, 0x05060708, 17}},
	}
	for f := range 8 {
		for _, n := range []int{0, 1, greatest()[f] - 1, greatest()[f]} {
			h := impl.Head{V: []int{3, 4, 5, 2048, 6, 7, 8, 9}}
			h.V[f] = n
			l = append(l, h)
		}
	}
	return l
}

// wrongHeads have a wrong length, one wrong number, or all of them wrong.
func wrongHeads() []impl.Head {
	l := []impl.Head{{}, {V: []int{}}, {V: []int{-1, -1, -1, -1, -1, -1, -1, -1}}}
	for _, n := range []int{1, 2, 6, 7, 9, 10, 15, 16, 17, 256, 264, 1000} {
		l = append(l, impl.Head{V: make([]int, n)})
	}
	l = append(l, impl.Head{V: greatest()[:7]}, impl.Head{V: append(greatest(), 0)})
	for f := range 8 {
		for _, n := range edgesOf(f) {
			if n < 0 || n > greatest()[f] {
				h := impl.Head{V: []int{3, 4, 5, 2048, 6, 7, 8, 9}}
				h.V[f] = n
				l = append(l, h)
			}
		}
	}
	return l
}

func rightPorts() []int { return []int{1, 2, 7, 127, 128, 254, 255} }

func wrongPorts() []int {
	return []int{-1, 0, 256, 257, -2, -255, -256, 512, 1<<8 + 1, 1<<16 + 1, 1<<32 + 1, 1 << 62, math.MinInt, math.MinInt + 1, math.MaxInt - 1, math.MaxInt}
}

func TestHeadConstants(t *testing.T) {
	got := []int{impl.FieldIn, impl.FieldSrc, impl.FieldDst, impl.FieldType, impl.FieldTag, impl.FieldIpSrc, impl.FieldIpDst, impl.FieldProto, impl.Fields}
	if !slices.Equal(got, []int{0, 1, 2, 3, 4, 5, 6, 7, 8}) {
		t.Errorf("the fields are %v", got)
	}
}

func TestFieldBits(t *testing.T) {
	want := []int{8, 48, 48, 16, 16, 32, 32, 8}
	for f := -1000; f < 1000; f++ {
		bits := 0
		if f >= 0 && f < 8 {
			bits = want[f]
		}
		if got := impl.FieldBits(f); got != bits {
			t.Errorf("field %d has %d bits, not %d", f, got, bits)
		}
	}
	for _, f := range noFields() {
		if got := impl.FieldBits(f); got != 0 {
			t.Errorf("field %d has %d bits", f, got)
		}
	}
	for f, top := range greatest() {
		if 1<<impl.FieldBits(f)-1 != top {
			t.Errorf("the greatest number of field %d isn't %d", f, top)
		}
	}
}

func checkHeadOk(t *testing.T, h impl.Head) {
	t.Helper()
	before := copyHead(h)
	if got := impl.HeadOk(h); got != headRight(h) {
		t.Errorf("%d numbers %v: %v", len(h.V), h.V[:min(len(h.V), 10)], got)
	}
	if !sameHead(h, before) {
		t.Error("HeadOk changed its argument")
	}
}

func TestHeadOk(t *testing.T) {
	for _, h := range rightHeads() {
		checkHeadOk(t, h)
		if !impl.HeadOk(h) {
			t.Errorf("%v isn't right", h.V)
		}
	}
	for _, h := range wrongHeads() {
		checkHeadOk(t, h)
		if impl.HeadOk(h) {
			t.Errorf("%d numbers are right", len(h.V))
		}
	}
}

func TestHeadOkEveryLength(t *testing.T) {
	for n := range 600 {
		if got := impl.HeadOk(impl.Head{V: make([]int, n)}); got != (n == 8) {
			t.Errorf("%d noughts: %v", n, got)
		}
	}
	if impl.HeadOk(impl.Head{}) || impl.HeadOk(impl.Head{V: []int{}}) {
		t.Error("a head without V is right")
	}
	// Spare room behind the list is none of its numbers.
	if impl.HeadOk(impl.Head{V: make([]int, 7, 8)}) || !impl.HeadOk(impl.Head{V: make([]int, 8, 20)}) {
		t.Error("spare room is looked at")
	}
}

func TestHeadOkEveryPlace(t *testing.T) {
	for f := range 8 {
		for _, n := range edgesOf(f) {
			for _, base := range [][]int{make([]int, 8), greatest()} {
				h := impl.Head{V: base}
				h.V[f] = n
				checkHeadOk(t, h)
				if impl.HeadOk(h) != (n >= 0 && n <= greatest()[f]) {
					t.Errorf("%d in field %d", n, f)
				}
			}
		}
	}
}

func TestHeadOkEverySmallNumber(t *testing.T) {
	for n := -70000; n < 140000; n++ {
		for _, f := range []int{0, 3, 4, 7} {
			h := impl.Head{V: make([]int, 8)}
			h.V[f] = n
			if impl.HeadOk(h) != (n >= 0 && n <= greatest()[f]) {
				t.Fatalf("%d in field %d", n, f)
			}
		}
	}
}

func TestHeadOkTwoPlaces(t *testing.T) {
	for f := range 8 {
		for g := range 8 {
			for _, a := range []int{-1, 0, greatest()[f], greatest()[f] + 1} {
				for _, b := range []int{-1, 0, greatest()[g], greatest()[g] + 1} {
					h := impl.Head{V: make([]int, 8)}
					h.V[f], h.V[g] = a, b
					checkHeadOk(t, h)
				}
			}
		}
	}
}

// headDatagrams are datagrams with each end and kind of load at its edges.
func headDatagrams() []impl.Ip {
	inner := udpSpelled(impl.Udp{Src: 53, Dst: 54, Data: []byte("inner")})
	within := ipSpelled(impl.Ip{Ttl: 2, Proto: 99, Src: 0x21222324, Dst: 0x31323334, Data: []byte("x")})
	l := rightIps()
	for _, data := range [][]byte{inner, within, make([]byte, 8), ipSpelled(impl.Ip{Data: inner})} {
		l = append(l, impl.Ip{Ttl: 64, Proto: impl.UdpProto, Src: 0x0a0b0c0d, Dst: 0x01020304, Data: data})
	}
	return l
}

// noDatagrams are bodies that IpRead refuses, with the code for each; none has more bytes than a packet takes.
func noDatagrams() []struct {
	what string
	b    []byte
	code int
} {
	good := ipSpelled(impl.Ip{Ttl: 64, Proto: 17, Src: 0x0a0b0c0d, Dst: 0x01020304, Data: []byte("hello")})
	wrongSum := bytes.Clone(good)
	wrongSum[11] ^= 1
	nought := ipSpelled(impl.Ip{Src: 65535 - 69*256 - 20})
	nought[10], nought[11] = 255, 255
	return []struct {
		what string
		b    []byte
		code int
	}{
		{"none", nil, 1},
		{"an empty one", []byte{}, 1},
		{"one byte", []byte{69}, 1},
		{"19 bytes of a head", good[:19], 1},
		{"version 6", set(good, map[int]byte{0: 96}), 2},
		{"a longer head", set(good, map[int]byte{0: 70}), 2},
		{"a second byte", set(good, map[int]byte{1: 1}), 3},
		{"place 4", set(good, map[int]byte{4: 1}), 3},
		{"place 7", set(good, map[int]byte{7: 1}), 3},
		{"a length one less", set(good, map[int]byte{3: 24}), 4},
		{"a length one more", set(good, map[int]byte{3: 26}), 4},
		{"the last byte cut off", good[:24], 4},
		{"a byte too many", append(bytes.Clone(good), 0), 4},
		{"a wrong sum", wrongSum, 5},
		{"a sum of 65535 for 0", nought, 5},
		{"an inner datagram without an outer one", udpSpelled(impl.Udp{Src: 53, Dst: 54, Data: wave(40)}), 2},
		{"a byte ahead of a datagram", append([]byte{0}, good...), 2},
		{"noughts", make([]byte, 20), 2},
		{"ones", bytes.Repeat([]byte{255}, 1500), 2},
		{"text", wave(1500), 2},
	}
}

// checkHeadOf holds the head of a packet against the document's words, and asks that nothing is changed.
func checkHeadOf(t *testing.T, p impl.Packet, in int) impl.Head {
	t.Helper()
	before := copyPacket(p)
	h, ok := impl.HeadOf(p, in)
	if !samePacket(p, before) {
		t.Error("HeadOf changed its argument")
	}
	if !ok || !sameHead(h, headSpelled(p, in)) {
		t.Errorf("%d %d %d %d with %d bytes at %d: %v %v, not %v", p.Dst, p.Src, p.Tag, p.Type, len(p.Body), in, h.V, ok, headSpelled(p, in).V)
	}
	if ok && (!headRight(h) || !impl.HeadOk(h)) {
		t.Errorf("%v, the head of a right packet, isn't right", h.V)
	}
	return h
}

func refusesHeadOf(t *testing.T, p impl.Packet, in int) {
	t.Helper()
	before := copyPacket(p)
	if h, ok := impl.HeadOf(p, in); ok || !noHead(h) {
		t.Errorf("%d %d %d %d with %d bytes at %d: %v %v", p.Dst, p.Src, p.Tag, p.Type, len(p.Body), in, h.V, ok)
	}
	if !samePacket(p, before) {
		t.Error("HeadOf changed its argument")
	}
}

func TestHeadOfByHand(t *testing.T) {
	body := []byte{69, 0, 0, 21, 0, 0, 0, 0, 7, 17, 0xa3, 0xc5, 1, 2, 3, 4, 5, 6, 7, 8, 0x55}
	h, ok := impl.HeadOf(impl.Packet{Dst: 30, Src: 40, Tag: 9, Type: 2048, Body: body}, 12)
	if !ok || !slices.Equal(h.V, []int{12, 40, 30, 2048, 10, 0x01020304, 0x05060708, 17}) {
		t.Errorf("a head by hand: %v %v", h.V, ok)
	}
	h, ok = impl.HeadOf(impl.Packet{Dst: 30, Src: 40, Tag: -1, Type: 2054, Body: body}, 12)
	if !ok || !slices.Equal(h.V, []int{12, 40, 30, 2054, 0, 0, 0, 0}) {
		t.Errorf("a head of another type by hand: %v %v", h.V, ok)
	}
}

func TestHeadOfRightPackets(t *testing.T) {
	for _, p := range rightPackets() {
		for _, in := range rightPorts() {
			checkHeadOf(t, p, in)
		}
	}
}

func TestHeadOfEveryPort(t *testing.T) {
	p := impl.Packet{Dst: 3, Src: 4, Tag: 5, Type: 2048, Body: ipSized(30)}
	for in := -600; in < 1200; in++ {
		if in >= 1 && in <= 255 {
			checkHeadOf(t, p, in)
		} else {
			refusesHeadOf(t, p, in)
		}
	}
	for _, in := range wrongPorts() {
		refusesHeadOf(t, p, in)
	}
}

func TestHeadOfEveryTag(t *testing.T) {
	for _, body := range [][]byte{nil, ipSized(30)} {
		for tag := -1; tag <= 4094; tag++ {
			h := checkHeadOf(t, impl.Packet{Dst: 3, Src: 4, Tag: tag, Type: 2048, Body: body}, 9)
			if len(h.V) != 8 || h.V[4] != tag+1 {
				t.Fatalf("the tag %d: %v", tag, h.V)
			}
		}
	}
	for _, c := range []struct{ tag, field int }{{-1, 0}, {0, 1}, {4094, 4095}} {
		h, _ := impl.HeadOf(impl.Packet{Tag: c.tag, Type: 3000}, 1)
		if !slices.Equal(h.V, []int{1, 0, 0, 3000, c.field, 0, 0, 0}) {
			t.Errorf("the tag %d: %v", c.tag, h.V)
		}
	}
}

func TestHeadOfEveryType(t *testing.T) {
	body := ipSpelled(impl.Ip{Ttl: 1, Proto: 6, Src: 8, Dst: 9})
	for kind := 0; kind < 66000; kind++ {
		p := impl.Packet{Dst: 3, Src: 4, Tag: -1, Type: kind, Body: body}
		h, ok := impl.HeadOf(p, 1)
		right := kind >= 1536 && kind <= 65535 && kind != 33024
		if ok != right || !right && !noHead(h) || right && !sameHead(h, headSpelled(p, 1)) {
			t.Fatalf("the type %d: %v %v", kind, h.V, ok)
		}
		if right && kind != 2048 && !slices.Equal(h.V[5:], []int{0, 0, 0}) {
			t.Fatalf("the type %d: %v", kind, h.V)
		}
	}
}

func TestHeadOfDatagrams(t *testing.T) {
	for _, d := range headDatagrams() {
		for _, tag := range []int{-1, 0, 4094} {
			p := impl.Packet{Dst: 3, Src: 4, Tag: tag, Type: 2048, Body: ipSpelled(d)}
			h := checkHeadOf(t, p, 255)
			if len(h.V) != 8 || h.V[5] != d.Src || h.V[6] != d.Dst || h.V[7] != d.Proto {
				t.Errorf("a datagram from %d to %d of %d: %v", d.Src, d.Dst, d.Proto, h.V)
			}
			written, _ := impl.IpBytes(d)
			p.Body = written
			if !sameHead(checkHeadOf(t, p, 255), h) {
				t.Error("a datagram as IpBytes writes it has another head")
			}
			p.Type = 2049
			if h = checkHeadOf(t, p, 255); len(h.V) != 8 || h.V[5] != 0 || h.V[6] != 0 || h.V[7] != 0 {
				t.Errorf("a datagram under another type: %v", h.V)
			}
		}
	}
}

func TestHeadOfNoDatagrams(t *testing.T) {
	seen := map[int]int{}
	for _, c := range noDatagrams() {
		if _, code := impl.IpRead(c.b); code != c.code || ipReadCode(c.b) != c.code {
			t.Errorf("%s: code %d, not %d", c.what, code, c.code)
		}
		seen[c.code]++
		for _, kind := range []int{2048, 3000} {
			h := checkHeadOf(t, impl.Packet{Dst: 3, Src: 4, Tag: 5, Type: kind, Body: c.b}, 6)
			if !slices.Equal(h.V, []int{6, 4, 3, kind, 6, 0, 0, 0}) {
				t.Errorf("%s: %v", c.what, h.V)
			}
		}
	}
	if len(seen) != 5 {
		t.Errorf("not all of the codes are tried: %v", seen)
	}
}

func TestHeadOfEveryHeadByte(t *testing.T) {
	good := ipSized(30)
	for x := range 256 {
		for at := range 20 {
			b := bytes.Clone(good)
			b[at] = byte(x)
			checkHeadOf(t, impl.Packet{Dst: 3, Src: 4, Tag: -1, Type: 2048, Body: b}, 7)
			checkHeadOf(t, impl.Packet{Dst: 3, Src: 4, Tag: -1, Type: 2048, Body: ipSummed(b)}, 7)
		}
	}
}

func TestHeadOfEveryLength(t *testing.T) {
	for n := range 1700 {
		p := impl.Packet{Dst: 3, Src: 4, Tag: -1, Type: 2048, Body: ipSized(n)}
		if n > 1500 {
			refusesHeadOf(t, p, 7)
			continue
		}
		h := checkHeadOf(t, p, 7)
		if len(h.V) == 8 && (h.V[5] == 1 && h.V[6] == 2 && h.V[7] == 17) != (n >= 20) {
			t.Errorf("a datagram of %d bytes: %v", n, h.V)
		}
	}
}

func TestHeadOfRefuses(t *testing.T) {
	for _, p := range wrongPackets() {
		for _, in := range append(rightPorts(), wrongPorts()...) {
			refusesHeadOf(t, p, in)
		}
		p.Body = append(ipSized(30), p.Body...)
		p.Body = p.Body[:min(len(p.Body), 2000)]
		if !impl.PacketOk(p) {
			refusesHeadOf(t, p, 1)
		}
	}
	for _, p := range rightPackets() {
		for _, in := range wrongPorts() {
			refusesHeadOf(t, p, in)
		}
	}
	refusesHeadOf(t, impl.Packet{}, 1)
	refusesHeadOf(t, impl.Packet{Tag: -1}, 1)
	refusesHeadOf(t, impl.Packet{}, 0)
}

func TestHeadOfWhatWasRead(t *testing.T) {
	for _, d := range headDatagrams() {
		p := impl.Packet{Dst: 0x0a0b0c0d0e0f, Src: 0x010203040506, Tag: 5, Type: 2048, Body: ipSpelled(d)}
		b, _ := impl.PacketBytes(p)
		q, code := impl.PacketRead(b)
		if code != 0 || !sameHead(checkHeadOf(t, p, 8), checkHeadOf(t, q, 8)) {
			t.Errorf("a packet that is read, code %d, has another head than the one that was written", code)
		}
	}
}

func TestHeadOfNewMemory(t *testing.T) {
	body, whole := roomy(ipSpelled(impl.Ip{Ttl: 9, Proto: 17, Src: 1, Dst: 2, Data: []byte("hello")}), 30)
	before := bytes.Clone(whole)
	p := impl.Packet{Dst: 3, Src: 4, Tag: 5, Type: 2048, Body: body}
	want := headSpelled(p, 6)
	one, _ := impl.HeadOf(p, 6)
	two, _ := impl.HeadOf(p, 6)
	for f := range one.V {
		one.V[f] = 99
	}
	one.V = append(one.V, 98)
	for i := range body {
		body[i] = 97
	}
	if !sameHead(two, want) || !bytes.Equal(whole[len(body):], before[len(body):]) {
		t.Error("an answer shares memory with the argument or another answer")
	}
}

// checkHeadSet holds what is set against the document's words, and asks that nothing is changed.
func checkHeadSet(t *testing.T, h impl.Head, f int, v int) {
	t.Helper()
	before := copyHead(h)
	got, ok := impl.HeadSet(h, f, v)
	if !sameHead(h, before) {
		t.Error("HeadSet changed its argument")
	}
	fits := headRight(h) && f >= 0 && f < 8 && v >= 0 && v <= greatest()[max(0, min(f, 7))]
	if !fits {
		if ok || !noHead(got) {
			t.Errorf("%d in field %d of %d numbers: %v %v", v, f, len(h.V), got.V, ok)
		}
		return
	}
	want := copyHead(h)
	want.V[f] = v
	if !ok || !sameHead(got, want) || !impl.HeadOk(got) {
		t.Errorf("%d in field %d of %v: %v %v", v, f, h.V, got.V, ok)
	}
}

func TestHeadSetByHand(t *testing.T) {
	h := impl.Head{V: []int{1, 2, 3, 4, 5, 6, 7, 8}}
	for f := range 8 {
		want := []int{1, 2, 3, 4, 5, 6, 7, 8}
		want[f] = 77
		if got, ok := impl.HeadSet(h, f, 77); !ok || !slices.Equal(got.V, want) {
			t.Errorf("77 in field %d: %v %v", f, got.V, ok)
		}
	}
}

func TestHeadSetEveryField(t *testing.T) {
	for _, h := range rightHeads() {
		for f := range 8 {
			for _, v := range append(edgesOf(f), h.V[f]) {
				checkHeadSet(t, h, f, v)
			}
		}
	}
	for f := range 8 {
		top := greatest()[f]
		for _, c := range []struct {
			v  int
			ok bool
		}{{-1, false}, {0, true}, {top, true}, {top + 1, false}} {
			got, ok := impl.HeadSet(impl.Head{V: make([]int, 8)}, f, c.v)
			if ok != c.ok || c.ok && (len(got.V) != 8 || got.V[f] != c.v) || !c.ok && !noHead(got) {
				t.Errorf("%d in field %d: %v %v", c.v, f, got.V, ok)
			}
		}
	}
}

func TestHeadSetNoField(t *testing.T) {
	for _, h := range append(rightHeads(), wrongHeads()...) {
		for _, f := range noFields() {
			for _, v := range append([]int{-1, 0, 1, 255, impl.MaxNum}, farNums()...) {
				checkHeadSet(t, h, f, v)
				if got, ok := impl.HeadSet(h, f, v); ok || !noHead(got) {
					t.Fatalf("%d in the field %d, which is none: %v", v, f, got.V)
				}
			}
		}
	}
}

func TestHeadSetOnWrongHeads(t *testing.T) {
	for _, h := range wrongHeads() {
		for f := range 8 {
			for _, v := range []int{-1, 0, 1, greatest()[f], greatest()[f] + 1} {
				checkHeadSet(t, h, f, v)
				if got, ok := impl.HeadSet(h, f, v); ok || !noHead(got) {
					t.Fatalf("%d in field %d of a wrong head: %v", v, f, got.V)
				}
			}
		}
	}
}

// What is set would make these heads right; they are refused for what they are.
func TestHeadSetMakesNoHeadRight(t *testing.T) {
	for f := range 8 {
		for _, wrong := range []int{-1, greatest()[f] + 1, math.MinInt, math.MaxInt} {
			h := impl.Head{V: []int{3, 4, 5, 2048, 6, 7, 8, 9}}
			h.V[f] = wrong
			for _, v := range []int{0, 1, greatest()[f]} {
				if got, ok := impl.HeadSet(h, f, v); ok || !noHead(got) {
					t.Errorf("%d for %d in field %d: %v", v, wrong, f, got.V)
				}
			}
		}
	}
	if got, ok := impl.HeadSet(impl.Head{V: make([]int, 7)}, 7, 0); ok || !noHead(got) {
		t.Error("the eighth number is set behind seven")
	}
	if got, ok := impl.HeadSet(impl.Head{V: make([]int, 7, 8)}, 7, 0); ok || !noHead(got) {
		t.Error("the eighth number is set in the spare room behind seven")
	}
}

func TestHeadSetNewMemory(t *testing.T) {
	for f := range 8 {
		for _, v := range []int{1 + f, 77} { // 1 + f is there already
			whole := []int{1, 2, 3, 4, 5, 6, 7, 8, 50, 51, 52}
			before := slices.Clone(whole)
			h := impl.Head{V: whole[:8]}
			one, okOne := impl.HeadSet(h, f, v)
			two, okTwo := impl.HeadSet(h, f, v)
			want := copyHead(two)
			for at := range one.V {
				one.V[at] = 99
			}
			one.V = append(one.V, 98)
			if !okOne || !okTwo || !slices.Equal(whole, before) || !sameHead(two, want) {
				t.Errorf("field %d: an answer shares memory with the argument or another answer", f)
			}
			for at := range whole {
				whole[at] = 97
			}
			if !sameHead(two, want) {
				t.Errorf("field %d: an answer hangs on the argument's memory", f)
			}
		}
	}
}

func TestHeadSetTwice(t *testing.T) {
	for _, h := range rightHeads() {
		for f := range 8 {
			there, ok := impl.HeadSet(h, f, greatest()[f])
			back, also := impl.HeadSet(there, f, h.V[f])
			if !ok || !also || !sameHead(back, h) {
				t.Errorf("field %d of %v, set and set back: %v", f, h.V, back.V)
			}
		}
	}
}

func checkSmallHead(t *testing.T, in int, src int, dst int) {
	t.Helper()
	want := impl.Head{V: []int{in, src, dst, 2048, 0, 0, 0, 0}}
	got := impl.SmallHead(in, src, dst)
	if headRight(want) && (!sameHead(got, want) || !impl.HeadOk(got)) || !headRight(want) && !noHead(got) {
		t.Errorf("%d %d %d: %v", in, src, dst, got.V)
	}
}

func TestSmallHead(t *testing.T) {
	ins, ends := edgesOf(0), edgesOf(1)
	for _, in := range ins {
		for _, src := range ends {
			for _, dst := range ends {
				checkSmallHead(t, in, src, dst)
			}
		}
	}
	for in := -600; in < 1200; in++ {
		checkSmallHead(t, in, 2, 3)
	}
	if !slices.Equal(impl.SmallHead(0, 0, 0).V, []int{0, 0, 0, 2048, 0, 0, 0, 0}) {
		t.Error("noughts make no head")
	}
	if !slices.Equal(impl.SmallHead(255, impl.MaxNum, impl.MaxNum).V, []int{255, impl.MaxNum, impl.MaxNum, 2048, 0, 0, 0, 0}) {
		t.Error("the greatest numbers make no head")
	}
	for _, c := range [][3]int{{-1, 2, 3}, {256, 2, 3}, {1, -1, 3}, {1, impl.MaxNum + 1, 3}, {1, 2, -1}, {1, 2, impl.MaxNum + 1}} {
		if h := impl.SmallHead(c[0], c[1], c[2]); !noHead(h) {
			t.Errorf("%v: %v", c, h.V)
		}
	}
}

func TestSmallHeadIsThatOfAPlainPacket(t *testing.T) {
	for _, in := range rightPorts() {
		for _, n := range rightNums() {
			h := checkHeadOf(t, impl.Packet{Src: n, Dst: 9, Tag: -1, Type: impl.IpType}, in)
			k := checkHeadOf(t, impl.Packet{Src: 9, Dst: n, Tag: -1, Type: impl.IpType}, in)
			if !sameHead(h, impl.SmallHead(in, n, 9)) || !sameHead(k, impl.SmallHead(in, 9, n)) {
				t.Errorf("at %d with %d: %v %v", in, n, h.V, k.V)
			}
		}
	}
}

func TestSmallHeadNewMemory(t *testing.T) {
	one := impl.SmallHead(1, 2, 3)
	two := impl.SmallHead(1, 2, 3)
	for f := range one.V {
		one.V[f] = 99
	}
	one.V = append(one.V, 98)
	if !slices.Equal(two.V, []int{1, 2, 3, 2048, 0, 0, 0, 0}) || !slices.Equal(impl.SmallHead(1, 2, 3).V, two.V) {
		t.Error("an answer shares memory with another answer")
	}
}
