package tests

import (
	"bytes"
	"encoding/binary"
	"hash/crc32"
	"math"
	"testing"

	"loop.example/g00391/impl"
)

func samePacket(a impl.Packet, b impl.Packet) bool {
	return a.Dst == b.Dst && a.Src == b.Src && a.Tag == b.Tag && a.Type == b.Type && bytes.Equal(a.Body, b.Body)
}

func noPacket(p impl.Packet) bool {
	return samePacket(p, impl.Packet{})
}

func copyPacket(p impl.Packet) impl.Packet {
	p.Body = bytes.Clone(p.Body)
	return p
}

// sealed puts the sum behind the bytes, whatever they are.
func sealed(b []byte) []byte {
	return binary.BigEndian.AppendUint32(bytes.Clone(b), crc32.ChecksumIEEE(b))
}

// spelled writes a packet without the program's help; only low bits of wrong numbers come through.
func spelled(p impl.Packet) []byte {
	var b []byte
	b = append(b, binary.BigEndian.AppendUint64(nil, uint64(p.Dst))[2:]...)
	b = append(b, binary.BigEndian.AppendUint64(nil, uint64(p.Src))[2:]...)
	if p.Tag != -1 {
		b = append(b, 0x81, 0x00)
		b = binary.BigEndian.AppendUint16(b, uint16(p.Tag))
	}
	b = binary.BigEndian.AppendUint16(b, uint16(p.Type))
	return sealed(append(b, p.Body...))
}

// readCode is the code of the document for b, asked one by one.
func readCode(b []byte) int {
	tagged := len(b) >= 14 && b[12] == 0x81 && b[13] == 0
	least, at := 18, 12
	if tagged {
		least, at = 22, 16
	}
	switch {
	case len(b) < least:
		return 1
	case len(b) > least+1500:
		return 2
	case !bytes.Equal(sealed(b[:len(b)-4]), b):
		return 3
	case tagged && int(b[14])*256+int(b[15]) > 4094:
		return 4
	}
	kind := int(b[at])*256 + int(b[at+1])
	if kind < 1536 || kind == 33024 {
		return 5
	}
	return 0
}

func rightNums() []int {
	return []int{0, 1, 255, 256, 1 << 32, 0x010203040506, impl.MaxNum - 1, impl.MaxNum}
}

func wrongNums() []int {
	return []int{-1, -2, impl.MaxNum + 1, impl.MaxNum + 2, 1 << 49, -impl.MaxNum, math.MinInt, math.MaxInt}
}

func rightTags() []int { return []int{-1, 0, 1, 255, 256, 2048, 4093, 4094} }

func wrongTags() []int {
	return []int{-2, -3, 4095, 4096, 65535, 65536, 1 << 32, 1<<32 - 1, 1<<16 + 5, math.MinInt, math.MaxInt}
}

func rightTypes() []int {
	return []int{1536, 1537, 2048, impl.TagType - 1, impl.TagType + 1, 33280, 65534, 65535}
}

func wrongTypes() []int {
	return []int{0, 1, 1500, 1535, impl.TagType, 65536, 65537, 1<<16 + 2048, 1<<32 + 2048, -1, -2048, math.MinInt, math.MaxInt}
}

func bodies() [][]byte {
	return [][]byte{nil, {}, {0}, {129, 0, 0, 5}, wave(46), wave(impl.MaxBody - 1), wave(impl.MaxBody)}
}

func longBodies() [][]byte {
	return [][]byte{wave(impl.MaxBody + 1), wave(impl.MaxBody + 4), wave(2 * impl.MaxBytes)}
}

// rightPackets takes each edge of each field with and without a tag.
func rightPackets() []impl.Packet {
	var l []impl.Packet
	for _, tag := range rightTags() {
		base := impl.Packet{Dst: 0x0a0b0c0d0e0f, Src: 0x010203040506, Tag: tag, Type: 2048, Body: []byte("hello")}
		for _, n := range rightNums() {
			p := base
			p.Dst = n
			q := base
			q.Src = n
			l = append(l, p, q)
		}
		for _, kind := range rightTypes() {
			p := base
			p.Type = kind
			l = append(l, p)
		}
		for _, body := range bodies() {
			p := base
			p.Body = body
			l = append(l, p)
		}
	}
	return l
}

// wrongPackets has one wrong field each, with a tag and without one, and some with two.
func wrongPackets() []impl.Packet {
	var l []impl.Packet
	for _, tag := range []int{-1, 7} {
		base := impl.Packet{Dst: 3, Src: 4, Tag: tag, Type: 2048, Body: []byte("hello")}
		for _, n := range wrongNums() {
			p := base
			p.Dst = n
			q := base
			q.Src = n
			l = append(l, p, q)
		}
		for _, kind := range wrongTypes() {
			p := base
			p.Type = kind
			l = append(l, p)
		}
		for _, body := range longBodies() {
			p := base
			p.Body = body
			l = append(l, p)
		}
	}
	for _, tag := range wrongTags() {
		l = append(l, impl.Packet{Dst: 3, Src: 4, Tag: tag, Type: 2048}, impl.Packet{Tag: tag, Type: 0})
	}
	return append(l, impl.Packet{}, impl.Packet{Dst: -1, Src: -1, Tag: -2, Type: -1, Body: wave(impl.MaxBody + 1)})
}

func TestPacketConstants(t *testing.T) {
	if impl.MaxBody != 1500 || impl.TagType != 33024 {
		t.Error("a constant isn't the document's")
	}
}

func TestPacketOk(t *testing.T) {
	for _, p := range rightPackets() {
		if !impl.PacketOk(p) {
			t.Errorf("%d %d %d %d with %d bytes isn't right", p.Dst, p.Src, p.Tag, p.Type, len(p.Body))
		}
	}
	for _, p := range wrongPackets() {
		if impl.PacketOk(p) {
			t.Errorf("%d %d %d %d with %d bytes is right", p.Dst, p.Src, p.Tag, p.Type, len(p.Body))
		}
	}
}

func TestPacketOkEveryTypeAndTag(t *testing.T) {
	for n := -10; n < 66000; n++ {
		if impl.PacketOk(impl.Packet{Tag: -1, Type: n}) != (n >= 1536 && n <= 65535 && n != 33024) {
			t.Errorf("the type %d", n)
		}
		if impl.PacketOk(impl.Packet{Tag: n, Type: 2048}) != (n >= -1 && n <= 4094) {
			t.Errorf("the tag %d", n)
		}
	}
}

func TestPacketBytesWrites(t *testing.T) {
	for _, p := range rightPackets() {
		before := copyPacket(p)
		b, ok := impl.PacketBytes(p)
		if !ok || !bytes.Equal(b, spelled(p)) {
			t.Errorf("%d %d %d %d with %d bytes: %v %v", p.Dst, p.Src, p.Tag, p.Type, len(p.Body), b, ok)
		}
		if !samePacket(p, before) {
			t.Error("the argument is changed")
		}
	}
	b, _ := impl.PacketBytes(impl.Packet{Dst: 0x010203040506, Src: 0x0708090a0b0c, Tag: 0x0102, Type: 0x0e0f, Body: []byte{0x55}})
	if !bytes.Equal(b, sealed([]byte{1, 2, 3, 4, 5, 6, 7, 8, 9, 10, 11, 12, 129, 0, 1, 2, 14, 15, 0x55})) {
		t.Errorf("with a tag: %v", b)
	}
	b, _ = impl.PacketBytes(impl.Packet{Dst: 0x010203040506, Src: 0x0708090a0b0c, Tag: -1, Type: 0x0e0f, Body: []byte{0x55}})
	if !bytes.Equal(b, sealed([]byte{1, 2, 3, 4, 5, 6, 7, 8, 9, 10, 11, 12, 14, 15, 0x55})) {
		t.Errorf("without a tag: %v", b)
	}
}

func TestPacketBytesRefuses(t *testing.T) {
	for _, p := range wrongPackets() {
		if b, ok := impl.PacketBytes(p); ok || len(b) != 0 {
			t.Errorf("%d %d %d %d with %d bytes: %d bytes, %v", p.Dst, p.Src, p.Tag, p.Type, len(p.Body), len(b), ok)
		}
	}
}

func TestPacketBytesNewMemory(t *testing.T) {
	for _, tag := range []int{-1, 9} {
		body, whole := roomy([]byte{1, 2, 3}, 40)
		before := bytes.Clone(whole)
		p := impl.Packet{Dst: 1, Src: 2, Tag: tag, Type: 2048, Body: body}
		one, _ := impl.PacketBytes(p)
		two, _ := impl.PacketBytes(p)
		for i := range one {
			one[i] = 99
		}
		if !bytes.Equal(whole, before) || !bytes.Equal(two, spelled(p)) {
			t.Error("an answer shares memory with the argument or another answer")
		}
	}
}

func TestPacketsAreReadAsWritten(t *testing.T) {
	for _, p := range rightPackets() {
		b, _ := impl.PacketBytes(p)
		q, code := impl.PacketRead(b)
		if code != 0 || !samePacket(p, q) {
			t.Errorf("%d %d %d %d with %d bytes is read as %d %d %d %d with %d, code %d", p.Dst, p.Src, p.Tag, p.Type, len(p.Body), q.Dst, q.Src, q.Tag, q.Type, len(q.Body), code)
		}
	}
}

// checkRead holds what is read against the document's codes, and what is written of it against b.
func checkRead(t *testing.T, b []byte) {
	t.Helper()
	before := bytes.Clone(b)
	p, code := impl.PacketRead(b)
	if !bytes.Equal(b, before) {
		t.Error("PacketRead changed its argument")
	}
	if code != readCode(b) {
		t.Errorf("%d bytes (%x ..): code %d, not %d", len(b), b[:min(len(b), 24)], code, readCode(b))
	}
	if code != 0 && !noPacket(p) {
		t.Errorf("a packet beside the code %d", code)
	}
	if code == 0 {
		again, ok := impl.PacketBytes(p)
		if !ok || !bytes.Equal(again, b) || !bytes.Equal(spelled(p), b) {
			t.Errorf("%d bytes are read with code 0 and written as %d others, %v", len(b), len(again), ok)
		}
	}
}

// front makes the first n bytes of a packet, with the number mark at place 12, tag 5 behind it and the type 2048 at 16.
func front(n int, mark int) []byte {
	b := wave(max(n, 18))
	binary.BigEndian.PutUint16(b[12:], uint16(mark))
	binary.BigEndian.PutUint16(b[14:], 5)
	binary.BigEndian.PutUint16(b[16:], 2048)
	return b[:n]
}

func TestPacketReadEveryLength(t *testing.T) {
	for _, mark := range []int{2048, impl.TagType, impl.TagType - 1, impl.TagType + 1} {
		for n := range 60 {
			checkRead(t, front(n, mark))
			checkRead(t, sealed(front(n, mark)))
		}
		for n := impl.MaxBody + 10; n < impl.MaxBody+30; n++ {
			checkRead(t, front(n, mark))
			checkRead(t, sealed(front(n, mark)))
		}
		checkRead(t, sealed(front(2*impl.MaxBytes, mark)))
	}
	checkRead(t, nil)
	checkRead(t, []byte{})
}

func TestPacketReadLengthCodes(t *testing.T) {
	cases := []struct {
		size, mark, code int
	}{
		{0, 2048, 1}, {13, impl.TagType, 1}, {14, impl.TagType, 1}, {17, 2048, 1}, {18, 2048, 0},
		{17, impl.TagType, 1}, {18, impl.TagType, 1}, {21, impl.TagType, 1}, {22, impl.TagType, 0}, {21, 2048, 0},
		{18 + impl.MaxBody, 2048, 0}, {19 + impl.MaxBody, 2048, 2}, {22 + impl.MaxBody, 2048, 2},
		{19 + impl.MaxBody, impl.TagType, 0}, {22 + impl.MaxBody, impl.TagType, 0}, {23 + impl.MaxBody, impl.TagType, 2},
		{18, 1535, 5}, {18, 1536, 0}, {18, 65535, 0}, {18, 0, 5},
		{19 + impl.MaxBody, 0, 2}, {17, 0, 1},
	}
	for _, c := range cases {
		b := front(c.size, c.mark)
		if c.size >= 18 { // with fewer bytes a sum would stand in the place of the mark
			b = sealed(front(c.size-4, c.mark))
		}
		if _, code := impl.PacketRead(b); code != c.code || len(b) != c.size {
			t.Errorf("%d bytes with %d at place 12: code %d, not %d", len(b), c.mark, code, c.code)
		}
	}
}

func TestPacketReadEveryTypeAndTag(t *testing.T) {
	for n := range 65536 {
		checkRead(t, sealed(front(14, n)))
		b := front(19, impl.TagType)
		binary.BigEndian.PutUint16(b[14:], uint16(n))
		checkRead(t, sealed(b))
		binary.BigEndian.PutUint16(b[14:], 4094)
		binary.BigEndian.PutUint16(b[16:], uint16(n))
		checkRead(t, sealed(b))
	}
}

func TestPacketReadTagCodes(t *testing.T) {
	cases := []struct {
		tag, kind, code int
	}{
		{0, 2048, 0}, {4094, 2048, 0}, {4095, 2048, 4}, {4096, 2048, 4}, {65535, 2048, 4},
		{0, impl.TagType, 5}, {0, 1535, 5}, {0, 1536, 0}, {4094, 0, 5}, {4094, 65535, 0},
		{4095, impl.TagType, 4}, {4095, 1535, 4}, {65535, 0, 4},
	}
	for _, c := range cases {
		b := front(20, impl.TagType)
		binary.BigEndian.PutUint16(b[14:], uint16(c.tag))
		binary.BigEndian.PutUint16(b[16:], uint16(c.kind))
		if _, code := impl.PacketRead(sealed(b)); code != c.code {
			t.Errorf("tag %d, type %d: code %d, not %d", c.tag, c.kind, code, c.code)
		}
		wrong := sealed(b)
		wrong[len(wrong)-1] ^= 1
		if p, code := impl.PacketRead(wrong); code != 3 || !noPacket(p) {
			t.Errorf("tag %d, type %d with a wrong sum: code %d", c.tag, c.kind, code)
		}
	}
}

func TestPacketReadTurnedBits(t *testing.T) {
	packets := []impl.Packet{
		{Dst: 1, Src: 2, Tag: -1, Type: 2048},
		{Dst: 1, Src: 2, Tag: -1, Type: 2048, Body: []byte("hello")},
		{Dst: 1, Src: 2, Tag: 0, Type: 2048},
		{Dst: 1, Src: 2, Tag: 4094, Type: impl.TagType + 1, Body: []byte("hello")},
		{Dst: impl.MaxNum, Src: impl.MaxNum, Tag: -1, Type: impl.TagType + 1, Body: []byte{1, 2, 3}},
		{Dst: impl.MaxNum, Src: 0, Tag: -1, Type: impl.TagType + 1, Body: wave(impl.MaxBody)},
		{Dst: 0, Src: impl.MaxNum, Tag: 5, Type: 2048, Body: wave(impl.MaxBody)},
	}
	for _, p := range packets {
		b, _ := impl.PacketBytes(p)
		for bit := range 8 * len(b) {
			if len(b) > 100 && bit > 200 && bit < 8*len(b)-40 && bit%97 != 0 {
				continue
			}
			turned := bytes.Clone(b)
			turned[bit/8] ^= 1 << (bit % 8)
			checkRead(t, turned)
			if _, code := impl.PacketRead(turned); code == 0 {
				t.Errorf("bit %d turned is read", bit)
			}
		}
	}
}

func TestPacketReadSumOfAll(t *testing.T) {
	b := spelled(impl.Packet{Dst: 1, Src: 2, Tag: -1, Type: 2048, Body: []byte("hello")})
	turned := bytes.Clone(b)
	for i := range 4 {
		turned[len(b)-1-i] = b[len(b)-4+i]
	}
	checkRead(t, turned)
	checkRead(t, b[:len(b)-1])
	checkRead(t, append(bytes.Clone(b), 0))
	checkRead(t, make([]byte, 18))
	checkRead(t, bytes.Repeat([]byte{255}, 40))
}

func TestPacketReadNewMemory(t *testing.T) {
	for _, tag := range []int{-1, 9} {
		p := impl.Packet{Dst: 1, Src: 2, Tag: tag, Type: 2048, Body: []byte("hello")}
		b, whole := roomy(spelled(p), 30)
		before := bytes.Clone(whole)
		one, _ := impl.PacketRead(b)
		two, _ := impl.PacketRead(b)
		for i := range one.Body {
			one.Body[i] = 99
		}
		one.Body = append(one.Body, 98, 98, 98)
		if !bytes.Equal(whole, before) || !samePacket(two, p) || len(one.Body) != 8 {
			t.Error("an answer shares memory with the argument or another answer")
		}
		for i := range b {
			b[i] = 97
		}
		if !samePacket(two, p) {
			t.Error("an answer hangs on the argument's memory")
		}
	}
}

func TestTagged(t *testing.T) {
	for _, p := range rightPackets() {
		before := copyPacket(p)
		for _, tag := range rightTags() {
			want := copyPacket(p)
			want.Tag = tag
			if got, ok := impl.Tagged(p, tag); !ok || !samePacket(got, want) {
				t.Errorf("Tagged with %d: %d %d %d %d, %v", tag, got.Dst, got.Src, got.Tag, got.Type, ok)
			}
		}
		for _, tag := range wrongTags() {
			if got, ok := impl.Tagged(p, tag); ok || !noPacket(got) {
				t.Errorf("Tagged with %d is taken", tag)
			}
		}
		if !samePacket(p, before) {
			t.Error("the argument is changed")
		}
	}
}

func TestTaggedRefuses(t *testing.T) {
	for _, p := range wrongPackets() {
		for _, tag := range []int{-2, -1, 0, 4094, 4095} {
			want := p
			want.Tag = tag
			right := p.Dst == 3 && p.Src == 4 && p.Type == 2048 && len(p.Body) <= 1500 && tag >= -1 && tag <= 4094
			got, ok := impl.Tagged(p, tag)
			if ok != right || ok && !samePacket(got, want) || !ok && !noPacket(got) {
				t.Errorf("%d %d %d %d with %d bytes, tagged with %d: %v", p.Dst, p.Src, p.Tag, p.Type, len(p.Body), tag, ok)
			}
		}
	}
	// Only what comes is asked: a wrong tag gives way to a right one.
	for _, tag := range wrongTags() {
		got, ok := impl.Tagged(impl.Packet{Dst: 1, Src: 2, Tag: tag, Type: 2048}, 5)
		if !ok || got.Tag != 5 {
			t.Errorf("the tag %d doesn't give way: %v", tag, ok)
		}
	}
}

func TestTaggedNewMemory(t *testing.T) {
	body, whole := roomy([]byte("hello"), 10)
	before := bytes.Clone(whole)
	p := impl.Packet{Dst: 1, Src: 2, Tag: -1, Type: 2048, Body: body}
	one, _ := impl.Tagged(p, 5)
	two, _ := impl.Tagged(p, 5)
	for i := range one.Body {
		one.Body[i] = 99
	}
	one.Body = append(one.Body, 98)
	if !bytes.Equal(whole, before) || string(two.Body) != "hello" || len(one.Body) != 6 {
		t.Error("an answer shares memory with the argument or another answer")
	}
}
