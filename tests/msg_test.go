package tests

import (
	"bytes"
	"encoding/binary"
	"math"
	"slices"
	"testing"

	"loop.example/g00391/impl"
)

func addOf(epoch int, prio int, m impl.Match, l []impl.Act) impl.Msg {
	return impl.Msg{Kind: 2, Session: 7, Xid: 9, Epoch: epoch, Prio: prio, Match: m, Acts: l}
}

func flipOf(epoch int) impl.Msg { return impl.Msg{Kind: 3, Session: 7, Xid: 9, Epoch: epoch} }

func noteOf(hand bool, h impl.Head) impl.Msg {
	return impl.Msg{Kind: 5, Session: 7, Xid: 9, Hand: hand, Head: h}
}

// plainMsg is a right message of the kind, if there is such a kind.
func plainMsg(kind int) impl.Msg {
	switch kind {
	case 2:
		return addOf(5, 6, fullMatch(headFrom(1)), acts(setTo(2, 7), flood(), outTo(3)))
	case 3:
		return flipOf(8)
	case 5:
		return noteOf(true, headFrom(4))
	}
	return impl.Msg{Kind: kind, Session: 7, Xid: 9}
}

func plainMsgs() []impl.Msg {
	var l []impl.Msg
	for kind := 1; kind <= 6; kind++ {
		l = append(l, plainMsg(kind))
	}
	return l
}

func sameMsg(a impl.Msg, b impl.Msg) bool {
	return a.Kind == b.Kind && a.Session == b.Session && a.Xid == b.Xid && a.Epoch == b.Epoch && a.Prio == b.Prio &&
		sameMatch(a.Match, b.Match) && slices.Equal(a.Acts, b.Acts) && a.Hand == b.Hand && sameHead(a.Head, b.Head)
}

func noMsg(m impl.Msg) bool { return sameMsg(m, impl.Msg{}) }

// msgRight is MsgOk by the document's words: what the kind has is taken away, and nothing may be left.
func msgRight(m impl.Msg) bool {
	right := m.Session >= 0 && m.Session <= 1000000000 && m.Xid >= 0 && m.Xid <= 4294967295
	left := m
	left.Kind, left.Session, left.Xid = 0, 0, 0
	switch m.Kind {
	case 1, 4, 6:
	case 2:
		right = right && entryRight(impl.Entry{Epoch: m.Epoch, Prio: m.Prio, Match: m.Match, Acts: m.Acts})
		left.Epoch, left.Prio, left.Match, left.Acts = 0, 0, impl.Match{}, nil
	case 3:
		right = right && m.Epoch >= 0 && m.Epoch <= 1000000000
		left.Epoch = 0
	case 5:
		right = right && headRight(m.Head)
		left.Hand, left.Head = false, impl.Head{}
	default:
		return false
	}
	return right && noMsg(left)
}

// sixBytes are the lowest six bytes of n.
func sixBytes(n int) []byte { return binary.BigEndian.AppendUint64(nil, uint64(n))[2:] }

// withLength is b with its true length in the place of the length, as far as it is there.
func withLength(b []byte) []byte {
	out := bytes.Clone(b)
	if len(out) >= 4 {
		binary.BigEndian.PutUint16(out[2:], uint16(len(out)))
	}
	return out
}

// msgSpelled writes a message without the program's help; of wrong numbers only low bits come through, of lists without partner nothing.
func msgSpelled(m impl.Msg) []byte {
	b := []byte{1, byte(m.Kind), 0, 0}
	b = binary.BigEndian.AppendUint32(b, uint32(m.Session))
	b = binary.BigEndian.AppendUint32(b, uint32(m.Xid))
	switch m.Kind {
	case 2:
		b = binary.BigEndian.AppendUint32(b, uint32(m.Epoch))
		b = binary.BigEndian.AppendUint16(b, uint16(m.Prio))
		for f := range min(len(m.Match.V), len(m.Match.M)) {
			b = slices.Concat(b, sixBytes(m.Match.V[f]), sixBytes(m.Match.M[f]))
		}
		b = append(b, byte(len(m.Acts)))
		for _, a := range m.Acts {
			b = slices.Concat(b, []byte{byte(a.Kind), byte(a.A)}, sixBytes(a.B))
		}
	case 3:
		b = binary.BigEndian.AppendUint32(b, uint32(m.Epoch))
	case 5:
		b = append(b, 0)
		if m.Hand {
			b[12] = 1
		}
		for _, n := range m.Head.V {
			b = append(b, sixBytes(n)...)
		}
	}
	return withLength(b)
}

// spelledNum is the number that all of b is, the highest byte first.
func spelledNum(b []byte) int {
	n := 0
	for _, x := range b {
		n = n*256 + int(x)
	}
	return n
}

// bodySize is how many bytes a message has, by its kind and, of MsgAdd, by the number of actions that it tells.
func bodySize(b []byte) int {
	switch b[1] {
	case 2:
		if len(b) < 115 {
			return -1
		}
		return 115 + 8*int(b[114])
	case 3:
		return 16
	case 5:
		return 61
	}
	return 12
}

// msgReadSpelled is MsgRead by the document's words, every number taken from its place.
func msgReadSpelled(b []byte) (impl.Msg, int) {
	switch {
	case len(b) < 12 || len(b) > 300:
		return impl.Msg{}, 1
	case b[0] != 1:
		return impl.Msg{}, 2
	case spelledNum(b[2:4]) != len(b):
		return impl.Msg{}, 3
	case b[1] == 0 || b[1] > 6:
		return impl.Msg{}, 4
	case len(b) != bodySize(b):
		return impl.Msg{}, 5
	}
	m := impl.Msg{Kind: int(b[1]), Session: spelledNum(b[4:8]), Xid: spelledNum(b[8:12])}
	switch m.Kind {
	case 2:
		m.Epoch, m.Prio, m.Match = spelledNum(b[12:16]), spelledNum(b[16:18]), openMatch()
		for f := range 8 {
			m.Match.V[f], m.Match.M[f] = spelledNum(b[18+12*f:24+12*f]), spelledNum(b[24+12*f:30+12*f])
		}
		for at := 115; at < len(b); at += 8 {
			m.Acts = append(m.Acts, impl.Act{Kind: int(b[at]), A: int(b[at+1]), B: spelledNum(b[at+2 : at+8])})
		}
	case 3:
		m.Epoch = spelledNum(b[12:16])
	case 5:
		if b[12] > 1 {
			return impl.Msg{}, 5
		}
		m.Hand = b[12] == 1
		for at := 13; at < 61; at += 6 {
			m.Head.V = append(m.Head.V, spelledNum(b[at:at+6]))
		}
	}
	if !msgRight(m) {
		return impl.Msg{}, 5
	}
	return m, 0
}

// cutSpelled is Cut by the document's words, on one list with places in it.
func cutSpelled(hold []byte, piece []byte) ([][]byte, []byte, bool) {
	if len(hold) > 300 || len(piece) > 60000 {
		return nil, nil, false
	}
	all := slices.Concat(hold, piece)
	var parts [][]byte
	at := 0
	for at+4 <= len(all) {
		n := spelledNum(all[at+2 : at+4])
		if n < 12 || n > 300 {
			return nil, nil, false
		}
		if at+n > len(all) {
			break
		}
		parts = append(parts, all[at:at+n])
		at += n
	}
	return parts, all[at:], true
}

func msgSpots(m impl.Msg) []any {
	return slices.Concat(spots(m.Match.V), spots(m.Match.M), spots(m.Acts), spots(m.Head.V))
}

// roomyList is l with spare room behind it, in which mark stands, and the whole of it.
func roomyList[E any](l []E, mark E) ([]E, []E) {
	whole := append(slices.Clone(l), mark, mark, mark)
	return whole[:len(l)], whole
}

// underMsg hands a message with spare room behind its lists to a call, and asks that the call changed nothing of it.
func underMsg(t *testing.T, given impl.Msg, call func(arg impl.Msg)) {
	t.Helper()
	arg := given
	var v, m, h []int
	var l []impl.Act
	mark := impl.Act{Kind: 77}
	arg.Match.V, v = roomyList(given.Match.V, 77)
	arg.Match.M, m = roomyList(given.Match.M, 77)
	arg.Head.V, h = roomyList(given.Head.V, 77)
	arg.Acts, l = roomyList(given.Acts, mark)
	call(arg)
	marks := []int{77, 77, 77}
	ok := slices.Equal(v, append(slices.Clone(given.Match.V), marks...)) && slices.Equal(m, append(slices.Clone(given.Match.M), marks...)) &&
		slices.Equal(h, append(slices.Clone(given.Head.V), marks...)) && slices.Equal(l, append(slices.Clone(given.Acts), mark, mark, mark))
	if !ok {
		t.Error("a message that was given was changed")
	}
}

func checkMsgOk(t *testing.T, m impl.Msg) bool {
	t.Helper()
	got := false
	underMsg(t, m, func(arg impl.Msg) {
		got = impl.MsgOk(arg)
	})
	if got != msgRight(m) {
		t.Errorf("%v is right: %v", m, got)
	}
	return got
}

func checkMsgBytes(t *testing.T, m impl.Msg) []byte {
	t.Helper()
	var b []byte
	var ok bool
	underMsg(t, m, func(arg impl.Msg) {
		b, ok = impl.MsgBytes(arg)
	})
	if ok != msgRight(m) || ok && !bytes.Equal(b, msgSpelled(m)) || !ok && len(b) > 0 {
		t.Errorf("%v is written as %v, %v", m, b, ok)
	}
	return b
}

// checkMsgRead holds what is read against the document's words, and what is written of it against b.
func checkMsgRead(t *testing.T, b []byte) (impl.Msg, int) {
	t.Helper()
	arg, whole := roomy(b, 9)
	before := bytes.Clone(whole)
	m, code := impl.MsgRead(arg)
	if !bytes.Equal(whole, before) {
		t.Error("MsgRead changed its argument")
	}
	want, wantCode := msgReadSpelled(b)
	if code != wantCode || !sameMsg(m, want) {
		t.Errorf("%d bytes %x: %v %d, not %v %d", len(b), b[:min(len(b), 120)], m, code, want, wantCode)
	}
	if code == 0 {
		again, ok := impl.MsgBytes(m)
		if !ok || !bytes.Equal(again, b) {
			t.Errorf("%x is read with code 0 and written as %x, %v", b, again, ok)
		}
	}
	checkApart(t, nil, msgSpots(m))
	return m, code
}

func sameParts(got []impl.Part, want [][]byte) bool {
	return slices.EqualFunc(got, want, func(p impl.Part, b []byte) bool { return bytes.Equal(p.Bytes, b) })
}

func partSpots(l []impl.Part) []any {
	out := spots(l)
	for _, p := range l[:cap(l)] {
		out = append(out, spots(p.Bytes)...)
	}
	return out
}

func checkCut(t *testing.T, hold []byte, piece []byte) ([]impl.Part, []byte, bool) {
	t.Helper()
	argHold, wholeHold := roomy(hold, 7)
	argPiece, wholePiece := roomy(piece, 8)
	beforeHold, beforePiece := bytes.Clone(wholeHold), bytes.Clone(wholePiece)
	parts, rest, ok := impl.Cut(argHold, argPiece)
	if !bytes.Equal(wholeHold, beforeHold) || !bytes.Equal(wholePiece, beforePiece) {
		t.Error("Cut changed an argument")
	}
	want, wantRest, wantOk := cutSpelled(hold, piece)
	if ok != wantOk || !sameParts(parts, want) || !bytes.Equal(rest, wantRest) {
		t.Errorf("%d and %d bytes: %d parts, %d bytes left, %v, not %d, %d, %v", len(hold), len(piece), len(parts), len(rest), ok, len(want), len(wantRest), wantOk)
	}
	if len(hold)+len(piece) < 2000 {
		checkApart(t, slices.Concat(spots(wholeHold), spots(wholePiece)), append(partSpots(parts), spots(rest)...))
	}
	return parts, rest, ok
}

func rightCounts() []int { return []int{0, 1, 255, 256, 0x01020304, 999999999, 1000000000} }

func wrongCounts() []int {
	return append(farNums(), -1, 1000000001, 1000000002, 4294967295, 4294967296, 1<<32+5)
}

func rightXids() []int {
	return []int{0, 1, 255, 256, 0x01020304, 1000000001, 2147483648, 4294967294, 4294967295}
}

func wrongXids() []int { return append(farNums(), -1, 4294967296, 4294967297, 1<<33+5) }

func rightPrios() []int { return []int{0, 1, 255, 256, 0x0102, 65534, 65535} }

func wrongPrios() []int {
	return append(farNums(), -1, 65536, 65537, 1<<16+5, 1<<32+5, 1000000000)
}

// rightMsgs has each kind with each edge of each of its fields.
func rightMsgs() []impl.Msg {
	var l []impl.Msg
	for _, base := range plainMsgs() {
		l = append(l, base)
		for _, n := range rightCounts() {
			m := base
			m.Session = n
			l = append(l, m)
		}
		for _, n := range rightXids() {
			m := base
			m.Xid = n
			l = append(l, m)
		}
	}
	for _, n := range rightCounts() {
		l = append(l, flipOf(n), addOf(n, 3, oddMatch(), nil))
	}
	for _, n := range rightPrios() {
		l = append(l, addOf(2, n, oddMatch(), acts(note())))
	}
	for _, m := range rightMatches() {
		l = append(l, addOf(0, 0, m, acts(hand())))
	}
	for _, few := range rightActs() {
		l = append(l, addOf(1, 2, inMatch(3), few))
	}
	for _, h := range rightHeads() {
		l = append(l, noteOf(false, h), noteOf(true, h))
	}
	top := addOf(impl.MaxEpoch, impl.MaxPrio, fullMatch(impl.Head{V: greatest()}), repeated(setTo(2, impl.MaxNum), 12))
	top.Session, top.Xid = impl.MaxEpoch, impl.MaxXid
	return append(l, top)
}

// wrongMsgs has each kind with one field wrong that all kinds have, and one that this kind has.
func wrongMsgs() []impl.Msg {
	l := []impl.Msg{{}, {Kind: -1, Session: -1, Xid: -1, Epoch: -1, Prio: -1}}
	for _, kind := range append(farNums(), -6, -1, 0, 7, 8, 255, 256, 257, 258, 262, 1<<16+1, 1<<32+1) {
		l = append(l, plainMsg(kind))
	}
	for _, base := range plainMsgs() {
		for _, n := range wrongCounts() {
			m := base
			m.Session = n
			l = append(l, m)
		}
		for _, n := range wrongXids() {
			m := base
			m.Xid = n
			l = append(l, m)
		}
	}
	for _, n := range wrongCounts() {
		l = append(l, flipOf(n), addOf(n, 3, oddMatch(), nil))
	}
	for _, n := range wrongPrios() {
		l = append(l, addOf(2, n, oddMatch(), acts(note())))
	}
	for _, m := range wrongMatches() {
		l = append(l, addOf(1, 1, m, acts(hand())))
	}
	for _, few := range wrongActs() {
		l = append(l, addOf(1, 1, inMatch(1), few))
	}
	for _, h := range wrongHeads() {
		l = append(l, noteOf(false, h), noteOf(true, h))
	}
	return append(l, strangeMsgs()...)
}

// strangeMsgs have one field that their kind doesn't have, and that isn't zero.
func strangeMsgs() []impl.Msg {
	var l []impl.Msg
	for _, base := range plainMsgs() {
		for _, n := range append(farNums(), -1, 1, 255, impl.MaxEpoch) {
			if m := base; m.Kind != 2 && m.Kind != 3 {
				m.Epoch = n
				l = append(l, m)
			}
			if m := base; m.Kind != 2 {
				m.Prio = n
				l = append(l, m)
			}
		}
		if base.Kind != 2 {
			l = append(l, withMatches(base)...)
			l = append(l, withActs(base)...)
		}
		if base.Kind != 5 {
			l = append(l, withNotes(base)...)
		}
	}
	return l
}

func withMatches(base impl.Msg) []impl.Msg {
	var l []impl.Msg
	for _, m := range []impl.Match{
		openMatch(), inMatch(1), {V: []int{0}}, {M: []int{0}}, {V: []int{}, M: []int{0}}, {V: []int{0}, M: []int{}}, {V: []int{0}, M: []int{0}},
		{V: make([]int, 8)}, {M: make([]int, 8)}, {V: greatest(), M: greatest()}, {V: make([]int, 9), M: make([]int, 9)}, {V: []int{-1}}, {M: make([]int, 300)},
	} {
		x := base
		x.Match = m
		l = append(l, x)
	}
	return l
}

func withActs(base impl.Msg) []impl.Msg {
	var l []impl.Msg
	for _, few := range [][]impl.Act{{{}}, {note()}, {outTo(1)}, make([]impl.Act, 12), repeated(hand(), 12), repeated(hand(), 13)} {
		x := base
		x.Acts = few
		l = append(l, x)
	}
	return l
}

func withNotes(base impl.Msg) []impl.Msg {
	x := base
	x.Hand = true
	l := []impl.Msg{x}
	for _, v := range [][]int{{0}, {1}, {-1}, make([]int, 7), make([]int, 8), make([]int, 9), headFrom(1).V, greatest()} {
		x := base
		x.Head.V = v
		l = append(l, x)
	}
	return l
}

func TestMsgConstants(t *testing.T) {
	got := []int{impl.MsgReset, impl.MsgAdd, impl.MsgFlip, impl.MsgAck, impl.MsgNote, impl.MsgPing, impl.MaxMsg, impl.MaxXid}
	if !slices.Equal(got, []int{1, 2, 3, 4, 5, 6, 300, 4294967295}) {
		t.Errorf("the constants are %v", got)
	}
}

func TestMsgOk(t *testing.T) {
	for _, m := range rightMsgs() {
		if !checkMsgOk(t, m) {
			t.Errorf("%v isn't right", m)
		}
	}
	for _, m := range wrongMsgs() {
		if checkMsgOk(t, m) {
			t.Errorf("%v is right", m)
		}
	}
}

func TestMsgOkEveryKind(t *testing.T) {
	for kind := -300; kind < 600; kind++ {
		if got := impl.MsgOk(impl.Msg{Kind: kind}); got != (kind == 1 || kind == 3 || kind == 4 || kind == 6) {
			t.Errorf("kind %d with nothing more: %v", kind, got)
		}
		for _, base := range plainMsgs() {
			base.Kind = kind
			checkMsgOk(t, base)
		}
	}
}

func TestMsgOkEdges(t *testing.T) {
	for kind := 1; kind <= 6; kind++ {
		for _, c := range []struct {
			n     int
			right bool
		}{{-1, false}, {0, true}, {impl.MaxEpoch, true}, {impl.MaxEpoch + 1, false}} {
			m := plainMsg(kind)
			m.Session = c.n
			if checkMsgOk(t, m) != c.right {
				t.Errorf("kind %d with session %d: not %v", kind, c.n, c.right)
			}
			if kind == 2 || kind == 3 {
				m = plainMsg(kind)
				m.Epoch = c.n
				if checkMsgOk(t, m) != c.right {
					t.Errorf("kind %d with epoch %d: not %v", kind, c.n, c.right)
				}
			}
		}
		for _, c := range []struct {
			n     int
			right bool
		}{{-1, false}, {0, true}, {impl.MaxXid, true}, {impl.MaxXid + 1, false}} {
			m := plainMsg(kind)
			m.Xid = c.n
			if checkMsgOk(t, m) != c.right {
				t.Errorf("kind %d with xid %d: not %v", kind, c.n, c.right)
			}
		}
	}
	for _, c := range []struct {
		m     impl.Msg
		right bool
	}{
		{addOf(1, -1, openMatch(), nil), false}, {addOf(1, 0, openMatch(), nil), true},
		{addOf(1, impl.MaxPrio, openMatch(), nil), true}, {addOf(1, impl.MaxPrio+1, openMatch(), nil), false},
		{addOf(1, 1, impl.Match{}, nil), false}, {addOf(1, 1, fieldMatch(0, 1, 0), nil), false},
		{addOf(1, 1, openMatch(), repeated(hand(), 12)), true}, {addOf(1, 1, openMatch(), repeated(hand(), 13)), false},
		{addOf(1, 1, openMatch(), acts(outTo(0))), false}, {addOf(1, 1, openMatch(), []impl.Act{}), true},
		{noteOf(false, headFrom(1)), true}, {noteOf(true, headFrom(1)), true}, {noteOf(true, headFrom(256)), false},
		{noteOf(false, impl.Head{}), false}, {noteOf(true, impl.Head{}), false},
	} {
		if checkMsgOk(t, c.m) != c.right {
			t.Errorf("%v: not %v", c.m, c.right)
		}
	}
}

// A list without elements is nothing, so a kind that doesn't have it may carry it.
func TestMsgOkListsWithoutElements(t *testing.T) {
	for _, base := range plainMsgs() {
		want := msgSpelled(base)
		m := base
		if base.Kind != 2 {
			m.Match, m.Acts = impl.Match{V: []int{}, M: []int{}}, []impl.Act{}
		}
		if base.Kind != 5 {
			m.Head.V = []int{}
		}
		b, ok := impl.MsgBytes(m)
		if !checkMsgOk(t, m) || !ok || !bytes.Equal(b, want) {
			t.Errorf("kind %d with lists without elements: %x, %v", base.Kind, b, ok)
		}
	}
	none := addOf(1, 2, openMatch(), nil)
	empty := addOf(1, 2, openMatch(), []impl.Act{})
	a, _ := impl.MsgBytes(none)
	b, _ := impl.MsgBytes(empty)
	if len(a) != 115 || !bytes.Equal(a, b) {
		t.Errorf("without actions: %x and %x", a, b)
	}
}

func TestMsgBytesByHand(t *testing.T) {
	match := []byte{
		0, 0, 0, 0, 0, 3, 0, 0, 0, 0, 0, 255,
		1, 2, 3, 4, 5, 6, 255, 255, 255, 255, 255, 255,
		0, 0, 0, 0, 0, 0, 0, 0, 0, 0, 0, 0,
		0, 0, 0, 0, 8, 0, 0, 0, 0, 0, 255, 255,
		0, 0, 0, 0, 0, 0, 0, 0, 0, 0, 0, 0,
		0, 0, 10, 0, 0, 0, 0, 0, 255, 0, 0, 0,
		0, 0, 0, 0, 0, 0, 0, 0, 0, 0, 0, 1,
		0, 0, 0, 0, 0, 17, 0, 0, 0, 0, 0, 255,
	}
	asked := impl.Match{
		V: []int{3, 0x010203040506, 0, 2048, 0, 0x0a000000, 0, 17},
		M: []int{255, 281474976710655, 0, 65535, 0, 0xff000000, 1, 255},
	}
	fields := []byte{
		0, 0, 0, 0, 0, 9, 1, 2, 3, 4, 5, 6, 255, 255, 255, 255, 255, 255, 0, 0, 0, 0, 129, 0,
		0, 0, 0, 0, 16, 1, 0, 0, 1, 2, 3, 4, 0, 0, 255, 255, 255, 255, 0, 0, 0, 0, 0, 17,
	}
	head := impl.Head{V: []int{9, 0x010203040506, 281474976710655, 33024, 4097, 0x01020304, 4294967295, 17}}
	for _, c := range []struct {
		what string
		m    impl.Msg
		want []byte
	}{
		{"a reset", impl.Msg{Kind: 1, Session: 0x01020304, Xid: 0x05060708}, []byte{1, 1, 0, 12, 1, 2, 3, 4, 5, 6, 7, 8}},
		{"an ack", impl.Msg{Kind: 4, Session: 1000000000, Xid: 4294967295}, []byte{1, 4, 0, 12, 0x3b, 0x9a, 0xca, 0, 255, 255, 255, 255}},
		{"a ping", impl.Msg{Kind: 6}, []byte{1, 6, 0, 12, 0, 0, 0, 0, 0, 0, 0, 0}},
		{"a flip", impl.Msg{Kind: 3, Session: 1, Xid: 2, Epoch: 0x0a0b0c0d}, []byte{1, 3, 0, 16, 0, 0, 0, 1, 0, 0, 0, 2, 10, 11, 12, 13}},
		{"an add", impl.Msg{Kind: 2, Session: 1, Xid: 2, Epoch: 0x03040506, Prio: 0x0708, Match: asked, Acts: acts(outTo(200), setTo(2, 0x0a0b0c0d0e0f), hand())},
			slices.Concat([]byte{1, 2, 0, 139, 0, 0, 0, 1, 0, 0, 0, 2, 3, 4, 5, 6, 7, 8}, match, []byte{3, 1, 200, 0, 0, 0, 0, 0, 0, 3, 2, 10, 11, 12, 13, 14, 15, 5, 0, 0, 0, 0, 0, 0, 0})},
		{"an add without actions", impl.Msg{Kind: 2, Session: 1, Xid: 2, Epoch: 3, Prio: 4, Match: asked},
			slices.Concat([]byte{1, 2, 0, 115, 0, 0, 0, 1, 0, 0, 0, 2, 0, 0, 0, 3, 0, 4}, match, []byte{0})},
		{"an add with all actions", impl.Msg{Kind: 2, Match: asked, Acts: repeated(flood(), 12)},
			slices.Concat([]byte{1, 2, 0, 211, 0, 0, 0, 0, 0, 0, 0, 0, 0, 0, 0, 0, 0, 0}, match, []byte{12}, bytes.Repeat([]byte{2, 0, 0, 0, 0, 0, 0, 0}, 12))},
		{"a note with Hand", impl.Msg{Kind: 5, Session: 1, Xid: 2, Hand: true, Head: head}, slices.Concat([]byte{1, 5, 0, 61, 0, 0, 0, 1, 0, 0, 0, 2, 1}, fields)},
		{"a note without Hand", impl.Msg{Kind: 5, Session: 1, Xid: 2, Head: head}, slices.Concat([]byte{1, 5, 0, 61, 0, 0, 0, 1, 0, 0, 0, 2, 0}, fields)},
	} {
		b, ok := impl.MsgBytes(c.m)
		if !ok || !bytes.Equal(b, c.want) {
			t.Errorf("%s: %v %v, not %v", c.what, b, ok, c.want)
		}
		if m, code := checkMsgRead(t, c.want); code != 0 || !sameMsg(m, c.m) {
			t.Errorf("%s is read as %v with code %d", c.what, m, code)
		}
	}
}

func TestMsgBytesWrites(t *testing.T) {
	for _, m := range rightMsgs() {
		if b := checkMsgBytes(t, m); len(b) < 12 || len(b) > 300 {
			t.Errorf("%v has %d bytes", m, len(b))
		}
	}
}

func TestMsgBytesRefuses(t *testing.T) {
	for _, m := range wrongMsgs() {
		if b := checkMsgBytes(t, m); len(b) > 0 {
			t.Errorf("%v is written", m)
		}
	}
}

func TestMsgBytesNewMemory(t *testing.T) {
	for _, m := range plainMsgs() {
		one, _ := impl.MsgBytes(m)
		two, _ := impl.MsgBytes(m)
		checkApart(t, spots(one), spots(two))
		clear(one)
		if !bytes.Equal(two, msgSpelled(m)) || !msgRight(m) {
			t.Error("an answer shares memory")
		}
	}
}

func TestMsgsAreReadAsWritten(t *testing.T) {
	for _, m := range rightMsgs() {
		b, _ := impl.MsgBytes(m)
		if got, code := checkMsgRead(t, b); code != 0 || !sameMsg(got, m) {
			t.Errorf("%v is read as %v with code %d", m, got, code)
		}
	}
}

// scatteredMsg is a right message of any kind.
func scatteredMsg(next func() int) impl.Msg {
	m := impl.Msg{Kind: 1 + next()%6, Session: next() % 1000000001, Xid: next() % 4294967296}
	if next()%4 == 0 {
		m.Session, m.Xid = next()%3, next()%5
	}
	switch m.Kind {
	case 2:
		m.Epoch, m.Prio, m.Match, m.Acts = next()%1000000001, next()%65536, scatteredMatch(next), scatteredActs(next)
	case 3:
		m.Epoch = next() % 1000000001
	case 5:
		m.Hand, m.Head = next()%2 == 0, scatteredHead(next)
	}
	return m
}

func TestManyMsgsAreReadAsWritten(t *testing.T) {
	next := scatter(81)
	for range 6000 {
		m := scatteredMsg(next)
		b := checkMsgBytes(t, m)
		if got, code := checkMsgRead(t, b); code != 0 || !sameMsg(got, m) {
			t.Fatalf("%v is read as %v with code %d", m, got, code)
		}
	}
}

// sized has n bytes of a message of the kind, with the length set to fit, as far as they are there.
func sized(n int, kind byte, fill byte) []byte {
	b := bytes.Repeat([]byte{fill}, max(n, 4))
	b[0], b[1] = 1, kind
	return withLength(b[:n])
}

func TestMsgReadEveryLength(t *testing.T) {
	for n := range 420 {
		for kind := range byte(9) {
			for _, fill := range []byte{0, 1, 2, 12, 255} {
				checkMsgRead(t, sized(n, kind, fill))
			}
		}
	}
	checkMsgRead(t, nil)
	checkMsgRead(t, []byte{})
	checkMsgRead(t, sized(65536+12, 6, 0))
	checkMsgRead(t, sized(65536+16, 3, 0))
	checkMsgRead(t, sized(2*impl.MaxBytes, 6, 0))
	for _, c := range []struct {
		size int
		kind byte
		code int
	}{
		{0, 6, 1}, {1, 6, 1}, {4, 6, 1}, {11, 6, 1}, {12, 6, 0}, {13, 6, 5}, {299, 6, 5}, {impl.MaxMsg, 6, 5}, {impl.MaxMsg + 1, 6, 1},
		{11, 3, 1}, {12, 3, 5}, {15, 3, 5}, {16, 3, 0}, {17, 3, 5}, {impl.MaxMsg, 3, 5}, {impl.MaxMsg + 1, 3, 1},
		{12, 5, 5}, {60, 5, 5}, {61, 5, 0}, {62, 5, 5}, {impl.MaxMsg, 5, 5}, {impl.MaxMsg + 1, 5, 1},
		{12, 2, 5}, {114, 2, 5}, {115, 2, 0}, {116, 2, 5}, {123, 2, 5}, {impl.MaxMsg, 2, 5}, {impl.MaxMsg + 1, 2, 1},
		{12, 1, 0}, {12, 4, 0}, {12, 0, 4}, {12, 7, 4}, {impl.MaxMsg, 0, 4}, {impl.MaxMsg, 7, 4}, {impl.MaxMsg + 1, 7, 1}, {65536 + 12, 6, 1},
	} {
		if m, code := impl.MsgRead(sized(c.size, c.kind, 0)); code != c.code || code != 0 && !noMsg(m) {
			t.Errorf("%d bytes of kind %d: code %d, not %d", c.size, c.kind, code, c.code)
		}
	}
}

// Where more than one code would fit the lowest holds.
func TestMsgReadLowestCode(t *testing.T) {
	for _, c := range []struct {
		what string
		b    []byte
		code int
	}{
		{"nothing", nil, 1},
		{"too short, wrong first byte, length and kind", []byte{2, 7, 0, 99, 0, 0, 0, 0, 0, 0, 0}, 1},
		{"too long, wrong first byte, length and kind", slices.Concat([]byte{2, 7, 0, 99}, make([]byte, 297)), 1},
		{"too long, and all else right but the body", sized(301, 1, 0), 1},
		{"first byte 0, length and kind wrong", []byte{0, 7, 0, 13, 0, 0, 0, 0, 0, 0, 0, 0}, 2},
		{"first byte 2, length and kind wrong", []byte{2, 0, 0, 11, 0, 0, 0, 0, 0, 0, 0, 0}, 2},
		{"first byte 2, body wrong", []byte{2, 3, 0, 12, 0, 0, 0, 0, 0, 0, 0, 0}, 2},
		{"first byte 0", []byte{0, 6, 0, 12, 0, 0, 0, 0, 0, 0, 0, 0}, 2},
		{"first byte 2", []byte{2, 6, 0, 12, 0, 0, 0, 0, 0, 0, 0, 0}, 2},
		{"length one too small, kind 0", []byte{1, 0, 0, 11, 0, 0, 0, 0, 0, 0, 0, 0}, 3},
		{"length one too large, kind 7", []byte{1, 7, 0, 13, 0, 0, 0, 0, 0, 0, 0, 0}, 3},
		{"length one too small", []byte{1, 6, 0, 11, 0, 0, 0, 0, 0, 0, 0, 0}, 3},
		{"length one too large", []byte{1, 6, 0, 13, 0, 0, 0, 0, 0, 0, 0, 0}, 3},
		{"length with a high byte", []byte{1, 6, 1, 12, 0, 0, 0, 0, 0, 0, 0, 0}, 3},
		{"length wrong, session wrong", []byte{1, 6, 0, 16, 255, 0, 0, 0, 0, 0, 0, 0}, 3},
		{"kind 0, session wrong", []byte{1, 0, 0, 12, 255, 0, 0, 0, 0, 0, 0, 0}, 4},
		{"kind 7, session wrong", []byte{1, 7, 0, 12, 255, 0, 0, 0, 0, 0, 0, 0}, 4},
		{"kind 255", []byte{1, 255, 0, 12, 0, 0, 0, 0, 0, 0, 0, 0}, 4},
		{"session wrong", []byte{1, 6, 0, 12, 255, 0, 0, 0, 0, 0, 0, 0}, 5},
		{"right", []byte{1, 6, 0, 12, 0, 0, 0, 0, 255, 0, 0, 0}, 0},
	} {
		if m, code := checkMsgRead(t, c.b); code != c.code || code != 0 && !noMsg(m) {
			t.Errorf("%s: code %d, not %d", c.what, code, c.code)
		}
	}
}

func TestMsgReadEveryToldLength(t *testing.T) {
	for _, m := range plainMsgs() {
		b := msgSpelled(m)
		for n := range 65536 {
			binary.BigEndian.PutUint16(b[2:], uint16(n))
			want := 3
			if n == len(b) {
				want = 0
			}
			if _, code := impl.MsgRead(b); code != want {
				t.Fatalf("kind %d with %d bytes and the length %d: code %d", m.Kind, len(b), n, code)
			}
		}
	}
}

// changedAt is b with other bytes from place at on.
func changedAt(b []byte, at int, with ...byte) []byte {
	out := bytes.Clone(b)
	copy(out[at:], with)
	return out
}

// Every place of every kind takes every byte.
func TestMsgReadEveryByte(t *testing.T) {
	msgs := append(plainMsgs(), addOf(0, 0, openMatch(), nil), noteOf(false, impl.Head{V: make([]int, 8)}))
	for _, m := range msgs {
		b := msgSpelled(m)
		for at := range b {
			for x := range 256 {
				checkMsgRead(t, changedAt(b, at, byte(x)))
			}
		}
	}
}

// A byte too few and a byte too many, at every place, with the length set to fit and without.
func TestMsgReadByteMoreOrLess(t *testing.T) {
	msgs := append(plainMsgs(), addOf(0, 0, openMatch(), nil), addOf(0, 0, openMatch(), repeated(hand(), 12)), noteOf(false, impl.Head{V: make([]int, 8)}))
	for _, m := range msgs {
		b := msgSpelled(m)
		for at := range len(b) + 1 {
			for _, x := range []byte{0, 1, 2, 255} {
				more := slices.Insert(bytes.Clone(b), at, x)
				checkMsgRead(t, more)
				checkMsgRead(t, withLength(more))
				if _, code := impl.MsgRead(withLength(more)); code == 0 {
					t.Errorf("kind %d with the byte %d put in at %d is read", m.Kind, x, at)
				}
			}
			if at == len(b) {
				continue
			}
			less := slices.Delete(bytes.Clone(b), at, at+1)
			checkMsgRead(t, less)
			checkMsgRead(t, withLength(less))
			if _, code := impl.MsgRead(withLength(less)); code == 0 {
				t.Errorf("kind %d with the byte at %d taken out is read", m.Kind, at)
			}
		}
		checkMsgRead(t, withLength(append(bytes.Clone(b), b...)))
	}
}

func TestMsgReadBodyCodes(t *testing.T) {
	ping, flip, note := msgSpelled(plainMsg(6)), msgSpelled(flipOf(8)), msgSpelled(plainMsg(5))
	add := msgSpelled(addOf(5, 6, openMatch(), acts(outTo(3), hand())))
	bare := msgSpelled(addOf(5, 6, openMatch(), nil))
	full := msgSpelled(addOf(5, 6, openMatch(), repeated(hand(), 12)))
	for _, c := range []struct {
		what string
		b    []byte
		code int
	}{
		{"the greatest session", changedAt(ping, 4, 0x3b, 0x9a, 0xca, 0), 0},
		{"a session too large", changedAt(ping, 4, 0x3b, 0x9a, 0xca, 1), 5},
		{"the greatest xid", changedAt(ping, 8, 255, 255, 255, 255), 0},
		{"the greatest epoch of a flip", changedAt(flip, 12, 0x3b, 0x9a, 0xca, 0), 0},
		{"an epoch of a flip too large", changedAt(flip, 12, 0x3b, 0x9a, 0xca, 1), 5},
		{"the greatest epoch of an add", changedAt(add, 12, 0x3b, 0x9a, 0xca, 0), 0},
		{"an epoch of an add too large", changedAt(add, 12, 0x3b, 0x9a, 0xca, 1), 5},
		{"the greatest prio", changedAt(add, 16, 255, 255), 0},
		{"a mask", changedAt(add, 24, 0, 0, 0, 0, 0, 255), 0},
		{"a mask too large for its field", changedAt(add, 24, 0, 0, 0, 0, 1, 0), 5},
		{"V within M", changedAt(add, 18, 0, 0, 0, 0, 0, 3, 0, 0, 0, 0, 0, 7), 0},
		{"V outside of M", changedAt(add, 18, 0, 0, 0, 0, 0, 8, 0, 0, 0, 0, 0, 7), 5},
		{"V without M", changedAt(add, 23, 1), 5},
		{"V of the last field outside of M", changedAt(add, 18+12*7, 0, 0, 0, 0, 0, 1, 0, 0, 0, 0, 0, 2), 5},
		{"one action told more than there are", changedAt(add, 114, 3), 5},
		{"one action told less than there are", changedAt(add, 114, 1), 5},
		{"no actions told, and two there", changedAt(add, 114, 0), 5},
		{"an action told, and none there", changedAt(bare, 114, 1), 5},
		{"255 actions told, and none there", changedAt(bare, 114, 255), 5},
		{"twelve actions", full, 0},
		{"thirteen actions told, and twelve there", changedAt(full, 114, 13), 5},
		{"thirteen actions told, and thirteen there", withLength(append(changedAt(full, 114, 13), 5, 0, 0, 0, 0, 0, 0, 0)), 5},
		{"twelve actions told, and thirteen there", withLength(append(bytes.Clone(full), 5, 0, 0, 0, 0, 0, 0, 0)), 5},
		{"an action of kind 0", changedAt(add, 115, 0, 0), 5},
		{"an action of kind 6", changedAt(add, 115, 6, 0), 5},
		{"out to 0", changedAt(add, 115, 1, 0), 5},
		{"out with a B", changedAt(add, 115, 1, 3, 0, 0, 0, 0, 0, 1), 5},
		{"out with a high byte of B", changedAt(add, 115, 1, 3, 1), 5},
		{"a set of field 2", changedAt(add, 115, 3, 2, 255, 255, 255, 255, 255, 255), 0},
		{"a set of field 3", changedAt(add, 115, 3, 3), 5},
		{"a hand with an A", changedAt(add, 124, 1), 5},
		{"a Hand byte of 0", changedAt(note, 12, 0), 0},
		{"a Hand byte of 1", changedAt(note, 12, 1), 0},
		{"a Hand byte of 2", changedAt(note, 12, 2), 5},
		{"a Hand byte of 255", changedAt(note, 12, 255), 5},
		{"a port of a head too large", changedAt(note, 13, 0, 0, 0, 0, 1, 0), 5},
		{"a type of a head too large", changedAt(note, 31, 0, 0, 0, 1), 5},
		{"an address of a head too large", changedAt(note, 43, 0, 1), 5},
		{"a last field of a head too large", changedAt(note, 55, 0, 0, 0, 0, 1), 5},
		{"a flip as a ping", changedAt(flip, 1, 6), 5},
		{"a ping as a flip", changedAt(ping, 1, 3), 5},
		{"a ping as an add", changedAt(ping, 1, 2), 5},
		{"a ping as a note", changedAt(ping, 1, 5), 5},
		{"a ping as a reset", changedAt(ping, 1, 1), 0},
	} {
		if m, code := checkMsgRead(t, c.b); code != c.code || code != 0 && !noMsg(m) {
			t.Errorf("%s: code %d, not %d", c.what, code, c.code)
		}
	}
}

// Numbers that don't fit are written by hand, as far as their bytes hold them; they are read as nothing.
func TestMsgReadWrongNumbers(t *testing.T) {
	refused := 0
	for _, m := range wrongMsgs() {
		b := msgSpelled(m)
		got, code := checkMsgRead(t, b)
		if code != 0 {
			refused++
		}
		if code == 0 && sameMsg(got, m) {
			t.Errorf("%v isn't right, and is read", m)
		}
	}
	if refused < 300 {
		t.Errorf("only %d are refused", refused)
	}
	for f, top := range greatest() {
		for _, n := range []int{top, top + 1, 2*top + 1, 1<<48 - 1} {
			h := impl.Head{V: make([]int, 8)}
			h.V[f] = n & (1<<48 - 1)
			_, code := checkMsgRead(t, msgSpelled(noteOf(true, h)))
			_, also := checkMsgRead(t, msgSpelled(addOf(1, 1, fieldMatch(f, 0, h.V[f]), nil)))
			if want := h.V[f] <= top; (code == 0) != want || (also == 0) != want {
				t.Errorf("%d in field %d: codes %d and %d", h.V[f], f, code, also)
			}
		}
	}
}

// mutated is b with a few single bytes changed, taken out and put in; mostly the length is set to fit.
func mutated(b []byte, next func() int) []byte {
	out := bytes.Clone(b)
	for range 1 + next()%3 {
		at := next() % (len(out) + 1)
		x := byte(next() % 256)
		if next()%2 == 0 {
			x = []byte{0, 1, 2, 3, 5, 12, 13, 255}[next()%8]
		}
		switch kind := next() % 8; {
		case kind == 0:
			out = slices.Insert(out, at, x)
		case kind == 1 && at < len(out):
			out = slices.Delete(out, at, at+1)
		case kind == 2 && len(out) > 114:
			out[114] = x
		case at < len(out):
			out[at] = x
		}
	}
	if next()%4 > 0 {
		return withLength(out)
	}
	return out
}

// Nothing else is read as a message: where bytes are read they are what is written.
func TestNothingElseIsRead(t *testing.T) {
	next := scatter(82)
	codes := make([]int, 6)
	for range 60000 {
		_, code := checkMsgRead(t, mutated(msgSpelled(scatteredMsg(next)), next))
		codes[code]++
	}
	for range 5000 {
		b := wave(next() % 310)
		for i := range b {
			b[i] = byte(next())
		}
		checkMsgRead(t, b)
		if len(b) > 2 {
			b[0], b[1] = 1, byte(next()%8)
			checkMsgRead(t, withLength(b))
		}
	}
	if slices.Min(codes) < 300 {
		t.Errorf("the codes came up %v times", codes)
	}
}

// Two messages that differ are never the same bytes.
func TestMsgsDiffer(t *testing.T) {
	seen := map[string]impl.Msg{}
	for _, m := range rightMsgs() {
		b, _ := impl.MsgBytes(m)
		if x, there := seen[string(b)]; there && !sameMsg(x, m) {
			t.Errorf("%v and %v are the same bytes", x, m)
		}
		seen[string(b)] = m
	}
}

func TestMsgReadNewMemory(t *testing.T) {
	for _, m := range append(plainMsgs(), addOf(1, 1, openMatch(), repeated(hand(), 12))) {
		b := msgSpelled(m)
		one, _ := impl.MsgRead(b)
		two, _ := impl.MsgRead(b)
		checkApart(t, msgSpots(one), msgSpots(two))
		clear(b)
		clear(one.Match.V)
		clear(one.Match.M)
		clear(one.Acts)
		clear(one.Head.V)
		if !sameMsg(two, m) {
			t.Errorf("kind %d: an answer hangs on other memory", m.Kind)
		}
	}
}

// part has n bytes that tell their length, and are else of no message.
func part(n int, fill byte) []byte { return withLength(bytes.Repeat([]byte{fill}, n)) }

// told are n bytes of a stream that tell the length long.
func told(n int, long int) []byte {
	b := bytes.Repeat([]byte{9}, max(n, 4))
	binary.BigEndian.PutUint16(b[2:], uint16(long))
	return b[:n]
}

func TestCutByHand(t *testing.T) {
	a, b, c := part(12, 1), part(13, 2), part(300, 3)
	type answer struct {
		parts [][]byte
		rest  []byte
		ok    bool
	}
	refused := answer{}
	for _, x := range []struct {
		what        string
		hold, piece []byte
		want        answer
	}{
		{"nothing", nil, nil, answer{nil, nil, true}},
		{"nothing, in lists", []byte{}, []byte{}, answer{nil, nil, true}},
		{"three bytes", nil, told(3, 0), answer{nil, told(3, 0), true}},
		{"three bytes held", told(3, 0), nil, answer{nil, told(3, 0), true}},
		{"three bytes in both", []byte{255}, []byte{255, 255}, answer{nil, []byte{255, 255, 255}, true}},
		{"four bytes that tell 0", nil, told(4, 0), refused},
		{"four bytes that tell 11", nil, told(4, 11), refused},
		{"four bytes that tell 12", nil, told(4, 12), answer{nil, told(4, 12), true}},
		{"four bytes that tell MaxMsg", nil, told(4, 300), answer{nil, told(4, 300), true}},
		{"four bytes that tell MaxMsg + 1", nil, told(4, 301), refused},
		{"four bytes that tell 65535", nil, told(4, 65535), refused},
		{"four bytes held that tell 11", told(4, 11), nil, refused},
		{"three held, and a fourth that tells 11", told(4, 11)[:3], []byte{11}, refused},
		{"three held, and a fourth that tells 12", told(4, 12)[:3], []byte{12}, answer{nil, told(4, 12), true}},
		{"a byte too few", nil, a[:11], answer{nil, a[:11], true}},
		{"just at the end", nil, a, answer{[][]byte{a}, nil, true}},
		{"just at the end, held", a, nil, answer{[][]byte{a}, nil, true}},
		{"just at the end, in both", a[:7], a[7:], answer{[][]byte{a}, nil, true}},
		{"a byte behind", nil, append(bytes.Clone(a), 9), answer{[][]byte{a}, []byte{9}, true}},
		{"three bytes behind that would tell nothing right", nil, append(bytes.Clone(a), 255, 255, 255), answer{[][]byte{a}, []byte{255, 255, 255}, true}},
		{"the longest, a byte too few", nil, c[:299], answer{nil, c[:299], true}},
		{"the longest", nil, c, answer{[][]byte{c}, nil, true}},
		{"the longest, held", c, nil, answer{[][]byte{c}, nil, true}},
		{"the longest, held up to its last byte", c[:299], append(bytes.Clone(c[299:]), a...), answer{[][]byte{c, a}, nil, true}},
		{"several", nil, slices.Concat(a, b, c, a, a), answer{[][]byte{a, b, c, a, a}, nil, true}},
		{"several, and a part of one", nil, slices.Concat(a, b, c, b[:12]), answer{[][]byte{a, b, c}, b[:12], true}},
		{"several held", slices.Concat(a, b, a[:5]), a[5:], answer{[][]byte{a, b, a}, nil, true}},
		{"25 of them held", bytes.Repeat(a, 25), b, answer{append(slices.Repeat([][]byte{a}, 25), b), nil, true}},
		{"a wrong length behind right parts", nil, slices.Concat(a, b, told(4, 11)), refused},
		{"a wrong length far behind right parts", a, slices.Concat(a, b, c, told(40, 301)), refused},
		{"a wrong length ahead of right parts", nil, slices.Concat(told(12, 11), a, b), refused},
		{"a wrong length within what isn't all there", nil, slices.Concat(told(12, 300), told(12, 11)), answer{nil, slices.Concat(told(12, 300), told(12, 11)), true}},
	} {
		parts, rest, ok := checkCut(t, x.hold, x.piece)
		if ok != x.want.ok || !sameParts(parts, x.want.parts) || !bytes.Equal(rest, x.want.rest) {
			t.Errorf("%s: %v %v %v", x.what, parts, rest, ok)
		}
	}
}

func TestCutSizes(t *testing.T) {
	a := part(12, 1)
	for _, x := range []struct {
		hold, piece int
		ok          bool
	}{
		{0, 0, true}, {299, 1, true}, {300, 0, true}, {301, 0, false}, {302, 0, false}, {600, 0, false}, {301, 60000, false}, {60000, 0, false}, {65536 + 12, 0, false},
		{0, 59999, true}, {0, 60000, true}, {0, 60001, false}, {300, 60000, true}, {300, 60001, false}, {12, 60001, false}, {301, 60001, false}, {0, 120000, false}, {0, 65536 + 12, false},
	} {
		all := bytes.Repeat(a, (x.hold+x.piece)/12+1)
		parts, rest, ok := checkCut(t, all[:x.hold], all[x.hold:x.hold+x.piece])
		if ok != x.ok {
			t.Errorf("%d and %d bytes: %v", x.hold, x.piece, ok)
		}
		if ok && (len(parts) != (x.hold+x.piece)/12 || len(rest) != (x.hold+x.piece)%12) || !ok && (len(parts) > 0 || len(rest) > 0) {
			t.Errorf("%d and %d bytes: %d parts, %d left", x.hold, x.piece, len(parts), len(rest))
		}
	}
}

func TestCutEveryToldLength(t *testing.T) {
	for n := range 65536 {
		parts, rest, ok := impl.Cut(nil, told(4, n))
		right := n >= 12 && n <= 300
		if ok != right || len(parts) > 0 || ok && !bytes.Equal(rest, told(4, n)) || !ok && len(rest) > 0 {
			t.Fatalf("four bytes that tell %d: %v %v %v", n, parts, rest, ok)
		}
	}
	for n := 12; n <= 300; n++ {
		for _, more := range []int{-1, 0, 1, 3} {
			b := append(part(n, 7), 0, 0, 0)[:n+more]
			parts, rest, ok := checkCut(t, nil, b)
			if more < 0 && (!ok || len(parts) > 0 || len(rest) != n-1) || more >= 0 && (!ok || len(parts) != 1 || len(rest) != more) {
				t.Errorf("%d bytes that tell %d: %d parts, %d left, %v", len(b), n, len(parts), len(rest), ok)
			}
		}
	}
}

// A part need not be a message: only its length is looked at.
func TestCutLooksAtLengthsAlone(t *testing.T) {
	for _, b := range [][]byte{part(12, 0), part(12, 255), {2, 7, 0, 12, 255, 255, 255, 255, 0, 0, 0, 0}, part(300, 8), sized(115, 0, 3)} {
		parts, rest, ok := checkCut(t, b[:1], b[1:])
		if !ok || len(parts) != 1 || !bytes.Equal(parts[0].Bytes, b) || len(rest) > 0 {
			t.Errorf("%v is cut as %v %v %v", b, parts, rest, ok)
		}
	}
}

// stream is n messages' bytes, apart and one behind the other.
func stream(n int, next func() int) ([][]byte, []byte) {
	var l [][]byte
	for range n {
		b, _ := impl.MsgBytes(scatteredMsg(next))
		l = append(l, b)
	}
	return l, slices.Concat(l...)
}

// cutPieces takes a stream piece by piece, each with what the ones ahead left over.
func cutPieces(t *testing.T, pieces [][]byte) ([][]byte, []byte) {
	t.Helper()
	var all [][]byte
	var hold []byte
	for _, piece := range pieces {
		parts, rest, ok := checkCut(t, hold, piece)
		if !ok || len(rest) > 299 {
			t.Fatalf("a piece of %d bytes behind %d held: %v, %d left", len(piece), len(hold), ok, len(rest))
		}
		for _, p := range parts {
			all = append(all, p.Bytes)
		}
		hold = rest
	}
	return all, hold
}

func sameRows(a [][]byte, b [][]byte) bool { return slices.EqualFunc(a, b, bytes.Equal) }

func TestStreamCutAtEveryPlace(t *testing.T) {
	next := scatter(83)
	for n := range 12 {
		l, all := stream(n, next)
		for at := range len(all) + 1 {
			got, rest := cutPieces(t, [][]byte{all[:at], all[at:]})
			if !sameRows(got, l) || len(rest) > 0 {
				t.Fatalf("%d messages, cut at %d: %d parts, %d bytes left", n, at, len(got), len(rest))
			}
		}
	}
}

func TestStreamCutAtEveryTwoPlaces(t *testing.T) {
	flip, ping := msgSpelled(flipOf(1000)), msgSpelled(plainMsg(6))
	l := [][]byte{flip, ping, msgSpelled(plainMsg(5)), ping}
	all := slices.Concat(l...)
	for i := range len(all) + 1 {
		for j := i; j <= len(all); j++ {
			got, rest := cutPieces(t, [][]byte{all[:i], all[i:j], all[j:]})
			if !sameRows(got, l) || len(rest) > 0 {
				t.Fatalf("cut at %d and %d: %d parts, %d bytes left", i, j, len(got), len(rest))
			}
		}
	}
}

// inPieces is b in pieces of up to most bytes, some of them without any.
func inPieces(b []byte, most int, next func() int) [][]byte {
	var out [][]byte
	for len(b) > 0 {
		n := min(next()%(most+1), len(b))
		out = append(out, b[:n])
		b = b[n:]
	}
	return out
}

func TestStreamInManyPieces(t *testing.T) {
	next := scatter(84)
	for round := range 150 {
		l, all := stream(next()%40, next)
		most := []int{1, 2, 3, 5, 12, 50, 300, 1000}[round%8]
		got, rest := cutPieces(t, inPieces(all, most, next))
		if !sameRows(got, l) || len(rest) > 0 {
			t.Fatalf("%d messages in pieces of up to %d: %d parts, %d bytes left", len(l), most, len(got), len(rest))
		}
		for i, b := range got {
			if m, code := impl.MsgRead(b); code != 0 || !bytes.Equal(msgSpelled(m), l[i]) {
				t.Fatalf("part %d has code %d", i, code)
			}
		}
	}
}

// A stream that ends within a message leaves the beginning of that one, however it was cut.
func TestStreamEndsWithin(t *testing.T) {
	next := scatter(85)
	for range 40 {
		l, all := stream(6, next)
		end := len(all) - 1 - next()%len(l[5])
		want, wantRest, _ := cutSpelled(nil, all[:end])
		got, rest := cutPieces(t, inPieces(all[:end], 1+next()%60, next))
		if !sameRows(got, want) || !bytes.Equal(rest, wantRest) || len(want) != 5 {
			t.Fatalf("%d parts, %d bytes left, not %d, %d", len(got), len(rest), len(want), len(wantRest))
		}
		more, none := cutPieces(t, [][]byte{rest, all[end:]})
		if !sameRows(append(got, more...), l) || len(none) > 0 {
			t.Fatalf("going on: %d parts, %d bytes left", len(more), len(none))
		}
	}
}

// Streams with a few bytes wrong are cut as the words say, up to the piece that is refused.
func TestStreamsThatAreWrong(t *testing.T) {
	next := scatter(86)
	refused := 0
	for range 3000 {
		_, all := stream(1+next()%5, next)
		b := mutated(all, next)
		at := next() % (len(b) + 1)
		at = min(at, 300)
		if _, _, ok := checkCut(t, b[:at], b[at:]); !ok {
			refused++
		}
	}
	for _, v := range []int{math.MaxUint16, 301, 11, 0} {
		for n := range 6 {
			_, all := stream(n, next)
			if parts, rest, ok := checkCut(t, nil, slices.Concat(all, told(5, v))); ok || len(parts) > 0 || len(rest) > 0 {
				t.Errorf("%d behind %d messages: %d parts, %d left, %v", v, n, len(parts), len(rest), ok)
			}
		}
	}
	if refused < 200 {
		t.Errorf("only %d are refused", refused)
	}
}

func TestCutNewMemory(t *testing.T) {
	a, b := part(12, 1), part(40, 2)
	hold, piece := slices.Concat(a, b[:30]), slices.Concat(b[30:], a, b, a[:7])
	parts, rest, _ := impl.Cut(hold, piece)
	again, left, _ := impl.Cut(hold, piece)
	checkApart(t, slices.Concat(spots(hold), spots(piece)), slices.Concat(partSpots(parts), spots(rest), partSpots(again), spots(left)))
	clear(hold)
	clear(piece)
	for i := range parts {
		clear(parts[i].Bytes)
		parts[i].Bytes = append(parts[i].Bytes, 99, 99, 99, 99)
	}
	clear(rest)
	if !sameParts(again, [][]byte{a, b, a, b}) || !bytes.Equal(left, a[:7]) {
		t.Error("an answer shares memory")
	}
	// One list given twice is still two arguments.
	both := part(12, 5)
	parts, rest, ok := impl.Cut(both, both)
	checkApart(t, spots(both), append(partSpots(parts), spots(rest)...))
	if !ok || !sameParts(parts, [][]byte{both, both}) || len(rest) > 0 {
		t.Errorf("twice the same list: %v %v %v", parts, rest, ok)
	}
}

// Long streams are cut at once as in pieces: the most parts that may come.
func TestCutMostParts(t *testing.T) {
	a := part(12, 1)
	parts, rest, ok := impl.Cut(bytes.Repeat(a, 25), bytes.Repeat(a, 5000))
	if !ok || len(parts) != 5025 || len(rest) > 0 {
		t.Fatalf("%d parts, %d left, %v", len(parts), len(rest), ok)
	}
	checkApart(t, nil, append(partSpots(parts), spots(rest)...))
	for i, p := range parts {
		if !bytes.Equal(p.Bytes, a) {
			t.Fatalf("part %d is %v", i, p.Bytes)
		}
	}
}
