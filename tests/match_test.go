package tests

import (
	"math"
	"slices"
	"strings"
	"testing"

	"loop.example/g00391/impl"
)

func sameMatch(a impl.Match, b impl.Match) bool {
	return slices.Equal(a.V, b.V) && slices.Equal(a.M, b.M)
}

func noMatch(m impl.Match) bool { return len(m.V) == 0 && len(m.M) == 0 }

func copyMatch(m impl.Match) impl.Match {
	return impl.Match{V: slices.Clone(m.V), M: slices.Clone(m.M)}
}

// fieldSizes is, for each field, how many bits it has, written out.
func fieldSizes() []int { return []int{8, 48, 48, 16, 16, 32, 32, 8} }

// matchRight is MatchOk by the document's words, bit by bit.
func matchRight(m impl.Match) bool {
	if len(m.V) != 8 || len(m.M) != 8 {
		return false
	}
	for f, top := range greatest() {
		if m.M[f] < 0 || m.M[f] > top || m.V[f] < 0 {
			return false
		}
		for bit := range 63 {
			if m.V[f]>>bit%2 == 1 && m.M[f]>>bit%2 == 0 {
				return false
			}
		}
	}
	return true
}

// signs is a right match as a text, a sign for each bit of each field, the highest
// first: '0' or '1' where it must be that, '*' where it isn't asked.
func signs(m impl.Match) string {
	var out strings.Builder
	for f, size := range fieldSizes() {
		for bit := size - 1; bit >= 0; bit-- {
			switch {
			case m.M[f]>>bit%2 == 0:
				out.WriteByte('*')
			case m.V[f]>>bit%2 == 0:
				out.WriteByte('0')
			default:
				out.WriteByte('1')
			}
		}
	}
	return out.String()
}

// signed is the match of such a text.
func signed(s string) impl.Match {
	m := impl.Match{V: make([]int, 8), M: make([]int, 8)}
	at := 0
	for f, size := range fieldSizes() {
		for range size {
			m.V[f] *= 2
			m.M[f] *= 2
			if s[at] != '*' {
				m.M[f]++
				m.V[f] += int(s[at] - '0')
			}
			at++
		}
	}
	return m
}

func fullMatch(h impl.Head) impl.Match {
	return impl.Match{V: slices.Clone(h.V), M: greatest()}
}

func openMatch() impl.Match { return impl.Match{V: make([]int, 8), M: make([]int, 8)} }

// fieldMatch asks only of the field f.
func fieldMatch(f int, v int, mask int) impl.Match {
	m := openMatch()
	m.V[f], m.M[f] = v, mask
	return m
}

// coversSpelled is Covers by the signs: a leaves the bit open, or b asks the same of it.
func coversSpelled(a impl.Match, b impl.Match) bool {
	if !matchRight(a) || !matchRight(b) {
		return false
	}
	x, y := signs(a), signs(b)
	for i := range len(x) {
		if x[i] != '*' && x[i] != y[i] {
			return false
		}
	}
	return true
}

// meetSpelled is MeetOf by the signs: where one leaves a bit open the other's sign stands.
func meetSpelled(a impl.Match, b impl.Match) (impl.Match, bool) {
	if !matchRight(a) || !matchRight(b) {
		return impl.Match{}, false
	}
	x, y := signs(a), signs(b)
	out := make([]byte, len(x))
	for i := range len(x) {
		switch {
		case x[i] == '*':
			out[i] = y[i]
		case y[i] == '*' || x[i] == y[i]:
			out[i] = x[i]
		default:
			return impl.Match{}, false
		}
	}
	return signed(string(out)), true
}

// hitsSpelled is Hits by the signs.
func hitsSpelled(m impl.Match, h impl.Head) bool {
	return headRight(h) && coversSpelled(m, fullMatch(h))
}

func askedSpelled(m impl.Match) int {
	if !matchRight(m) {
		return -1
	}
	return 208 - strings.Count(signs(m), "*")
}

// scatter gives numbers without an order, the same ones each time.
func scatter(seed uint64) func() int {
	x := seed
	return func() int {
		x = x*6364136223846793005 + 1442695040888963407
		return int(x >> 15 & 281474976710655)
	}
}

func scatteredHead(next func() int) impl.Head {
	h := impl.Head{V: make([]int, 8)}
	for f, top := range greatest() {
		h.V[f] = next() & top
	}
	return h
}

// scatteredMatch asks many bits of some fields, few of others, none of the rest.
func scatteredMatch(next func() int) impl.Match {
	m := openMatch()
	for f, top := range greatest() {
		mask := next() & top
		switch next() % 4 {
		case 0:
			mask = 0
		case 1:
			mask &= next() & next()
		case 2:
			mask |= next() & top
		}
		m.M[f] = mask
		m.V[f] = next() & mask
	}
	return m
}

// rightMatches: open and full ones, all bits, the highest, the lowest and middle ones of each field, mixed ones.
func rightMatches() []impl.Match {
	l := []impl.Match{openMatch(), {V: make([]int, 8), M: greatest()}, {V: greatest(), M: greatest()}}
	for f, top := range greatest() {
		half := top/2 + 1
		l = append(l,
			fieldMatch(f, 0, top), fieldMatch(f, top, top), fieldMatch(f, 5, top),
			fieldMatch(f, 0, half), fieldMatch(f, half, half),
			fieldMatch(f, 0, 1), fieldMatch(f, 1, 1), fieldMatch(f, 4, 6), fieldMatch(f, 8, 24))
	}
	for _, h := range rightHeads()[2:8] {
		l = append(l, fullMatch(h))
	}
	next := scatter(5)
	for range 30 {
		l = append(l, scatteredMatch(next))
	}
	return l
}

// wrongLists have too few or too many numbers in V, in M or in both.
func wrongLists() []impl.Match {
	var l []impl.Match
	for _, n := range []int{0, 1, 7, 8, 9, 15, 16, 256, 264} {
		for _, k := range []int{0, 1, 7, 8, 9, 15, 16, 256, 264} {
			if n != 8 || k != 8 {
				l = append(l, impl.Match{V: make([]int, n), M: make([]int, k)})
			}
		}
	}
	whole := greatest()
	longer := append(greatest(), 0)
	return append(l, impl.Match{}, impl.Match{V: whole}, impl.Match{M: whole}, impl.Match{V: whole[:7], M: whole[:7]},
		impl.Match{V: whole[:7], M: whole}, impl.Match{V: whole, M: whole[:7]}, impl.Match{V: longer, M: longer},
		impl.Match{V: longer, M: whole}, impl.Match{V: whole, M: longer})
}

// wrongNumbers have one wrong number, at each place of each of the two lists.
func wrongNumbers() []impl.Match {
	var l []impl.Match
	for f, top := range greatest() {
		for _, n := range edgesOf(f) {
			if n < 0 || n > top {
				l = append(l, fieldMatch(f, 0, n), fieldMatch(f, n, n), fieldMatch(f, n, top), fieldMatch(f, n, 0))
			}
		}
		l = append(l, fieldMatch(f, 1, 0), fieldMatch(f, top, 0), fieldMatch(f, top/2+1, top/2), fieldMatch(f, top, top-1), fieldMatch(f, 7, 5))
	}
	return append(l, impl.Match{V: []int{-1, -1, -1, -1, -1, -1, -1, -1}, M: []int{-1, -1, -1, -1, -1, -1, -1, -1}}, impl.Match{V: greatest(), M: make([]int, 8)})
}

func wrongMatches() []impl.Match { return append(wrongLists(), wrongNumbers()...) }

func someMatches() []impl.Match {
	right := rightMatches()
	return append(wrongMatches(), right[0], right[2], right[5], right[len(right)-1])
}

func checkMatchOk(t *testing.T, m impl.Match) {
	t.Helper()
	before := copyMatch(m)
	if got := impl.MatchOk(m); got != matchRight(m) {
		t.Errorf("%v is right: %v", m, got)
	}
	if !sameMatch(m, before) {
		t.Error("MatchOk changed its argument")
	}
}

func TestMatchOk(t *testing.T) {
	for _, m := range rightMatches() {
		checkMatchOk(t, m)
		if !impl.MatchOk(m) {
			t.Errorf("%v isn't right", m)
		}
	}
	for _, m := range wrongMatches() {
		checkMatchOk(t, m)
		if impl.MatchOk(m) {
			t.Errorf("%v is right", m)
		}
	}
}

func TestMatchOkEveryLength(t *testing.T) {
	for n := range 40 {
		for k := range 40 {
			if got := impl.MatchOk(impl.Match{V: make([]int, n), M: make([]int, k)}); got != (n == 8 && k == 8) {
				t.Errorf("%d and %d noughts: %v", n, k, got)
			}
		}
	}
	if impl.MatchOk(impl.Match{}) || impl.MatchOk(impl.Match{V: make([]int, 8)}) || impl.MatchOk(impl.Match{M: make([]int, 8)}) {
		t.Error("a match without V or without M is right")
	}
	// Spare room behind a list is none of its numbers.
	if impl.MatchOk(impl.Match{V: make([]int, 7, 8), M: make([]int, 8)}) || impl.MatchOk(impl.Match{V: make([]int, 8), M: make([]int, 7, 8)}) {
		t.Error("spare room is taken for a number")
	}
	if !impl.MatchOk(impl.Match{V: make([]int, 8, 20), M: make([]int, 8, 9)}) {
		t.Error("a match with spare room isn't right")
	}
}

func TestMatchOkEveryMask(t *testing.T) {
	for f, top := range greatest() {
		for _, c := range []struct {
			n  int
			ok bool
		}{{-1, false}, {0, true}, {1, true}, {top, true}, {top + 1, false}, {2*top + 1, false}, {math.MinInt, false}, {math.MaxInt, false}} {
			if impl.MatchOk(fieldMatch(f, 0, c.n)) != c.ok {
				t.Errorf("%d at place %d of M", c.n, f)
			}
			m := impl.Match{V: make([]int, 8), M: greatest()}
			m.M[f] = c.n
			if impl.MatchOk(m) != c.ok {
				t.Errorf("%d at place %d of a full M", c.n, f)
			}
		}
		for _, n := range edgesOf(f) {
			checkMatchOk(t, fieldMatch(f, 0, n))
		}
	}
}

func TestMatchOkEveryValue(t *testing.T) {
	for f, top := range greatest() {
		for _, mask := range []int{0, 1, 2, 6, top / 2, top/2 + 1, top - 1, top} {
			for _, v := range append(edgesOf(f), mask, mask+1, ^mask, top&^mask, 3, 4, 5, 6) {
				checkMatchOk(t, fieldMatch(f, v, mask))
			}
			if impl.MatchOk(fieldMatch(f, -1, mask)) || impl.MatchOk(fieldMatch(f, math.MinInt, mask)) || impl.MatchOk(fieldMatch(f, math.MinInt|mask, mask)) {
				t.Errorf("a number below 0 at place %d of V", f)
			}
		}
		for bit := range 64 {
			for other := range fieldSizes()[f] {
				if got := impl.MatchOk(fieldMatch(f, 1<<bit, 1<<other)); got != (bit == other) {
					t.Errorf("field %d: bit %d with the bit %d asked: %v", f, bit, other, got)
				}
			}
		}
	}
}

// A byte of M with every V: where V has no bit that M hasn't, and nowhere else.
func TestMatchOkEveryByte(t *testing.T) {
	for mask := range 256 {
		for v := -300; v < 600; v++ {
			want := v >= 0
			for bit := range 10 {
				want = want && (v>>bit%2 == 0 || mask>>bit%2 == 1)
			}
			if impl.MatchOk(fieldMatch(0, v, mask)) != want || impl.MatchOk(fieldMatch(7, v, mask)) != want || impl.MatchOk(fieldMatch(2, v, mask)) != want {
				t.Fatalf("V %d with M %d", v, mask)
			}
		}
	}
}

func TestMatchAll(t *testing.T) {
	m := impl.MatchAll()
	if !sameMatch(m, openMatch()) || !impl.MatchOk(m) {
		t.Errorf("%v", m)
	}
	for _, h := range rightHeads() {
		if !impl.Hits(m, h) {
			t.Errorf("%v isn't hit", h.V)
		}
	}
	for _, h := range wrongHeads() {
		if impl.Hits(m, h) {
			t.Errorf("%d numbers that are no head are hit", len(h.V))
		}
	}
	checkParts(t, m)
	checkSeparate(t, func() impl.Match { return impl.MatchAll() })
}

// checkParts asks that V and M of an answer share no memory, spare room counted in.
func checkParts(t *testing.T, m impl.Match) {
	t.Helper()
	v, mask := m.V[:cap(m.V)], m.M[:cap(m.M)]
	before := slices.Clone(mask)
	old := slices.Clone(v)
	for i := range v {
		v[i] = ^v[i]
	}
	if !slices.Equal(mask, before) {
		t.Error("V and M of an answer share memory")
	}
	copy(v, old)
}

// checkSeparate asks that two answers of one call share no memory.
func checkSeparate(t *testing.T, call func() impl.Match) {
	t.Helper()
	one, two := call(), call()
	want := copyMatch(two)
	v, mask := one.V[:cap(one.V)], one.M[:cap(one.M)]
	for i := range v {
		v[i] = 99
	}
	for i := range mask {
		mask[i] = 98
	}
	if !sameMatch(two, want) || !sameMatch(call(), want) {
		t.Error("two answers share memory")
	}
}

func TestMatchOf(t *testing.T) {
	for _, h := range rightHeads() {
		before := copyHead(h)
		m := impl.MatchOf(h)
		if !sameMatch(m, fullMatch(h)) || !impl.MatchOk(m) {
			t.Errorf("%v: %v", h.V, m)
		}
		if !sameHead(h, before) {
			t.Error("MatchOf changed its argument")
		}
		checkParts(t, m)
	}
	for _, h := range wrongHeads() {
		before := copyHead(h)
		if m := impl.MatchOf(h); !noMatch(m) {
			t.Errorf("%v, which is no head: %v", h.V[:min(len(h.V), 10)], m)
		}
		if !sameHead(h, before) {
			t.Error("MatchOf changed its argument")
		}
	}
	if !noMatch(impl.MatchOf(impl.Head{})) || !noMatch(impl.MatchOf(impl.Head{V: []int{}})) || !noMatch(impl.MatchOf(impl.Head{V: make([]int, 7, 8)})) {
		t.Error("a head without numbers has a match")
	}
}

func TestMatchOfByHand(t *testing.T) {
	m := impl.MatchOf(impl.SmallHead(1, 2, 3))
	if !slices.Equal(m.V, []int{1, 2, 3, 2048, 0, 0, 0, 0}) {
		t.Errorf("V is %v", m.V)
	}
	if !slices.Equal(m.M, []int{255, 281474976710655, 281474976710655, 65535, 65535, 4294967295, 4294967295, 255}) {
		t.Errorf("M is %v", m.M)
	}
}

func TestMatchOfNewMemory(t *testing.T) {
	whole := []int{1, 2, 3, 4, 5, 6, 7, 8, 50, 51}
	before := slices.Clone(whole)
	h := impl.Head{V: whole[:8]}
	want := fullMatch(h)
	m := impl.MatchOf(h)
	for f := range m.V {
		m.V[f], m.M[f] = 99, 98
	}
	m.V = append(m.V, 97)
	if !slices.Equal(whole, before) {
		t.Error("an answer shares memory with the argument")
	}
	m = impl.MatchOf(h)
	for i := range whole {
		whole[i] = 96
	}
	if !sameMatch(m, want) {
		t.Error("an answer hangs on the argument's memory")
	}
	checkSeparate(t, func() impl.Match { return impl.MatchOf(impl.Head{V: []int{1, 2, 3, 4, 5, 6, 7, 8}}) })
}

// Only its own head is hit by the match of a head: with any one bit turned it isn't.
func TestMatchOfHitsOneHead(t *testing.T) {
	for _, h := range rightHeads()[:4] {
		m := impl.MatchOf(h)
		if !impl.Hits(m, h) {
			t.Errorf("%v isn't hit by its own match", h.V)
		}
		for f, size := range fieldSizes() {
			for bit := range size {
				turned := copyHead(h)
				turned.V[f] ^= 1 << bit
				if impl.Hits(m, turned) {
					t.Errorf("field %d with bit %d turned is hit", f, bit)
				}
			}
		}
	}
}

// bitsSpelled is MatchBits by the document's words, by dividing.
func bitsSpelled(f int, v int, n int) (impl.Match, bool) {
	if f < 0 || f > 7 || n < 0 || n > fieldSizes()[f] || v < 0 || v > greatest()[f] {
		return impl.Match{}, false
	}
	below := 1
	for range fieldSizes()[f] - n {
		below *= 2
	}
	return fieldMatch(f, v/below*below, greatest()[f]/below*below), true
}

func checkMatchBits(t *testing.T, f int, v int, n int) {
	t.Helper()
	got, ok := impl.MatchBits(f, v, n)
	want, wantOk := bitsSpelled(f, v, n)
	if ok != wantOk || !sameMatch(got, want) {
		t.Errorf("the %d highest bits of %d in field %d: %v %v, not %v %v", n, v, f, got, ok, want, wantOk)
	}
	if ok && (!impl.MatchOk(got) || impl.Asked(got) != n) {
		t.Errorf("the %d highest bits of %d in field %d: %v", n, v, f, got)
	}
}

func TestMatchBits(t *testing.T) {
	for f, size := range fieldSizes() {
		for n := -3; n < 70; n++ {
			for _, v := range append(edgesOf(f), 5, 6, 0x55, greatest()[f]/3) {
				checkMatchBits(t, f, v, n)
			}
		}
		for _, n := range append(farNums(), 256+size, 1<<32+size, math.MinInt+size) {
			for _, v := range []int{-1, 0, 1, greatest()[f], greatest()[f] + 1} {
				checkMatchBits(t, f, v, n)
				if m, ok := impl.MatchBits(f, v, n); ok || !noMatch(m) {
					t.Errorf("%d bits of field %d: %v", n, f, m)
				}
			}
		}
	}
}

func TestMatchBitsEdges(t *testing.T) {
	for f, size := range fieldSizes() {
		top := greatest()[f]
		half := top/2 + 1
		for _, c := range []struct {
			v, n, value, mask int
			ok                bool
		}{
			{0, -1, 0, 0, false},
			{0, 0, 0, 0, true},
			{top, 0, 0, 0, true},
			{0, 1, 0, half, true},
			{top, 1, half, half, true},
			{half - 1, 1, 0, half, true},
			{half + 1, 1, half, half, true},
			{top, size - 1, top - 1, top - 1, true},
			{1, size - 1, 0, top - 1, true},
			{0, size, 0, top, true},
			{top, size, top, top, true},
			{5, size, 5, top, true},
			{0, size + 1, 0, 0, false},
			{-1, size, 0, 0, false},
			{-1, 0, 0, 0, false},
			{top + 1, size, 0, 0, false},
			{top + 1, 0, 0, 0, false},
		} {
			m, ok := impl.MatchBits(f, c.v, c.n)
			if ok != c.ok || c.ok && !sameMatch(m, fieldMatch(f, c.value, c.mask)) || !c.ok && !noMatch(m) {
				t.Errorf("the %d highest bits of %d in field %d: %v %v", c.n, c.v, f, m, ok)
			}
		}
	}
}

func TestMatchBitsByHand(t *testing.T) {
	m, ok := impl.MatchBits(impl.FieldIpDst, 0x0a0b0c0d, 16)
	if !ok || !slices.Equal(m.V, []int{0, 0, 0, 0, 0, 0, 0x0a0b0000, 0}) || !slices.Equal(m.M, []int{0, 0, 0, 0, 0, 0, 0xffff0000, 0}) {
		t.Errorf("two bytes of an end: %v %v", m, ok)
	}
	m, ok = impl.MatchBits(impl.FieldSrc, 0xa1b2c3d4e5f6, 24)
	if !ok || !sameMatch(m, fieldMatch(1, 0xa1b2c3000000, 0xffffff000000)) {
		t.Errorf("three bytes of a source: %v %v", m, ok)
	}
}

func TestMatchBitsNoField(t *testing.T) {
	for _, f := range noFields() {
		for _, v := range []int{-1, 0, 1, 255, impl.MaxNum} {
			for _, n := range []int{-1, 0, 1, 8, 48} {
				if m, ok := impl.MatchBits(f, v, n); ok || !noMatch(m) {
					t.Errorf("%d bits of %d in %d, which is no field: %v", n, v, f, m)
				}
			}
		}
	}
}

func TestMatchBitsNewMemory(t *testing.T) {
	for f := range 8 {
		m, _ := impl.MatchBits(f, 200, 3)
		checkParts(t, m)
		checkSeparate(t, func() impl.Match {
			m, _ := impl.MatchBits(f, 200, 3)
			return m
		})
	}
}

// What MatchBits asks: the heads with these high bits are hit, whatever is below.
func TestMatchBitsHits(t *testing.T) {
	for v := range 256 {
		for n := range 9 {
			m, ok := impl.MatchBits(impl.FieldProto, v, n)
			for x := range 256 {
				h := impl.Head{V: []int{1, 2, 3, 4, 5, 6, 7, x}}
				if !ok || impl.Hits(m, h) != (x>>(8-n) == v>>(8-n)) {
					t.Fatalf("%d bits of %d and the number %d", n, v, x)
				}
			}
		}
	}
}

func checkHits(t *testing.T, m impl.Match, h impl.Head) {
	t.Helper()
	beforeMatch, beforeHead := copyMatch(m), copyHead(h)
	if got := impl.Hits(m, h); got != hitsSpelled(m, h) {
		t.Errorf("%v hits %v: %v", m, h.V[:min(len(h.V), 10)], got)
	}
	if !sameMatch(m, beforeMatch) || !sameHead(h, beforeHead) {
		t.Error("Hits changed an argument")
	}
}

func TestHits(t *testing.T) {
	heads := rightHeads()
	next := scatter(7)
	for range 40 {
		heads = append(heads, scatteredHead(next))
	}
	for _, m := range rightMatches() {
		for _, h := range heads {
			checkHits(t, m, h)
		}
		// The head with just the values is hit by every match.
		if !impl.Hits(m, impl.Head{V: m.V}) {
			t.Errorf("%v doesn't hit its own values", m)
		}
	}
}

func TestHitsOneBit(t *testing.T) {
	next := scatter(11)
	for range 40 {
		m := scatteredMatch(next)
		h := scatteredHead(next)
		for f := range h.V {
			h.V[f] = h.V[f]&^m.M[f] | m.V[f]
		}
		if !impl.Hits(m, h) {
			t.Fatalf("%v doesn't hit %v", m, h.V)
		}
		for f, size := range fieldSizes() {
			for bit := range size {
				turned := copyHead(h)
				turned.V[f] ^= 1 << bit
				if impl.Hits(m, turned) != (m.M[f]>>bit%2 == 0) {
					t.Errorf("field %d with bit %d turned, M %d", f, bit, m.M[f])
				}
			}
		}
	}
}

func TestHitsOutsideTheMask(t *testing.T) {
	for f, top := range greatest() {
		m := fieldMatch(f, 2, 6)
		for _, n := range []int{2, 3, 10, 11, top - 4, top - 5} {
			h := impl.Head{V: []int{3, 4, 5, 2048, 6, 7, 8, 9}}
			h.V[f] = n
			if !impl.Hits(m, h) {
				t.Errorf("%d in field %d isn't hit", n, f)
			}
		}
		for _, n := range []int{0, 1, 4, 5, 6, 7, 14, top, top - 1} {
			h := impl.Head{V: []int{3, 4, 5, 2048, 6, 7, 8, 9}}
			h.V[f] = n
			if impl.Hits(m, h) {
				t.Errorf("%d in field %d is hit", n, f)
			}
		}
	}
}

func TestHitsRefuses(t *testing.T) {
	for _, m := range wrongMatches() {
		for _, h := range append(rightHeads()[:6], impl.Head{}, impl.Head{V: m.V}, impl.Head{V: make([]int, 7)}) {
			checkHits(t, m, h)
			if impl.Hits(m, h) {
				t.Errorf("%v, which isn't right, hits %v", m, h.V)
			}
		}
	}
	for _, h := range wrongHeads() {
		for _, m := range append(rightMatches()[:8], impl.Match{}, impl.Match{V: h.V, M: greatest()}, impl.Match{V: h.V, M: h.V}) {
			checkHits(t, m, h)
			if impl.Hits(m, h) {
				t.Errorf("a head that isn't right is hit by %v", m)
			}
		}
	}
	if impl.Hits(impl.Match{}, impl.Head{}) {
		t.Error("nothing hits nothing")
	}
}

func checkCovers(t *testing.T, a impl.Match, b impl.Match) {
	t.Helper()
	beforeA, beforeB := copyMatch(a), copyMatch(b)
	if got := impl.Covers(a, b); got != coversSpelled(a, b) {
		t.Errorf("%v covers %v: %v", a, b, got)
	}
	if !sameMatch(a, beforeA) || !sameMatch(b, beforeB) {
		t.Error("Covers changed an argument")
	}
}

func TestCovers(t *testing.T) {
	for _, a := range rightMatches() {
		if !impl.Covers(a, a) || !impl.Covers(a, copyMatch(a)) || !impl.Covers(impl.MatchAll(), a) {
			t.Errorf("%v isn't covered by itself or by the open one", a)
		}
		if impl.Covers(a, impl.MatchAll()) != (impl.Asked(a) == 0) {
			t.Errorf("%v covers the open one", a)
		}
		for _, b := range rightMatches() {
			checkCovers(t, a, b)
		}
	}
}

func TestCoversByHand(t *testing.T) {
	for f := range 8 {
		wide := fieldMatch(f, 4, 12)
		for _, c := range []struct {
			what                string
			v, mask             int
			covers, isCoveredBy bool
		}{
			{"itself", 4, 12, true, true},
			{"a narrower one", 4, 14, true, false},
			{"a narrower one with a bit set", 6, 14, true, false},
			{"a wider one", 4, 4, false, true},
			{"an open one", 0, 0, false, true},
			{"the same bits otherwise", 8, 12, false, false},
			{"one bit otherwise", 12, 12, false, false},
			{"other bits", 1, 3, false, false},
			{"some of its bits and others", 4, 5, false, false},
			{"narrower but otherwise", 2, 14, false, false},
		} {
			other := fieldMatch(f, c.v, c.mask)
			if impl.Covers(wide, other) != c.covers || impl.Covers(other, wide) != c.isCoveredBy {
				t.Errorf("field %d: %s", f, c.what)
			}
		}
		other := fieldMatch((f+1)%8, 4, 12)
		if impl.Covers(wide, other) || impl.Covers(other, wide) {
			t.Errorf("fields %d and %d cover one another", f, (f+1)%8)
		}
		both := fieldMatch(f, 4, 12)
		both.V[(f+1)%8], both.M[(f+1)%8] = 4, 12
		if !impl.Covers(wide, both) || !impl.Covers(other, both) || impl.Covers(both, wide) || impl.Covers(both, other) {
			t.Errorf("fields %d and %d asked together", f, (f+1)%8)
		}
	}
}

func TestCoversChains(t *testing.T) {
	for f, size := range fieldSizes() {
		for n := range size + 1 {
			for k := range size + 1 {
				a, _ := impl.MatchBits(f, greatest()[f]/3, n)
				b, _ := impl.MatchBits(f, greatest()[f]/3, k)
				if impl.Covers(a, b) != (n <= k) {
					t.Errorf("field %d: %d bits cover %d: %v", f, n, k, impl.Covers(a, b))
				}
			}
		}
	}
}

// Each pair with one that isn't right: nothing is covered, met or the same.
func TestTwoMatchesRefuse(t *testing.T) {
	for _, a := range wrongMatches() {
		for _, b := range append(someMatches(), a, copyMatch(a)) {
			for _, c := range [][2]impl.Match{{a, b}, {b, a}} {
				beforeA, beforeB := copyMatch(c[0]), copyMatch(c[1])
				m, ok := impl.MeetOf(c[0], c[1])
				if ok || !noMatch(m) || impl.Covers(c[0], c[1]) || impl.Meets(c[0], c[1]) || impl.SameMatch(c[0], c[1]) {
					t.Errorf("%v and %v, which aren't both right", c[0], c[1])
				}
				if !sameMatch(c[0], beforeA) || !sameMatch(c[1], beforeB) {
					t.Fatal("an argument is changed")
				}
			}
		}
	}
}

func checkMeet(t *testing.T, a impl.Match, b impl.Match) {
	t.Helper()
	beforeA, beforeB := copyMatch(a), copyMatch(b)
	want, wantOk := meetSpelled(a, b)
	got, ok := impl.MeetOf(a, b)
	if ok != wantOk || !sameMatch(got, want) {
		t.Errorf("%v and %v: %v %v, not %v %v", a, b, got, ok, want, wantOk)
	}
	if meets := impl.Meets(a, b); meets != wantOk {
		t.Errorf("%v meets %v: %v", a, b, meets)
	}
	if !sameMatch(a, beforeA) || !sameMatch(b, beforeB) {
		t.Error("MeetOf or Meets changed an argument")
	}
}

func TestMeet(t *testing.T) {
	for _, a := range rightMatches() {
		if m, ok := impl.MeetOf(a, a); !ok || !sameMatch(m, a) {
			t.Errorf("%v with itself: %v", a, m)
		}
		if m, ok := impl.MeetOf(a, impl.MatchAll()); !ok || !sameMatch(m, a) {
			t.Errorf("%v with the open one: %v", a, m)
		}
		for _, b := range rightMatches() {
			checkMeet(t, a, b)
		}
	}
}

func TestMeetByHand(t *testing.T) {
	for f, top := range greatest() {
		for _, c := range []struct {
			what              string
			v, mask, w, other int
			value, together   int
			meets             bool
		}{
			{"the same bits alike", 4, 12, 4, 12, 4, 12, true},
			{"the same bits otherwise", 4, 12, 8, 12, 0, 0, false},
			{"the same bits, one otherwise", 4, 12, 12, 12, 0, 0, false},
			{"different bits", 4, 12, 1, 3, 5, 15, true},
			{"different bits of 0", 0, 12, 0, 3, 0, 15, true},
			{"some bits alike", 4, 12, 5, 5, 5, 13, true},
			{"some bits otherwise", 4, 12, 9, 9, 0, 0, false},
			{"set here, 0 there", 4, 4, 0, 4, 0, 0, false},
			{"set here, not asked there", 4, 4, 0, 8, 4, 12, true},
			{"all and none", top, top, 0, 0, top, top, true},
			{"all and all otherwise", top, top, 0, top, 0, 0, false},
			{"one with all", 5, top, 5, top, 5, top, true},
		} {
			a, b := fieldMatch(f, c.v, c.mask), fieldMatch(f, c.w, c.other)
			for _, p := range [][2]impl.Match{{a, b}, {b, a}} {
				m, ok := impl.MeetOf(p[0], p[1])
				if ok != c.meets || impl.Meets(p[0], p[1]) != c.meets || ok && !sameMatch(m, fieldMatch(f, c.value, c.together)) || !ok && !noMatch(m) {
					t.Errorf("field %d: %s: %v %v", f, c.what, m, ok)
				}
			}
		}
	}
}

func TestMeetTwoFields(t *testing.T) {
	for f := range 8 {
		for g := range 8 {
			if f == g {
				continue
			}
			a, b := fieldMatch(f, 5, 7), fieldMatch(g, 3, 15)
			m, ok := impl.MeetOf(a, b)
			want := fieldMatch(f, 5, 7)
			want.V[g], want.M[g] = 3, 15
			if !ok || !impl.Meets(a, b) || !sameMatch(m, want) {
				t.Errorf("fields %d and %d: %v %v", f, g, m, ok)
			}
			// What fits in one field doesn't heal what doesn't in another.
			other := fieldMatch(f, 4, 7)
			if n, ok := impl.MeetOf(want, other); ok || !noMatch(n) || impl.Meets(want, other) {
				t.Errorf("fields %d and %d: %v", f, g, n)
			}
		}
	}
}

func TestMeetNewMemory(t *testing.T) {
	whole := []int{1, 2, 3, 4, 5, 6, 7, 8, 50, 51, 255, 255, 255, 255, 255, 255, 255, 255, 60, 61}
	before := slices.Clone(whole)
	a := impl.Match{V: whole[:8], M: whole[10:18]}
	b := impl.Match{V: whole[:8], M: whole[10:18]}
	for _, other := range []impl.Match{b, impl.MatchAll(), a} {
		m, ok := impl.MeetOf(a, other)
		want := copyMatch(a)
		if !ok || !sameMatch(m, want) {
			t.Fatalf("%v %v", m, ok)
		}
		checkParts(t, m)
		for i := range whole {
			whole[i] = 97
		}
		if !sameMatch(m, want) {
			t.Error("an answer hangs on an argument's memory")
		}
		copy(whole, before)
		for f := range m.V {
			m.V[f], m.M[f] = 99, 98
		}
		m.V, m.M = append(m.V, 96), append(m.M, 95)
		if !slices.Equal(whole, before) {
			t.Error("an answer shares memory with an argument")
		}
	}
	checkSeparate(t, func() impl.Match {
		m, _ := impl.MeetOf(a, impl.MatchAll())
		return m
	})
}

// V and M of a match that is handed in may be one list.
func TestMatchOfOneList(t *testing.T) {
	list := []int{1, 2, 3, 4, 5, 6, 7, 8}
	m := impl.Match{V: list, M: list}
	got, ok := impl.MeetOf(m, m)
	if !impl.MatchOk(m) || !impl.SameMatch(m, m) || !impl.Covers(m, m) || !ok || !sameMatch(got, m) {
		t.Errorf("%v: %v %v", m, got, ok)
	}
	checkParts(t, got)
	if impl.Asked(m) != 1+1+2+1+2+2+3+1 || !slices.Equal(list, []int{1, 2, 3, 4, 5, 6, 7, 8}) {
		t.Errorf("%d bits, %v", impl.Asked(m), list)
	}
}

func TestAsked(t *testing.T) {
	for _, m := range append(rightMatches(), wrongMatches()...) {
		before := copyMatch(m)
		if got := impl.Asked(m); got != askedSpelled(m) {
			t.Errorf("%v asks %d bits, not %d", m, got, askedSpelled(m))
		}
		if !sameMatch(m, before) {
			t.Error("Asked changed its argument")
		}
	}
	if impl.Asked(impl.MatchAll()) != 0 {
		t.Error("the open match asks")
	}
	for _, h := range rightHeads() {
		if got := impl.Asked(impl.MatchOf(h)); got != 208 {
			t.Errorf("the match of %v asks %d bits", h.V, got)
		}
	}
	for f, size := range fieldSizes() {
		for n := range size + 1 {
			for _, v := range []int{0, 5, greatest()[f]} {
				if m, _ := impl.MatchBits(f, v, n); impl.Asked(m) != n {
					t.Errorf("%d bits of field %d: %d", n, f, impl.Asked(m))
				}
			}
		}
		for bit := range size {
			if impl.Asked(fieldMatch(f, 0, 1<<bit)) != 1 {
				t.Errorf("bit %d of field %d", bit, f)
			}
		}
	}
}

func TestAskedRefuses(t *testing.T) {
	for _, m := range append(wrongMatches(), impl.Match{}, impl.MatchOf(impl.Head{})) {
		if got := impl.Asked(m); got != -1 {
			t.Errorf("%v, which isn't right, asks %d", m, got)
		}
	}
}

func TestSameMatch(t *testing.T) {
	l := rightMatches()
	for i, a := range l {
		if !impl.SameMatch(a, a) || !impl.SameMatch(a, copyMatch(a)) {
			t.Errorf("%v isn't itself", a)
		}
		for j, b := range l {
			beforeA, beforeB := copyMatch(a), copyMatch(b)
			if got := impl.SameMatch(a, b); got != sameMatch(a, b) {
				t.Errorf("%d and %d, %v and %v: %v", i, j, a, b, got)
			}
			if !sameMatch(a, beforeA) || !sameMatch(b, beforeB) {
				t.Error("SameMatch changed an argument")
			}
		}
	}
	roomy := impl.Match{V: make([]int, 8, 30), M: make([]int, 8, 9)}
	if !impl.SameMatch(roomy, impl.MatchAll()) {
		t.Error("spare room makes a difference")
	}
}

func TestSameMatchOnePlace(t *testing.T) {
	for f, size := range fieldSizes() {
		for bit := range size {
			a := impl.Match{V: make([]int, 8), M: greatest()}
			inV, inM := copyMatch(a), copyMatch(a)
			inV.V[f] ^= 1 << bit
			inM.M[f] ^= 1 << bit
			if impl.SameMatch(a, inV) || impl.SameMatch(inV, a) || impl.SameMatch(a, inM) || impl.SameMatch(inM, a) || impl.SameMatch(inV, inM) {
				t.Errorf("field %d, bit %d makes no difference", f, bit)
			}
			if !impl.SameMatch(inV, copyMatch(inV)) || !impl.SameMatch(inM, copyMatch(inM)) {
				t.Errorf("field %d, bit %d: a copy isn't the same", f, bit)
			}
		}
	}
}

func TestSameMatchAlikeButWrong(t *testing.T) {
	for _, m := range wrongMatches() {
		if impl.SameMatch(m, m) || impl.SameMatch(m, copyMatch(m)) || impl.SameMatch(m, impl.MatchAll()) || impl.SameMatch(impl.MatchAll(), m) {
			t.Errorf("%v, which isn't right, is the same", m)
		}
	}
	if impl.SameMatch(impl.Match{}, impl.Match{}) {
		t.Error("nothing is the same as nothing")
	}
}

// place is one bit of a field.
type place struct{ field, bit int }

// bitGroups are four bits each, of one field and of several, at both ends of them.
func bitGroups() [][]place {
	return [][]place{
		{{0, 0}, {0, 1}, {0, 6}, {0, 7}},
		{{1, 0}, {1, 31}, {1, 32}, {1, 47}},
		{{2, 47}, {2, 46}, {3, 15}, {3, 0}},
		{{4, 15}, {5, 31}, {6, 31}, {7, 7}},
		{{4, 0}, {5, 0}, {6, 0}, {7, 0}},
		{{0, 3}, {2, 40}, {5, 16}, {7, 5}},
	}
}

// matchesOn are the 81 matches that ask of these four bits, and of no other.
func matchesOn(l []place) []impl.Match {
	var out []impl.Match
	for n := range 81 {
		m := openMatch()
		for _, p := range l {
			if n%3 > 0 {
				m.M[p.field] |= 1 << p.bit
				m.V[p.field] |= n % 3 / 2 << p.bit
			}
			n /= 3
		}
		out = append(out, m)
	}
	return out
}

// headsOn are heads with each setting of these four bits, over the other bits of base.
func headsOn(l []place, base impl.Head) []impl.Head {
	var out []impl.Head
	for n := range 16 {
		h := copyHead(base)
		for i, p := range l {
			h.V[p.field] = h.V[p.field]&^(1<<p.bit) | n>>i%2<<p.bit
		}
		out = append(out, h)
	}
	return out
}

// hitSet has a bit for each of the heads that m hits.
func hitSet(m impl.Match, heads []impl.Head) int {
	set := 0
	for i, h := range heads {
		if impl.Hits(m, h) {
			set |= 1 << i
		}
	}
	return set
}

// Over four bits all heads can be tried, so that covering and meeting are held
// against what the document says they are, head by head.
func TestMatchesOverAllHeads(t *testing.T) {
	next := scatter(13)
	bases := []impl.Head{{V: make([]int, 8)}, {V: greatest()}, scatteredHead(next)}
	for _, group := range bitGroups() {
		matches := matchesOn(group)
		for _, base := range bases {
			heads := headsOn(group, base)
			sets := make([]int, len(matches))
			for i, m := range matches {
				sets[i] = hitSet(m, heads)
				if sets[i] == 0 {
					t.Errorf("%v hits nothing", m)
				}
			}
			for i, a := range matches {
				for j, b := range matches {
					if impl.Covers(a, b) != (sets[j]&^sets[i] == 0) {
						t.Errorf("%v covers %v, with the heads %b and %b", a, b, sets[i], sets[j])
					}
					m, ok := impl.MeetOf(a, b)
					if ok != (sets[i]&sets[j] != 0) || impl.Meets(a, b) != ok {
						t.Errorf("%v meets %v, with the heads %b and %b", a, b, sets[i], sets[j])
					}
					if ok && hitSet(m, heads) != sets[i]&sets[j] {
						t.Errorf("%v and %v: %v hits others", a, b, m)
					}
					if impl.SameMatch(a, b) != (sets[i] == sets[j]) {
						t.Errorf("%v and %v, with the heads %b and %b", a, b, sets[i], sets[j])
					}
				}
			}
		}
	}
}

// headsNear are heads that each of the two matches hits, with other bits below, and such with one asked bit turned.
func headsNear(a impl.Match, b impl.Match, next func() int) []impl.Head {
	var out []impl.Head
	for range 3 {
		base := scatteredHead(next)
		inA, inBoth := copyHead(base), copyHead(base)
		for f := range base.V {
			inA.V[f] = base.V[f]&^a.M[f] | a.V[f]
			inBoth.V[f] = inA.V[f]&^b.M[f] | b.V[f]
		}
		turned := copyHead(inBoth)
		f := next() % 8
		turned.V[f] ^= 1 << (next() % fieldSizes()[f])
		out = append(out, base, inA, inBoth, turned)
	}
	return append(out, impl.Head{V: a.V}, impl.Head{V: b.V})
}

// checkTogether asks of one head what covering and meeting promise.
func checkTogether(t *testing.T, a impl.Match, b impl.Match, h impl.Head) {
	t.Helper()
	checkHits(t, a, h)
	hitA, hitB := impl.Hits(a, h), impl.Hits(b, h)
	if impl.Covers(a, b) && hitB && !hitA {
		t.Errorf("%v covers %v, which alone hits %v", a, b, h.V)
	}
	m, ok := impl.MeetOf(a, b)
	if ok != impl.Meets(a, b) || ok && impl.Hits(m, h) != (hitA && hitB) {
		t.Errorf("%v and %v meet in %v, and there is %v", a, b, m, h.V)
	}
	if !ok && hitA && hitB {
		t.Errorf("%v and %v don't meet, and both hit %v", a, b, h.V)
	}
}

func TestMatchesTogether(t *testing.T) {
	next := scatter(17)
	covered, met, apart := 0, 0, 0
	l := rightMatches()
	for _, a := range l {
		for _, b := range l {
			for _, h := range headsNear(a, b, next) {
				checkTogether(t, a, b, h)
			}
			switch {
			case impl.Covers(a, b):
				covered++
			case impl.Meets(a, b):
				met++
			default:
				apart++
			}
		}
	}
	if covered < 100 || met < 100 || apart < 100 {
		t.Errorf("%d covered, %d met, %d apart: too few of one kind are tried", covered, met, apart)
	}
}

// Covering, meeting, counting and sameness, held against one another without heads.
func TestMatchLaws(t *testing.T) {
	l := rightMatches()
	for _, a := range l {
		for _, b := range l {
			m, ok := impl.MeetOf(a, b)
			n, also := impl.MeetOf(b, a)
			if ok != also || ok && !impl.SameMatch(m, n) || impl.Meets(a, b) != impl.Meets(b, a) {
				t.Errorf("%v and %v meet otherwise the other way round", a, b)
			}
			if ok && (!impl.MatchOk(m) || !impl.Covers(a, m) || !impl.Covers(b, m)) {
				t.Errorf("%v and %v meet in %v, which they don't cover", a, b, m)
			}
			if impl.Covers(a, b) != (ok && impl.SameMatch(m, b)) {
				t.Errorf("%v covers %v, and they meet in %v", a, b, m)
			}
			if impl.SameMatch(a, b) != (impl.Covers(a, b) && impl.Covers(b, a)) {
				t.Errorf("%v and %v cover one another and aren't the same, or the other way round", a, b)
			}
			if impl.Covers(a, b) && !impl.SameMatch(a, b) && impl.Asked(a) >= impl.Asked(b) {
				t.Errorf("%v covers %v and asks no less", a, b)
			}
		}
	}
}

func TestCoversGoesOn(t *testing.T) {
	l := matchesOn(bitGroups()[5])
	for _, a := range l {
		for _, b := range l {
			if !impl.Covers(a, b) {
				continue
			}
			for _, c := range l {
				if impl.Covers(b, c) && !impl.Covers(a, c) {
					t.Fatalf("%v covers %v, that %v", a, b, c)
				}
				if impl.Meets(b, c) && !impl.Meets(a, c) {
					t.Fatalf("%v covers %v, that meets %v", a, b, c)
				}
			}
		}
	}
}

// What a switch looks at of a real packet, asked by high bits as in a table of routes.
func TestMatchesOfPackets(t *testing.T) {
	for _, d := range headDatagrams() {
		h := checkHeadOf(t, impl.Packet{Dst: 3, Src: 4, Tag: 5, Type: impl.IpType, Body: ipSpelled(d)}, 6)
		for n := range 33 {
			m, ok := impl.MatchBits(impl.FieldIpDst, d.Dst, n)
			far, _ := impl.MatchBits(impl.FieldIpDst, d.Dst^1<<31, n)
			if !ok || !impl.Hits(m, h) || !impl.Covers(m, impl.MatchOf(h)) || impl.Hits(far, h) != (n == 0) || impl.Meets(m, far) != (n == 0) {
				t.Errorf("%d bits of %d", n, d.Dst)
			}
		}
		kind, _ := impl.MatchBits(impl.FieldType, impl.IpType, 16)
		tag, _ := impl.MatchBits(impl.FieldTag, 0, 16)
		if !impl.Hits(kind, h) || impl.Hits(tag, h) {
			t.Errorf("%v", h.V)
		}
	}
}
