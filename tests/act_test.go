package tests

import (
	"math"
	"slices"
	"testing"

	"loop.example/g00391/impl"
)

func outTo(port int) impl.Act               { return impl.Act{Kind: 1, A: port} }
func flood() impl.Act                       { return impl.Act{Kind: 2} }
func setTo(field int, n int) impl.Act       { return impl.Act{Kind: 3, A: field, B: n} }
func note() impl.Act                        { return impl.Act{Kind: 4} }
func hand() impl.Act                        { return impl.Act{Kind: 5} }
func sentTo(n int, v ...int) impl.Sent      { return impl.Sent{Port: n, Head: impl.Head{V: v}} }
func acts(l ...impl.Act) []impl.Act         { return l }
func headFrom(in int) impl.Head             { return impl.Head{V: []int{in, 2, 3, 2048, 5, 6, 7, 8}} }
func sameSent(a, b []impl.Sent) bool        { return slices.EqualFunc(a, b, sameOneSent) }
func sameOneSent(a, b impl.Sent) bool       { return a.Port == b.Port && sameHead(a.Head, b.Head) }
func repeated(a impl.Act, n int) []impl.Act { return slices.Repeat([]impl.Act{a}, n) }

func copySent(l []impl.Sent) []impl.Sent {
	out := make([]impl.Sent, len(l))
	for i, s := range l {
		out[i] = impl.Sent{Port: s.Port, Head: copyHead(s.Head)}
	}
	return out
}

// actRight is the document's words on one action.
func actRight(a impl.Act) bool {
	switch a.Kind {
	case 1:
		return a.A >= 1 && a.A <= 255 && a.B == 0
	case 3:
		return (a.A == 1 || a.A == 2) && a.B >= 0 && a.B <= 281474976710655
	}
	return (a.Kind == 2 || a.Kind == 4 || a.Kind == 5) && a.A == 0 && a.B == 0
}

func actsRight(l []impl.Act) bool {
	for _, a := range l {
		if !actRight(a) {
			return false
		}
	}
	return len(l) <= 12
}

func portsRight(l []int) bool {
	for i, n := range l {
		if n < 1 || n > 255 || i > 0 && n <= l[i-1] {
			return false
		}
	}
	return len(l) <= 8
}

// headBehind is h as it is behind the actions: the last that is put into a field stands there.
func headBehind(h impl.Head, done []impl.Act) impl.Head {
	out := copyHead(h)
	for f := range 8 {
		for i := len(done) - 1; i >= 0; i-- {
			if done[i].Kind == 3 && done[i].A == f {
				out.V[f] = done[i].B
				break
			}
		}
	}
	return out
}

// performSpelled is Perform by the document's words: for each action and each port, is it sent to?
func performSpelled(h impl.Head, ports []int, l []impl.Act) ([]impl.Sent, bool) {
	if !headRight(h) || !portsRight(ports) || !actsRight(l) {
		return nil, false
	}
	var out []impl.Sent
	for i, a := range l {
		for _, port := range ports {
			if port != h.V[0] && (a.Kind == 2 || a.Kind == 1 && a.A == port) {
				out = append(out, impl.Sent{Port: port, Head: headBehind(h, l[:i])})
			}
		}
	}
	return out, true
}

// portsSpelled has each port that something is sent to, by trying all of them from the least on.
func portsSpelled(sent []impl.Sent) []int {
	var out []int
	for port := 1; port <= 255; port++ {
		if slices.ContainsFunc(sent, func(s impl.Sent) bool { return s.Port == port }) {
			out = append(out, port)
		}
	}
	return out
}

// rightActs: none and MaxActs of them, each kind at its edges, alone and among others.
func rightActs() [][]impl.Act {
	l := [][]impl.Act{nil, {}, repeated(note(), 12), repeated(flood(), 12), repeated(outTo(255), 12), repeated(setTo(2, impl.MaxNum), 12), repeated(hand(), 11)}
	for _, port := range rightPorts() {
		l = append(l, acts(outTo(port)), acts(flood(), outTo(port), hand()))
	}
	for _, n := range []int{0, 1, 255, 256, 1 << 32, impl.MaxNum - 1, impl.MaxNum} {
		l = append(l, acts(setTo(1, n)), acts(setTo(2, n)), acts(setTo(1, n), flood(), setTo(2, n), outTo(1)))
	}
	return append(l, acts(flood()), acts(note()), acts(hand()), acts(outTo(1), flood(), setTo(1, 7), note(), hand()), acts(hand(), note(), setTo(2, 7), flood(), outTo(3)))
}

// wrongOnes are single actions that aren't right, each for one thing.
func wrongOnes() []impl.Act {
	var l []impl.Act
	for _, kind := range append(farNums(), -1, 0, 6, 7, 256, 257, 1<<32+1, math.MinInt+1) {
		l = append(l, impl.Act{Kind: kind}, impl.Act{Kind: kind, A: 1}, impl.Act{Kind: kind, A: 1, B: 1})
	}
	for _, port := range wrongPorts() {
		l = append(l, outTo(port))
	}
	for _, n := range append(farNums(), -1, 1, 255, 256, 1<<32) {
		l = append(l, impl.Act{Kind: 1, A: 1, B: n})
		for _, kind := range []int{2, 4, 5} {
			l = append(l, impl.Act{Kind: kind, A: n}, impl.Act{Kind: kind, B: n}, impl.Act{Kind: kind, A: n, B: n})
		}
	}
	for _, f := range append(noFields(), 0, 3, 4, 5, 6, 7) {
		l = append(l, setTo(f, 0), setTo(f, 1))
	}
	for _, n := range edgesOf(1) {
		if n < 0 || n > impl.MaxNum {
			l = append(l, setTo(1, n), setTo(2, n))
		}
	}
	return l
}

// wrongActs: too many actions, one wrong one alone, and one among right ones, at each place.
func wrongActs() [][]impl.Act {
	l := [][]impl.Act{make([]impl.Act, 1), make([]impl.Act, 12)}
	for _, n := range []int{13, 14, 24, 256, 268, 1000} {
		l = append(l, repeated(note(), n), repeated(flood(), n), repeated(outTo(1), n), repeated(setTo(1, 1), n), make([]impl.Act, n))
	}
	for i, a := range wrongOnes() {
		l = append(l, acts(a))
		few := repeated(outTo(2), 2+i%11)
		few[i%len(few)] = a
		l = append(l, few)
	}
	for at := range 12 {
		many := repeated(flood(), 12)
		many[at] = outTo(0)
		l = append(l, many)
	}
	return l
}

func rightPortLists() [][]int {
	return [][]int{nil, {}, {1}, {255}, {1, 255}, {254, 255}, {1, 2}, {1, 2, 3}, {3, 5, 7, 9}, {1, 2, 3, 4, 5, 6, 7}, {1, 2, 3, 4, 5, 6, 7, 8}, {248, 249, 250, 251, 252, 253, 254, 255}, {1, 30, 60, 90, 127, 128, 200, 255}}
}

func wrongPortLists() [][]int {
	l := [][]int{{1, 2, 3, 4, 5, 6, 7, 8, 9}, {0, 1, 2, 3, 4, 5, 6, 7, 8}, make([]int, 8), make([]int, 9), make([]int, 300), {1, 1}, {255, 255}, {2, 1}, {255, 1}, {1, 2, 2}, {1, 3, 2}, {2, 1, 3}, {8, 7, 6, 5, 4, 3, 2, 1}}
	for _, n := range wrongPorts() {
		l = append(l, []int{n}, []int{n, 7}, []int{7, n}, []int{1, n, 200}, []int{1, 2, 3, 4, 5, 6, 7, n})
	}
	long := make([]int, 255)
	for i := range long {
		long[i] = i + 1
	}
	return append(l, long, long[:16])
}

func checkActsOk(t *testing.T, l []impl.Act) {
	t.Helper()
	before := slices.Clone(l)
	if got := impl.ActsOk(l); got != actsRight(l) {
		t.Errorf("%d actions %v are right: %v", len(l), l[:min(len(l), 13)], got)
	}
	if !slices.Equal(l, before) {
		t.Error("ActsOk changed its argument")
	}
}

func TestActConstants(t *testing.T) {
	got := []int{impl.MaxActs, impl.MaxPorts, impl.ActOut, impl.ActFlood, impl.ActSet, impl.ActNote, impl.ActHand}
	if !slices.Equal(got, []int{12, 8, 1, 2, 3, 4, 5}) {
		t.Errorf("the constants are %v", got)
	}
}

func TestActsOk(t *testing.T) {
	for _, l := range rightActs() {
		checkActsOk(t, l)
		if !impl.ActsOk(l) {
			t.Errorf("%v aren't right", l)
		}
	}
	for _, l := range wrongActs() {
		checkActsOk(t, l)
		if impl.ActsOk(l) {
			t.Errorf("%d actions %v are right", len(l), l[:min(len(l), 13)])
		}
	}
}

func TestActsOkEveryLength(t *testing.T) {
	for _, a := range acts(outTo(1), flood(), setTo(1, 0), note(), hand()) {
		for n := range 300 {
			if got := impl.ActsOk(repeated(a, n)); got != (n <= 12) {
				t.Errorf("%d times %v: %v", n, a, got)
			}
		}
	}
	// Spare room behind a list is none of its actions.
	whole := repeated(note(), 20)
	whole[12] = impl.Act{Kind: 9}
	if !impl.ActsOk(whole[:12]) || !impl.ActsOk(whole[:0]) || impl.ActsOk(whole[:13]) {
		t.Error("spare room is taken for actions")
	}
}

func TestActsOkEveryKind(t *testing.T) {
	for kind := -300; kind < 600; kind++ {
		for _, c := range []struct{ a, b int }{{0, 0}, {1, 0}, {0, 1}, {1, 1}, {2, 0}, {2, 5}, {255, 0}, {256, 0}, {-1, 0}, {0, -1}} {
			checkActsOk(t, acts(impl.Act{Kind: kind, A: c.a, B: c.b}))
		}
		if kind < 1 || kind > 5 {
			if impl.ActsOk(acts(impl.Act{Kind: kind})) {
				t.Errorf("an action of kind %d is right", kind)
			}
		}
	}
}

func TestActsOkEveryPort(t *testing.T) {
	for port := -600; port < 1200; port++ {
		if got := impl.ActsOk(acts(outTo(port))); got != (port >= 1 && port <= 255) {
			t.Errorf("out to %d: %v", port, got)
		}
		if impl.ActsOk(acts(impl.Act{Kind: 1, A: port, B: 1})) || impl.ActsOk(acts(impl.Act{Kind: 1, A: port, B: -1})) {
			t.Errorf("out to %d with a B", port)
		}
	}
}

func TestActsOkEveryField(t *testing.T) {
	for _, f := range append(noFields(), 0, 1, 2, 3, 4, 5, 6, 7) {
		at := max(0, min(f, 7))
		for _, n := range append(edgesOf(at), edgesOf(1)...) {
			checkActsOk(t, acts(setTo(f, n)))
			if f != 1 && f != 2 && impl.ActsOk(acts(setTo(f, n))) {
				t.Errorf("%d is put into the field %d", n, f)
			}
		}
	}
	for _, f := range []int{1, 2} {
		for _, c := range []struct {
			n  int
			ok bool
		}{{-1, false}, {0, true}, {impl.MaxNum, true}, {impl.MaxNum + 1, false}} {
			if impl.ActsOk(acts(setTo(f, c.n))) != c.ok {
				t.Errorf("%d into the field %d", c.n, f)
			}
		}
	}
}

// Whatever stands in A and B, over a grid of edges for every kind.
func TestActsOkEveryPair(t *testing.T) {
	nums := append(farNums(), -1, 0, 1, 2, 3, 4, 5, 6, 7, 8, 254, 255, 256, 257, 65535, 65536, impl.MaxNum-1, impl.MaxNum, impl.MaxNum+1)
	for kind := -1; kind <= 7; kind++ {
		for _, a := range nums {
			for _, b := range nums {
				checkActsOk(t, acts(impl.Act{Kind: kind, A: a, B: b}))
				checkActsOk(t, acts(flood(), impl.Act{Kind: kind, A: a, B: b}, note()))
			}
		}
	}
}

func TestActsOkEveryPlace(t *testing.T) {
	for n := 1; n <= 12; n++ {
		for at := range n {
			for _, wrong := range acts(impl.Act{}, outTo(256), setTo(0, 1), impl.Act{Kind: 2, B: 1}, impl.Act{Kind: 6}) {
				l := repeated(setTo(1, 5), n)
				l[at] = wrong
				if impl.ActsOk(l) {
					t.Errorf("%v at place %d of %d", wrong, at, n)
				}
			}
		}
	}
}

func checkPortsOk(t *testing.T, l []int) {
	t.Helper()
	before := slices.Clone(l)
	if got := impl.PortsOk(l); got != portsRight(l) {
		t.Errorf("%v are right: %v", l[:min(len(l), 10)], got)
	}
	if !slices.Equal(l, before) {
		t.Error("PortsOk changed its argument")
	}
}

func TestPortsOk(t *testing.T) {
	for _, l := range rightPortLists() {
		checkPortsOk(t, l)
		if !impl.PortsOk(l) {
			t.Errorf("%v aren't right", l)
		}
	}
	for _, l := range wrongPortLists() {
		checkPortsOk(t, l)
		if impl.PortsOk(l) {
			t.Errorf("%d ports %v are right", len(l), l[:min(len(l), 10)])
		}
	}
}

func TestPortsOkEveryPort(t *testing.T) {
	for n := -600; n < 1200; n++ {
		if got := impl.PortsOk([]int{n}); got != (n >= 1 && n <= 255) {
			t.Errorf("the port %d: %v", n, got)
		}
	}
	for _, a := range append(wrongPorts(), 1, 2, 3, 100, 254, 255) {
		for b := -5; b < 262; b++ {
			checkPortsOk(t, []int{a, b})
			checkPortsOk(t, []int{b, a})
		}
	}
	for a := range 7 {
		for b := range 7 {
			for c := range 7 {
				checkPortsOk(t, []int{a, b, c})
				checkPortsOk(t, []int{a + 250, b + 250, c + 250})
			}
		}
	}
}

func TestPortsOkEveryLength(t *testing.T) {
	whole := make([]int, 255)
	for i := range whole {
		whole[i] = i + 1
	}
	for n := range 256 {
		if got := impl.PortsOk(whole[:n]); got != (n <= 8) {
			t.Errorf("%d ports: %v", n, got)
		}
	}
	for n := 2; n <= 8; n++ {
		for at := 1; at < n; at++ {
			alike := slices.Clone(whole[:n])
			alike[at] = alike[at-1]
			falls := slices.Clone(whole[:n])
			falls[at], falls[at-1] = falls[at-1], falls[at]
			if impl.PortsOk(alike) || impl.PortsOk(falls) {
				t.Errorf("%v or %v are right", alike, falls)
			}
		}
	}
}

// checkPerform holds what is sent, and the ports of it, against the document's words,
// and asks that nothing is changed.
func checkPerform(t *testing.T, h impl.Head, ports []int, l []impl.Act) []impl.Sent {
	t.Helper()
	wasHead, wasPorts, wasActs := copyHead(h), slices.Clone(ports), slices.Clone(l)
	got, ok := impl.Perform(h, ports, l)
	out := impl.OutPorts(h, ports, l)
	if !sameHead(h, wasHead) || !slices.Equal(ports, wasPorts) || !slices.Equal(l, wasActs) {
		t.Error("Perform or OutPorts changed an argument")
	}
	want, wantOk := performSpelled(h, ports, l)
	if ok != wantOk || !sameSent(got, want) {
		t.Errorf("%v at %v of %v: %v %v, not %v %v", l, ports, h.V, got, ok, want, wantOk)
	}
	if !slices.Equal(out, portsSpelled(want)) {
		t.Errorf("%v at %v of %v: sent to %v, and not to %v", l, ports, h.V, out, portsSpelled(want))
	}
	checkPromise(t, h, ports, got, out)
	return got
}

// checkPromise is what is promised of all that is sent, without a look at the actions.
func checkPromise(t *testing.T, h impl.Head, ports []int, sent []impl.Sent, out []int) {
	t.Helper()
	for _, s := range sent {
		if !slices.Contains(ports, s.Port) || s.Port == h.V[0] || !impl.HeadOk(s.Head) || s.Head.V[0] != h.V[0] {
			t.Errorf("%v is sent to %d, from %v with the ports %v", s.Head.V, s.Port, h.V, ports)
		}
		if !slices.Contains(out, s.Port) {
			t.Errorf("%d is sent to, and not among %v", s.Port, out)
		}
	}
	for i, port := range out {
		if i > 0 && out[i-1] >= port || !slices.ContainsFunc(sent, func(s impl.Sent) bool { return s.Port == port }) {
			t.Errorf("%v don't rise, or nothing is sent to %d", out, port)
		}
	}
}

func refusesPerform(t *testing.T, h impl.Head, ports []int, l []impl.Act) {
	t.Helper()
	wasHead, wasPorts, wasActs := copyHead(h), slices.Clone(ports), slices.Clone(l)
	if got, ok := impl.Perform(h, ports, l); ok || len(got) != 0 {
		t.Errorf("%d actions, %d ports and %d numbers: %v %v", len(l), len(ports), len(h.V), got, ok)
	}
	if out := impl.OutPorts(h, ports, l); len(out) != 0 {
		t.Errorf("%d actions, %d ports and %d numbers are sent to %v", len(l), len(ports), len(h.V), out)
	}
	if !sameHead(h, wasHead) || !slices.Equal(ports, wasPorts) || !slices.Equal(l, wasActs) {
		t.Error("Perform or OutPorts changed an argument")
	}
}

func TestPerformByHand(t *testing.T) {
	was := func(port int) impl.Sent { return sentTo(port, 1, 2, 3, 2048, 5, 6, 7, 8) }
	src := func(port int) impl.Sent { return sentTo(port, 1, 9, 3, 2048, 5, 6, 7, 8) }
	dst := func(port int) impl.Sent { return sentTo(port, 1, 2, 9, 2048, 5, 6, 7, 8) }
	both := func(port int) impl.Sent { return sentTo(port, 1, 9, 9, 2048, 5, 6, 7, 8) }
	for _, c := range []struct {
		what  string
		ports []int
		l     []impl.Act
		sent  []impl.Sent
		out   []int
	}{
		{"nothing to do", []int{1, 2, 3}, nil, nil, nil},
		{"no ports", nil, acts(outTo(2), flood()), nil, nil},
		{"neither", nil, nil, nil, nil},
		{"out", []int{1, 2, 3}, acts(outTo(2)), []impl.Sent{was(2)}, []int{2}},
		{"out back", []int{1, 2, 3}, acts(outTo(1)), nil, nil},
		{"out to what isn't there", []int{1, 2, 3}, acts(outTo(4)), nil, nil},
		{"out back to what isn't there", []int{2, 3}, acts(outTo(1)), nil, nil},
		{"flood", []int{1, 2, 3}, acts(flood()), []impl.Sent{was(2), was(3)}, []int{2, 3}},
		{"flood, in from elsewhere", []int{2, 3, 4}, acts(flood()), []impl.Sent{was(2), was(3), was(4)}, []int{2, 3, 4}},
		{"flood to none but the way in", []int{1}, acts(flood()), nil, nil},
		{"a number ahead", []int{1, 2}, acts(setTo(1, 9), outTo(2)), []impl.Sent{src(2)}, []int{2}},
		{"a number behind", []int{1, 2}, acts(outTo(2), setTo(1, 9)), []impl.Sent{was(2)}, []int{2}},
		{"a number between", []int{2, 3}, acts(flood(), setTo(2, 9), flood()), []impl.Sent{was(2), was(3), dst(2), dst(3)}, []int{2, 3}},
		{"two numbers", []int{2}, acts(setTo(2, 9), outTo(2), setTo(1, 9), outTo(2)), []impl.Sent{dst(2), both(2)}, []int{2}},
		{"one field twice", []int{2}, acts(setTo(1, 7), setTo(1, 9), outTo(2)), []impl.Sent{src(2)}, []int{2}},
		{"one field there and back", []int{2}, acts(setTo(1, 9), outTo(2), setTo(1, 2), outTo(2)), []impl.Sent{src(2), was(2)}, []int{2}},
		{"a number alone", []int{2}, acts(setTo(1, 9)), nil, nil},
		{"a note", []int{2}, acts(note()), nil, nil},
		{"a packet handed over", []int{2}, acts(hand()), nil, nil},
		{"both among others", []int{2, 3}, acts(note(), outTo(3), hand(), outTo(2), note()), []impl.Sent{was(3), was(2)}, []int{2, 3}},
		{"twice out", []int{2, 3}, acts(outTo(2), outTo(2)), []impl.Sent{was(2), was(2)}, []int{2}},
		{"falling", []int{2, 3, 4}, acts(outTo(4), outTo(2), outTo(3), outTo(4)), []impl.Sent{was(4), was(2), was(3), was(4)}, []int{2, 3, 4}},
	} {
		h := impl.Head{V: []int{1, 2, 3, 2048, 5, 6, 7, 8}}
		if got, ok := impl.Perform(h, c.ports, c.l); !ok || !sameSent(got, c.sent) {
			t.Errorf("%s: %v %v", c.what, got, ok)
		}
		if got := impl.OutPorts(h, c.ports, c.l); !slices.Equal(got, c.out) {
			t.Errorf("%s: %v", c.what, got)
		}
		checkPerform(t, h, c.ports, c.l)
	}
}

func TestPerformRight(t *testing.T) {
	heads := append(rightHeads(), headFrom(0), headFrom(2), headFrom(7), headFrom(128), headFrom(254))
	for _, h := range heads {
		for _, ports := range rightPortLists() {
			for _, l := range rightActs() {
				checkPerform(t, h, ports, l)
			}
		}
	}
}

func TestPerformRefuses(t *testing.T) {
	good := acts(setTo(1, 9), flood(), outTo(2), note())
	for _, l := range append([][]impl.Act{nil}, good, acts(note())) {
		for _, ports := range [][]int{nil, {1, 2, 3}} {
			for _, h := range wrongHeads() {
				refusesPerform(t, h, ports, l)
			}
		}
		for _, ports := range wrongPortLists() {
			refusesPerform(t, headFrom(1), ports, l)
		}
	}
	for _, l := range wrongActs() {
		refusesPerform(t, headFrom(1), []int{1, 2, 3}, l)
		refusesPerform(t, headFrom(1), nil, l)
		refusesPerform(t, impl.Head{}, nil, l)
		refusesPerform(t, impl.Head{}, []int{0}, l)
	}
	refusesPerform(t, impl.Head{}, nil, nil)
	refusesPerform(t, impl.Head{V: make([]int, 7, 8)}, []int{2}, good)
	for _, h := range wrongHeads() {
		refusesPerform(t, h, []int{3, 3}, good)
		refusesPerform(t, h, []int{2}, acts(impl.Act{}))
	}
}

// What is put into the head would make these heads right; they are refused for what they are.
func TestPerformMakesNoHeadRight(t *testing.T) {
	for _, f := range []int{1, 2} {
		for _, n := range []int{-1, impl.MaxNum + 1, math.MinInt, math.MaxInt} {
			h := headFrom(1)
			h.V[f] = n
			refusesPerform(t, h, []int{2}, acts(setTo(f, 5), outTo(2)))
		}
	}
}

// A wrong action is refused wherever it stands, also where no action ahead of it sends anything.
func TestPerformDoesNothingInPart(t *testing.T) {
	for at := range 12 {
		for _, wrong := range acts(impl.Act{}, outTo(0), setTo(3, 1), impl.Act{Kind: 4, A: 1}) {
			l := repeated(outTo(2), 12)
			l[at] = wrong
			refusesPerform(t, headFrom(1), []int{2}, l)
		}
	}
}

func TestPerformEveryPort(t *testing.T) {
	for port := 1; port <= 255; port++ {
		for _, in := range []int{0, 1, port, port % 255, 255} {
			for _, ports := range [][]int{{port}, {1, 255}, {1, 128, 255}, nil} {
				checkPerform(t, headFrom(in), ports, acts(outTo(port)))
				checkPerform(t, headFrom(in), ports, acts(flood(), outTo(port)))
			}
		}
		if got, ok := impl.Perform(headFrom(port), []int{port}, acts(outTo(port), flood())); !ok || len(got) != 0 {
			t.Errorf("sent back to %d: %v", port, got)
		}
		if got, ok := impl.Perform(headFrom(0), []int{port}, acts(outTo(port))); !ok || len(got) != 1 || got[0].Port != port {
			t.Errorf("out to %d: %v", port, got)
		}
	}
}

// Every number that is put into a field is there in what is sent behind, and nothing else is other.
func TestPerformEveryNumber(t *testing.T) {
	for _, h := range rightHeads() {
		h.V[0] = 1
		for _, f := range []int{1, 2} {
			for _, n := range rightNums() {
				got := checkPerform(t, h, []int{1, 2}, acts(outTo(2), setTo(f, n), outTo(2)))
				want := copyHead(h)
				want.V[f] = n
				if len(got) != 2 || !sameHead(got[0].Head, h) || !sameHead(got[1].Head, want) {
					t.Errorf("%d in field %d of %v: %v", n, f, h.V, got)
				}
			}
		}
	}
}

// eachList calls with every list of up to n of them all.
func eachList[E any](all []E, n int, call func(l []E)) {
	var further func(l []E)
	further = func(l []E) {
		call(l)
		if len(l) < n {
			for _, a := range all {
				further(append(slices.Clone(l), a))
			}
		}
	}
	further(nil)
}

func TestPerformEveryList(t *testing.T) {
	all := acts(outTo(1), outTo(2), outTo(3), outTo(4), flood(), setTo(1, 9), setTo(2, 9), setTo(1, 0), note(), hand())
	ports := [][]int{nil, {1}, {2}, {1, 2}, {3}, {1, 3}, {2, 3}, {1, 2, 3}}
	eachList(all, 3, func(l []impl.Act) {
		for _, has := range ports {
			for _, in := range []int{0, 1, 2, 3, 4} {
				checkPerform(t, headFrom(in), has, l)
			}
		}
	})
}

func scatteredPorts(next func() int) []int {
	var out []int
	for range next() % 9 {
		port := 1 + next()%255
		if next()%2 == 0 {
			port = 1 + next()%10
		}
		if !slices.Contains(out, port) {
			out = append(out, port)
		}
	}
	slices.Sort(out)
	return out
}

func scatteredActs(next func() int) []impl.Act {
	l := make([]impl.Act, next()%13)
	for i := range l {
		switch next() % 6 {
		case 0:
			l[i] = outTo(1 + next()%255)
		case 1:
			l[i] = outTo(1 + next()%10)
		case 2:
			l[i] = flood()
		case 3:
			l[i] = setTo(1+next()%2, next())
		case 4:
			l[i] = note()
		default:
			l[i] = hand()
		}
	}
	return l
}

func TestPerformScattered(t *testing.T) {
	next := scatter(11)
	sent, twice := 0, 0
	for range 20000 {
		h := scatteredHead(next)
		if next()%2 == 0 {
			h.V[0] = next() % 12
		}
		ports, l := scatteredPorts(next), scatteredActs(next)
		got := checkPerform(t, h, ports, l)
		sent += len(got)
		if len(got) > len(impl.OutPorts(h, ports, l)) {
			twice++
		}
	}
	if sent < 20000 || twice < 1000 {
		t.Errorf("%d sent, %d times more than once to a port: too few to tell", sent, twice)
	}
}

// checkSentApart writes over the head of one thing that is sent, spare room counted in, and
// asks whether another thing, or an argument, changed with it.
func checkSentApart(t *testing.T, h impl.Head, ports []int, l []impl.Act) {
	t.Helper()
	got, _ := impl.Perform(h, ports, l)
	want := copySent(got)
	wasHead, wasPorts, wasActs := copyHead(h), slices.Clone(ports), slices.Clone(l)
	for i := range got {
		v := got[i].Head.V[:cap(got[i].Head.V)]
		for f := range v {
			v[f] = -9
		}
		for k, other := range got {
			if k != i && !sameHead(other.Head, want[k].Head) {
				t.Fatalf("the heads of %d and %d share memory", i, k)
			}
		}
		if !sameHead(h, wasHead) || !slices.Equal(ports, wasPorts) || !slices.Equal(l, wasActs) {
			t.Fatal("an answer shares memory with an argument")
		}
		copy(v, want[i].Head.V)
	}
	again, _ := impl.Perform(h, ports, l)
	if !sameSent(again, want) {
		t.Error("two answers share memory")
	}
}

func TestPerformNewMemory(t *testing.T) {
	whole := []int{1, 2, 3, 2048, 5, 6, 7, 8, 50, 51}
	has := []int{1, 2, 3, 4, 70, 71}
	for _, l := range [][]impl.Act{
		acts(outTo(2)), acts(outTo(2), outTo(2)), acts(flood()), acts(flood(), flood()),
		acts(setTo(1, 9), flood(), outTo(2), note(), setTo(1, 2), flood()),
		acts(outTo(3), setTo(2, 3), outTo(3)),
	} {
		h, ports := impl.Head{V: whole[:8]}, has[:4]
		checkSentApart(t, h, ports, l)
		one, _ := impl.Perform(h, ports, l)
		two, _ := impl.Perform(h, ports, l)
		want := copySent(two)
		for i := range one {
			one[i].Head.V = append(one[i].Head.V, 98)
			one[i] = impl.Sent{}
		}
		one = append(one, impl.Sent{Port: 97})
		if !sameSent(two, want) || len(one) != len(want)+1 {
			t.Error("two answers share memory")
		}
		for i := range whole {
			whole[i] ^= 1
		}
		for i := range has {
			has[i] ^= 1
		}
		if !sameSent(two, want) {
			t.Error("an answer hangs on the arguments' memory")
		}
		for i := range whole {
			whole[i] ^= 1
		}
		for i := range has {
			has[i] ^= 1
		}
	}
	if !slices.Equal(whole, []int{1, 2, 3, 2048, 5, 6, 7, 8, 50, 51}) || !slices.Equal(has, []int{1, 2, 3, 4, 70, 71}) {
		t.Error("an answer reaches behind an argument")
	}
}

func TestOutPortsNewMemory(t *testing.T) {
	has := []int{1, 2, 3, 4, 70, 71}
	for _, l := range [][]impl.Act{acts(flood()), acts(outTo(4), outTo(2), flood(), outTo(2)), acts(outTo(1), outTo(3))} {
		one := impl.OutPorts(headFrom(9), has[:4], l)
		two := impl.OutPorts(headFrom(9), has[:4], l)
		want := slices.Clone(two)
		room := one[:cap(one)]
		for i := range room {
			room[i] = 99
		}
		if !slices.Equal(two, want) || !slices.Equal(has, []int{1, 2, 3, 4, 70, 71}) {
			t.Error("an answer shares memory with the argument or another answer")
		}
	}
}

func TestOutPortsEdges(t *testing.T) {
	ports := []int{1, 2, 3, 4, 5, 6, 7, 8}
	if got := impl.OutPorts(headFrom(0), ports, repeated(flood(), 12)); !slices.Equal(got, ports) {
		t.Errorf("twelve floods from elsewhere: %v", got)
	}
	if got := impl.OutPorts(headFrom(8), ports, acts(outTo(8), outTo(7), outTo(9), outTo(7), outTo(1))); !slices.Equal(got, []int{1, 7}) {
		t.Errorf("out and falling: %v", got)
	}
	if sent, ok := impl.Perform(headFrom(0), ports, repeated(flood(), 12)); !ok || len(sent) != 96 {
		t.Errorf("%d are sent, not MaxActs times MaxPorts", len(sent))
	}
	if got := impl.OutPorts(headFrom(1), []int{2}, repeated(flood(), 13)); len(got) != 0 {
		t.Errorf("thirteen floods: %v", got)
	}
}

func checkHasAct(t *testing.T, l []impl.Act, kind int) {
	t.Helper()
	before := slices.Clone(l)
	want := false
	for _, a := range l {
		want = want || a.Kind == kind
	}
	want = want && actsRight(l)
	if got := impl.HasAct(l, kind); got != want {
		t.Errorf("kind %d in %d actions %v: %v", kind, len(l), l[:min(len(l), 13)], got)
	}
	if !slices.Equal(l, before) {
		t.Error("HasAct changed its argument")
	}
}

func allKinds() []int {
	return append(farNums(), -1, 0, 1, 2, 3, 4, 5, 6, 7, 256, 257, 1<<32+1, math.MinInt+1)
}

func TestHasAct(t *testing.T) {
	for _, kind := range allKinds() {
		for _, l := range append(rightActs(), wrongActs()...) {
			checkHasAct(t, l, kind)
		}
		if (kind < 1 || kind > 5) && impl.HasAct(acts(outTo(1), flood(), setTo(1, 1), note(), hand()), kind) {
			t.Errorf("an action is of the kind %d, which is none", kind)
		}
		if impl.HasAct(nil, kind) || impl.HasAct([]impl.Act{}, kind) {
			t.Errorf("none has an action of kind %d", kind)
		}
		// Of the kind that is asked, and not right.
		if impl.HasAct(acts(impl.Act{Kind: kind, A: -1}), kind) || impl.HasAct(acts(impl.Act{Kind: kind, A: -1}, flood()), 2) {
			t.Errorf("actions that aren't right have one of kind %d", kind)
		}
	}
	eachList(acts(outTo(1), flood(), setTo(1, 9), note(), hand(), impl.Act{}, impl.Act{Kind: 6}, outTo(0)), 3, func(l []impl.Act) {
		for kind := -1; kind <= 7; kind++ {
			checkHasAct(t, l, kind)
		}
	})
}

func TestHasActEveryPlace(t *testing.T) {
	for n := 1; n <= 13; n++ {
		for at := range n {
			for _, a := range acts(outTo(255), flood(), setTo(2, 0), hand()) {
				l := repeated(note(), n)
				l[at] = a
				if got := impl.HasAct(l, a.Kind); got != (n <= 12) {
					t.Errorf("kind %d at place %d of %d: %v", a.Kind, at, n, got)
				}
			}
		}
	}
}

func checkSameActs(t *testing.T, a []impl.Act, b []impl.Act) {
	t.Helper()
	wasA, wasB := slices.Clone(a), slices.Clone(b)
	want := actsRight(a) && actsRight(b) && len(a) == len(b)
	for i := 0; want && i < len(a); i++ {
		want = a[i].Kind == b[i].Kind && a[i].A == b[i].A && a[i].B == b[i].B
	}
	if got := impl.SameActs(a, b); got != want {
		t.Errorf("%v and %v: %v", a[:min(len(a), 13)], b[:min(len(b), 13)], got)
	}
	if !slices.Equal(a, wasA) || !slices.Equal(b, wasB) {
		t.Error("SameActs changed an argument")
	}
}

func TestSameActs(t *testing.T) {
	all := append(rightActs(), wrongActs()[:120]...)
	for _, a := range all {
		for _, b := range all {
			checkSameActs(t, a, b)
		}
	}
	for _, l := range rightActs() {
		if !impl.SameActs(l, slices.Clone(l)) || !impl.SameActs(l, l) {
			t.Errorf("%v isn't the same as itself", l)
		}
	}
	for _, l := range wrongActs() {
		if impl.SameActs(l, slices.Clone(l)) || impl.SameActs(l, l) || impl.SameActs(l, nil) || impl.SameActs(nil, l) {
			t.Errorf("%d actions that aren't right are the same", len(l))
		}
	}
	if !impl.SameActs(nil, nil) || !impl.SameActs(nil, []impl.Act{}) || !impl.SameActs([]impl.Act{}, nil) {
		t.Error("none and none aren't the same")
	}
}

// One place of twelve is other, in Kind, in A or in B, and both lists are right.
func TestSameActsEveryPlace(t *testing.T) {
	for _, c := range []struct{ was, other impl.Act }{
		{flood(), note()}, {note(), hand()}, {outTo(1), flood()}, {outTo(1), setTo(1, 0)},
		{outTo(1), outTo(2)}, {outTo(1), outTo(255)}, {setTo(1, 5), setTo(2, 5)},
		{setTo(1, 5), setTo(1, 4)}, {setTo(2, 0), setTo(2, 1<<32)}, {setTo(2, 0), setTo(2, impl.MaxNum)},
	} {
		for n := 1; n <= 12; n++ {
			for at := range n {
				a, b := repeated(c.was, n), repeated(c.was, n)
				b[at] = c.other
				if impl.SameActs(a, b) || impl.SameActs(b, a) || !impl.SameActs(b, slices.Clone(b)) {
					t.Errorf("%v for %v at place %d of %d", c.other, c.was, at, n)
				}
				if impl.SameActs(a, a[:at]) || impl.SameActs(a[:at], a) {
					t.Errorf("the first %d of %d are the same as all", at, n)
				}
			}
		}
	}
	// The same actions in another order, or as often otherwise, are others.
	if impl.SameActs(acts(flood(), note()), acts(note(), flood())) || impl.SameActs(acts(flood(), flood(), note()), acts(flood(), note(), note())) {
		t.Error("the order isn't looked at")
	}
}
