package tests

import (
	"fmt"
	"math"
	"regexp"
	"slices"
	"strings"
	"testing"

	"loop.example/g00391/impl"
)

// meaning is what a name stands for: s, e and v for a state, an event and a view that are declared, p for packet, f for forward, ? for nothing; and its number of terms.
type meaning struct {
	letter byte
	terms  int
}

func meaningOf(p impl.Program, name string) meaning {
	for _, d := range p.Decls {
		if d.Name == name {
			return meaning{"?sev"[d.Kind], d.Arity}
		}
	}
	switch name {
	case "packet":
		return meaning{'p', 4}
	case "forward":
		return meaning{'f', 1}
	}
	return meaning{'?', -1}
}

// atomsSpelled are those of the head and of the literals that have one.
func atomsSpelled(r impl.Rule) []impl.Atom {
	l := []impl.Atom{r.Head}
	for _, x := range r.Body {
		if x.Kind == 1 || x.Kind == 2 {
			l = append(l, x.Atom)
		}
	}
	return l
}

// ruleShape is the kind of a rule, the letter of its head, and one for each literal: a capital behind 'not', c of a comparison.
func ruleShape(p impl.Program, r impl.Rule) string {
	s := fmt.Sprintf("%d%c:", r.Kind, meaningOf(p, r.Head.Name).letter)
	for _, x := range r.Body {
		one := string(meaningOf(p, x.Atom.Name).letter)
		switch x.Kind {
		case 2:
			one = strings.ToUpper(one)
		case 3:
			one = "c"
		}
		s += one
	}
	return s
}

var (
	headShape = regexp.MustCompile(`\A(1[vf]|[23]s):`)
	wellShape = regexp.MustCompile(`\A(1v:|1f:p|[23]s:[pe])[sSvVc]*\z`)
)

func ruleCodeSpelled(p impl.Program, r impl.Rule) int {
	shape := ruleShape(p, r)
	for _, a := range atomsSpelled(r) {
		if meaningOf(p, a.Name).letter == '?' {
			return 3
		}
	}
	for _, a := range atomsSpelled(r) {
		if meaningOf(p, a.Name).terms != len(a.Args) {
			return 4
		}
	}
	switch {
	case !headShape.MatchString(shape):
		return 5
	case strings.ContainsAny(shape[3:], "fF"):
		return 6
	case !wellShape.MatchString(shape):
		return 7
	}
	return 0
}

// checkNamesSpelled, declOfSpelled and emptyStoreSpelled are the three functions by the document's words.
func checkNamesSpelled(p impl.Program) (int, int) {
	if !programRight(p) {
		return 1, 0
	}
	for i, d := range p.Decls {
		for _, x := range append([]impl.Decl{{Name: "packet"}, {Name: "forward"}}, p.Decls[:i]...) {
			if x.Name == d.Name {
				return 2, i
			}
		}
	}
	for i, r := range p.Rules {
		if code := ruleCodeSpelled(p, r); code != 0 {
			return code, i
		}
	}
	return 0, 0
}

func declOfSpelled(p impl.Program, name string) (impl.Decl, bool) {
	if programRight(p) {
		for _, d := range p.Decls {
			if d.Name == name {
				return d, true
			}
		}
	}
	return impl.Decl{}, false
}

// emptyStoreSpelled takes the declaration with the least name above the last one, as long as there is one.
func emptyStoreSpelled(p impl.Program, kind int) impl.Store {
	out := impl.Store{}
	if code, _ := checkNamesSpelled(p); code != 0 {
		return out
	}
	for last := ""; ; {
		least := impl.Decl{}
		for _, d := range p.Decls {
			if d.Kind == kind && bytesBefore(last, d.Name) && (least.Name == "" || bytesBefore(d.Name, least.Name)) {
				least = d
			}
		}
		if least.Name == "" {
			return out
		}
		out.Rels = append(out.Rels, named(least.Name, impl.Rel{Arity: least.Arity}))
		last = least.Name
	}
}

// namesCode holds CheckNames against the document's words, twice.
func namesCode(t *testing.T, p impl.Program) (int, int) {
	t.Helper()
	want, wantAt := checkNamesSpelled(p)
	underProgram(t, p, func(arg impl.Program) {
		t.Helper()
		for range 2 {
			if code, at := impl.CheckNames(arg); code != want || at != wantAt {
				t.Errorf("CheckNames of %s: %d at %d, not %d at %d", programShown(p), code, at, want, wantAt)
			}
		}
	})
	return want, wantAt
}

// checkDeclOf holds DeclOf against the document's words, twice.
func checkDeclOf(t *testing.T, p impl.Program, name string) (impl.Decl, bool) {
	t.Helper()
	want, wantOk := declOfSpelled(p, name)
	underProgram(t, p, func(arg impl.Program) {
		t.Helper()
		for range 2 {
			if d, ok := impl.DeclOf(arg, name); d != want || ok != wantOk {
				t.Errorf("DeclOf of %.40q in %s: %.80q and %v, not %.80q and %v", name, programShown(p), fmt.Sprint(d), ok, fmt.Sprint(want), wantOk)
			}
		}
	})
	return want, wantOk
}

// checkEmptyStore holds EmptyStore against the document's words, twice, and looks at the memory of both answers.
func checkEmptyStore(t *testing.T, p impl.Program, kind int) impl.Store {
	t.Helper()
	want := emptyStoreSpelled(p, kind)
	underProgram(t, p, func(arg impl.Program) {
		t.Helper()
		first := impl.EmptyStore(arg, kind)
		second := impl.EmptyStore(arg, kind)
		checkStoreAnswer(t, first, true, programSpots(arg))
		checkStoreAnswer(t, second, true, programSpots(arg), storeSpots(first))
		for _, got := range []impl.Store{first, second} {
			if !sameStore(got, want) {
				t.Errorf("EmptyStore of kind %d of %s: %s, not %s", kind, programShown(p), storeShown(got), storeShown(want))
			}
		}
	})
	return want
}

// hasCode, hasDecl and hasStore are for what is told by hand, so that the document's words written out are held against it too.
func hasCode(t *testing.T, p impl.Program, code int, at int) {
	t.Helper()
	if got, gotAt := namesCode(t, p); got != code || gotAt != at {
		t.Errorf("the words written out give %s the code %d at %d, not %d at %d", programShown(p), got, gotAt, code, at)
	}
}

func hasDecl(t *testing.T, p impl.Program, name string, want impl.Decl, wantOk bool) {
	t.Helper()
	if d, ok := checkDeclOf(t, p, name); d != want || ok != wantOk {
		t.Errorf("the words written out give %.40q in %s as %v, %v", name, programShown(p), d, ok)
	}
}

func hasStore(t *testing.T, p impl.Program, kind int, want ...impl.Named) {
	t.Helper()
	if s := checkEmptyStore(t, p, kind); !sameStore(s, storeOf(want...)) {
		t.Errorf("the words written out give of kind %d of %s %s", kind, programShown(p), storeShown(s))
	}
}

// readProgram is the program of a text that has one.
func readProgram(t *testing.T, text string) impl.Program {
	t.Helper()
	p, code, at := impl.Parse(text)
	if code != 0 {
		t.Fatalf("%q has the code %d at %d", text, code, at)
	}
	return p
}

func TestNamesByHand(t *testing.T) {
	for _, c := range []struct {
		text string
		code int
		at   int
	}{
		{"", 0, 0},
		{"state a/1.", 0, 0},
		{"state a/1. event b/1. view c/1.", 0, 0},
		{"state packet/4.", 2, 0},
		{"event packet/4.", 2, 0},
		{"view forward/1.", 2, 0},
		{"state a/1. view forward/0.", 2, 1},
		{"state a/1. state a/1.", 2, 1},
		{"state a/1. event b/1. view a/1. state packet/4.", 2, 2},
		{"view packets/4. view forwards/1. view packe/4. view forwar/1.", 0, 0},
		{"a().", 3, 0},
		{"view a/0. a().", 0, 0},
		{"view a/0. a() :- b().", 3, 0},
		{"view a/0. a() :- not b().", 3, 0},
		{"view a/0. a() :- a(), a(), not b().", 3, 0},
		{"view a/0. a(). b(). a(1).", 3, 1},
		{"view a/1. a().", 4, 0},
		{"view a/1. a(X, X).", 4, 0},
		{"view a/1. a(X) :- a(X), not a().", 4, 0},
		{"view a/1. forward(X) :- packet(X, X, X).", 4, 0},
		{"view a/1. forward() :- packet(X, X, X, X).", 4, 0},
		{"state a/1. a(1).", 5, 0},
		{"event a/1. a(1).", 5, 0},
		{"packet(1, 2, 3, 4).", 5, 0},
		{"+packet(1, 2, 3, 4) :- packet(1, 2, 3, 4).", 5, 0},
		{"+forward(1) :- packet(1, 2, 3, 4).", 5, 0},
		{"view a/1. -a(1) :- packet(1, 2, 3, 4).", 5, 0},
		{"event a/1. -a(1) :- a(1).", 5, 0},
		{"view a/1. a(1) :- forward(1).", 6, 0},
		{"view a/1. a(1) :- a(1), not forward(1).", 6, 0},
		{"forward(X) :- packet(S, X, A, B), forward(X).", 6, 0},
		{"state a/1. +a(1) :- forward(1).", 6, 0},
		{"view a/1. a(1) :- packet(1, 2, 3, 4).", 7, 0},
		{"view a/1. a(1) :- not packet(1, 2, 3, 4).", 7, 0},
		{"view a/1. event e/0. a(1) :- a(1), e().", 7, 0},
		{"view a/1. event e/0. a(1) :- a(1), not e().", 7, 0},
		{"forward(1).", 7, 0},
		{"forward(1) :- 1 = 1.", 7, 0},
		{"forward(X) :- X = packet, packet(X, X, X, X).", 7, 0},
		{"forward(1) :- not packet(1, 2, 3, 4).", 7, 0},
		{"event e/1. forward(1) :- e(1).", 7, 0},
		{"event e/1. forward(1) :- packet(1, 2, 3, 4), e(1).", 7, 0},
		{"event e/1. forward(1) :- packet(1, 2, 3, 4), not e(1).", 7, 0},
		{"forward(1) :- packet(1, 2, 3, 4), packet(1, 2, 3, 4).", 7, 0},
		{"forward(1) :- packet(1, 2, 3, 4), not packet(1, 2, 3, 4).", 7, 0},
		{"forward(1) :- packet(1, 2, 3, 4), 1 = 2.", 0, 0},
		{"state a/1. +a(1).", 7, 0},
		{"state a/1. -a(1).", 7, 0},
		{"state a/1. -a(1) :- a(1).", 7, 0},
		{"state a/1. event e/0. -a(1) :- not e().", 7, 0},
		{"state a/1. event e/0. -a(1) :- not packet(1, 2, 3, 4).", 7, 0},
		{"state a/1. event e/0. -a(1) :- 1 = 1, e().", 7, 0},
		{"state a/1. event e/0. -a(1) :- e(), e().", 7, 0},
		{"state a/1. event e/0. -a(1) :- packet(1, 2, 3, 4), not e().", 7, 0},
		{"state a/1. event e/0. -a(1) :- e(), 1 = 1, a(X), not a(Y).", 0, 0},
		{"state a/1. event e/0. +a(1) :- packet(1, 2, 3, 4).", 0, 0},
		// A value is no name of an atom, whatever word it is.
		{"view a/1. a(packet). a(forward) :- X = packet, forward != Y, a(nowhere).", 0, 0},
		{"state packet/4. packet(1, 2, 3, 4). a().", 2, 0},
	} {
		hasCode(t, readProgram(t, c.text), c.code, c.at)
	}
}

// wordsOf are declarations of each kind, of the arities 0, 1 and 6: s0, s1, s6, e0 and so on.
func wordsOf() []impl.Decl {
	l := []impl.Decl{}
	for i, letter := range []string{"s", "e", "v"} {
		for _, arity := range []int{0, 1, 6} {
			l = append(l, declOf(i+1, fmt.Sprint(letter, arity), arity))
		}
	}
	return l
}

func withWords(l ...impl.Rule) impl.Program { return impl.Program{Decls: wordsOf(), Rules: l} }

// wide is an atom of a name with n terms: variables, numbers and words.
func wide(name string, n int) impl.Atom {
	return atomOf(name, []impl.Term{varTerm("X"), numTerm(1), varTerm("Y"), wordTerm("packet"), varTerm("X"), wordTerm("forward"), numTerm(2)}[:n]...)
}

// usualAtoms has an atom for each meaning of a name, with as many terms as it has: s, e, v, p, f, and one that isn't declared.
func usualAtoms() []impl.Atom {
	return []impl.Atom{wide("s1", 1), wide("e6", 6), wide("v0", 0), wide("packet", 4), wide("forward", 1), wide("x1", 1)}
}

// usualLits has both literals of each of these, and comparisons.
func usualLits() []impl.Lit {
	l := []impl.Lit{compareLit(varTerm("X"), 1, wordTerm("packet")), {Kind: 3, Op: 2, Atom: impl.Atom{Args: []impl.Term{}}, A: wordTerm("forward"), B: varTerm("Y")}}
	for _, a := range usualAtoms() {
		l = append(l, isLit(a), notLit(a))
	}
	return l
}

// TestNamesOfEachShape: rules of each kind, with each head and each body of up to three literals.
func TestNamesOfEachShape(t *testing.T) {
	codes := map[int]int{}
	for kind := 1; kind <= 3; kind++ {
		for _, head := range usualAtoms() {
			for n := range 4 {
				eachList(usualLits(), n, func(body []impl.Lit) {
					code, _ := namesCode(t, withWords(ruleOf(kind, head, body...)))
					codes[code]++
				})
			}
		}
	}
	for _, code := range []int{0, 3, 5, 6, 7} {
		if codes[code] < 500 {
			t.Errorf("the codes come so often: %v", codes)
		}
	}
}

// goodRules has a rule of each sort that has no fault, short and long.
func goodRules() []impl.Rule {
	s, e, v, p, f := isLit(wide("s1", 1)), isLit(wide("e1", 1)), isLit(wide("v1", 1)), isLit(wide("packet", 4)), wide("forward", 1)
	c := compareLit(varTerm("X"), 4, numTerm(3))
	no := notLit(wide("s0", 0))
	return []impl.Rule{
		ruleOf(1, wide("v0", 0)), ruleOf(1, wide("v6", 6), s), ruleOf(1, v.Atom, c, no, v, s, no, c, v, s),
		ruleOf(1, f, p), ruleOf(1, f, p, s, v, no, c, v, s, v),
		ruleOf(2, wide("s0", 0), e), ruleOf(2, wide("s6", 6), p), ruleOf(2, s.Atom, e, v, no, c, s, v, s, v),
		ruleOf(3, wide("s0", 0), p), ruleOf(3, wide("s6", 6), isLit(wide("e0", 0))), ruleOf(3, s.Atom, p, c, c, no, v, s, s, v),
	}
}

// faultLits are literals that give a rule a code wherever they stand, the first one aside.
func faultLits(code int) []impl.Lit {
	both := func(l ...impl.Atom) []impl.Lit {
		out := []impl.Lit{}
		for _, a := range l {
			out = append(out, isLit(a), notLit(a))
		}
		return out
	}
	switch code {
	case 3:
		return both(wide("x1", 1), wide("x", 0), wide("s11", 1), wide("s", 1), wide("forwar", 1), wide("packets", 4), wide("x6", 6))
	case 4:
		return both(wide("s0", 1), wide("s1", 0), wide("s1", 2), wide("s6", 5), wide("e0", 1), wide("e1", 0), wide("e6", 5), wide("v0", 1), wide("v1", 2), wide("v6", 0), wide("packet", 3), wide("packet", 5), wide("packet", 0), wide("packet", 1), wide("forward", 0), wide("forward", 2), wide("forward", 4))
	case 6:
		return both(wide("forward", 1))
	}
	return both(wide("e0", 0), wide("e1", 1), wide("e6", 6), wide("packet", 4))
}

// wrongHeadsOf are heads that don't fit a rule of a kind.
func wrongHeadsOf(kind int) []impl.Atom {
	l := []impl.Atom{wide("e0", 0), wide("e1", 1), wide("e6", 6), wide("packet", 4)}
	if kind == 1 {
		return append(l, wide("s0", 0), wide("s1", 1), wide("s6", 6))
	}
	return append(l, wide("v0", 0), wide("v1", 1), wide("v6", 6), wide("forward", 1))
}

// eachFault gives good rules one fault each: its code, the place of its literal (-1 of the head), and the rule.
func eachFault(call func(code int, at int, r impl.Rule)) {
	for _, base := range goodRules() {
		for _, code := range []int{3, 4, 6, 7} {
			for i, x := range faultLits(code) {
				for at := range base.Body {
					r := copyRule(base)
					r.Body[at] = x
					if at > 0 || code != 7 || base.Kind == 1 && base.Head.Name != "forward" {
						call(code, at, r)
					}
				}
				if code < 5 {
					r := copyRule(base)
					r.Head = faultLits(code)[i].Atom
					call(code, -1, r)
				}
			}
		}
		for _, head := range wrongHeadsOf(base.Kind) {
			r := copyRule(base)
			r.Head = head
			call(5, -1, r)
		}
	}
}

func TestNamesOfGoodRules(t *testing.T) {
	for _, r := range goodRules() {
		hasCode(t, withWords(r), 0, 0)
		hasCode(t, withWords(slices.Repeat([]impl.Rule{r}, 24)...), 0, 0)
	}
	hasCode(t, withWords(goodRules()...), 0, 0)
	hasCode(t, withWords(append(goodRules(), goodRules()...)...), 0, 0)
}

// TestNamesOfOneFault: at each place of good rules, in a program by itself, and at each place among good rules.
func TestNamesOfOneFault(t *testing.T) {
	n := 0
	eachFault(func(code int, at int, r impl.Rule) {
		hasCode(t, withWords(r), code, 0)
		n++
		l := slices.Repeat(goodRules()[:1], 24)
		l[n%24] = r
		hasCode(t, withWords(l...), code, n%24)
		l = append(goodRules(), goodRules()...)
		l[n%len(l)] = r
		hasCode(t, withWords(l...), code, n%len(l))
	})
	if n < 1000 {
		t.Errorf("only %d faults", n)
	}
}

// TestNamesOfFaultsInOneRule: of one rule the lowest code counts, wherever its faults stand.
func TestNamesOfFaultsInOneRule(t *testing.T) {
	next := scatter(1701)
	for _, kind := range []int{1, 2, 3} {
		good := []impl.Atom{wide("v1", 1), wide("s1", 1), wide("s1", 1)}[kind-1]
		for set := range 32 {
			for range 30 {
				r := ruleOf(kind, good, isLit(wide("s1", 1)), compareLit(varTerm("X"), 1, numTerm(1)))
				lowest := 0
				for i, code := range []int{7, 6, 5, 4, 3} {
					if set>>i&1 == 0 {
						continue
					}
					lowest = code
					if code == 5 {
						r.Head = wrongHeadsOf(kind)[next()%len(wrongHeadsOf(kind))]
						continue
					}
					l := faultLits(code)
					r.Body = slices.Insert(r.Body, next()%(len(r.Body)+1), l[next()%len(l)])
				}
				// A rule with an update's head needs an event ahead of all; another one ahead of it would be a fault of its own.
				if kind > 1 {
					r.Body = slices.Insert(r.Body, 0, isLit(wide("e1", 1)))
				}
				hasCode(t, withWords(r), lowest, 0)
			}
		}
	}
}

// TestNamesOfFaultsInTwoRules: the earlier rule counts, whatever its code; and a declaration ahead of all rules.
func TestNamesOfFaultsInTwoRules(t *testing.T) {
	next := scatter(1702)
	byCode := map[int][]impl.Rule{}
	eachFault(func(code int, at int, r impl.Rule) { byCode[code] = append(byCode[code], r) })
	for first := 3; first <= 7; first++ {
		for second := 3; second <= 7; second++ {
			for range 40 {
				l := slices.Repeat(goodRules(), 2)
				j := 1 + next()%(len(l)-1)
				i := next() % j
				l[i] = byCode[first][next()%len(byCode[first])]
				l[j] = byCode[second][next()%len(byCode[second])]
				p := withWords(l...)
				hasCode(t, p, first, i)
				hasCode(t, withWords(l[i+1:]...), second, j-i-1)
				at := next() % len(p.Decls)
				p.Decls[at].Name = []string{"packet", "forward"}[next()%2]
				hasCode(t, p, 2, at)
				p.Decls = slices.Insert(wordsOf(), 1+at, wordsOf()[at])
				hasCode(t, p, 2, at+1)
				p.Rules[next()%len(l)].Kind = 4 * (next() % 2)
				hasCode(t, p, 1, 0)
			}
		}
	}
}

// TestNamesInEachPlace: as many declarations, rules and literals as there may be, with a fault at each place in turn.
func TestNamesInEachPlace(t *testing.T) {
	full := impl.Program{}
	for i := range 16 {
		full.Decls = append(full.Decls, declOf(1+i%3, nthName(i), i%7))
	}
	for i := range 24 {
		d := full.Decls[3*(i%5)+2]
		r := ruleOf(1, wide(d.Name, d.Arity))
		for j := range 8 {
			r.Body = append(r.Body, isLit(wide(full.Decls[3*(j%5)].Name, full.Decls[3*(j%5)].Arity)))
		}
		full.Rules = append(full.Rules, r)
	}
	hasCode(t, full, 0, 0)
	for i := range 16 {
		for _, name := range []string{"packet", "forward"} {
			p := copyProgram(full)
			p.Decls[i].Name = name
			hasCode(t, p, 2, i)
		}
		for j := range i {
			p := copyProgram(full)
			p.Decls[i].Name = p.Decls[j].Name
			hasCode(t, p, 2, i)
		}
	}
	for i := range 24 {
		for j := range 8 {
			for _, code := range []int{3, 6, 7} {
				p := copyProgram(full)
				p.Rules[i].Body[j] = map[int]impl.Lit{3: isLit(wide("x", 0)), 6: notLit(wide("forward", 1)), 7: isLit(wide("packet", 4))}[code]
				hasCode(t, p, code, i)
			}
			p := copyProgram(full)
			p.Rules[i].Body[j].Atom = wide("n00", 1)
			hasCode(t, p, 4, i)
		}
		p := copyProgram(full)
		p.Rules[i].Head = wide("n00", 0)
		hasCode(t, p, 5, i)
		p.Rules[i].Head = wide("n00", 1)
		hasCode(t, p, 4, i)
		p.Rules[i].Head = wide("n16", 0)
		hasCode(t, p, 3, i)
	}
	for _, n := range []int{17, 18, 100, 10000} {
		hasCode(t, impl.Program{Decls: slices.Repeat(full.Decls[:1], n), Rules: full.Rules}, 1, 0)
	}
	for _, n := range []int{25, 26, 100, 10000} {
		hasCode(t, impl.Program{Decls: full.Decls, Rules: slices.Repeat(full.Rules[:1], n)}, 1, 0)
	}
	p := copyProgram(full)
	p.Rules[23].Body = append(p.Rules[23].Body, p.Rules[23].Body[0])
	hasCode(t, p, 1, 0)
}

// TestNamesTwice: each two declarations of one name, with others between them or not, of each two kinds and arities.
func TestNamesTwice(t *testing.T) {
	for _, first := range []int{1, 2, 3} {
		for _, second := range []int{1, 2, 3} {
			for arity := range 7 {
				a, b := declOf(first, "a", 1), declOf(second, "a", arity)
				hasCode(t, declsOf(a, b), 2, 1)
				hasCode(t, declsOf(a, b, b), 2, 1)
				hasCode(t, declsOf(a, declOf(1, "packet", 4), b), 2, 1)
				hasCode(t, declsOf(a, b, declOf(1, "packet", 4)), 2, 1)
				for gap := range 15 {
					l := []impl.Decl{a}
					for i := range gap {
						l = append(l, declOf(1+i%3, nthName(i), 1))
					}
					hasCode(t, declsOf(l...), 0, 0)
					hasCode(t, declsOf(append(l, b)...), 2, gap+1)
					slices.Reverse(l)
					hasCode(t, declsOf(append(l, b)...), 2, gap+1)
				}
			}
		}
	}
	// Names that are alike only in part aren't alike.
	l := []impl.Decl{}
	for _, name := range []string{"a", "aa", "a0", "a00", "aaaaaaaaaaaa", "aaaaaaaaaaab", "aaaaaaaaaaa", "b", "packet0", "packe", "forward0", "forwar", "apacket", "aforward", "packetpacket", "p"} {
		l = append(l, declOf(1+len(l)%3, name, len(name)%7))
	}
	hasCode(t, declsOf(l...), 0, 0)
}

// TestNamesGiven: packet and forward with each number of terms, of each kind, at each place among others.
func TestNamesGiven(t *testing.T) {
	for _, name := range []string{"packet", "forward"} {
		for kind := 1; kind <= 3; kind++ {
			for arity := range 7 {
				d := declOf(kind, name, arity)
				hasCode(t, declsOf(d), 2, 0)
				hasCode(t, declsOf(d, d), 2, 0)
				for at := range len(wordsOf()) + 1 {
					hasCode(t, impl.Program{Decls: slices.Insert(wordsOf(), at, d), Rules: goodRules()}, 2, at)
				}
			}
		}
		for n := range 8 {
			a := wide(name, n)
			is := n == map[string]int{"packet": 4, "forward": 1}[name]
			for _, lit := range []impl.Lit{isLit(a), notLit(a)} {
				want := 4
				switch {
				case n == 7:
					want = 1
				case is && name == "forward":
					want = 6
				case is:
					want = 7
				}
				hasCode(t, withWords(ruleOf(1, wide("v0", 0), lit)), want, 0)
				hasCode(t, withWords(ruleOf(1, wide("forward", 1), isLit(wide("packet", 4)), lit)), want, 0)
				hasCode(t, withWords(ruleOf(2, wide("s0", 0), isLit(wide("e0", 0)), lit)), want, 0)
			}
			for kind := 1; kind <= 3; kind++ {
				want := 4
				switch {
				case n == 7:
					want = 1
				case is && name == "forward" && kind == 1:
					want = 0
				case is:
					want = 5
				}
				hasCode(t, withWords(ruleOf(kind, a, isLit(wide("packet", 4)))), want, 0)
				hasCode(t, rulesOf(ruleOf(kind, a, isLit(wide("packet", 4)))), want, 0)
			}
		}
	}
}

// TestNamesTermCounts: each declared name with each number of terms, as the head, and as a literal in each place.
func TestNamesTermCounts(t *testing.T) {
	for arity := range 7 {
		p := declsOf(declOf(3, "a", arity), declOf(1, "b", arity), declOf(2, "c", arity), declOf(3, "d", 0))
		for n := range 8 {
			code := 4
			switch n {
			case arity:
				code = 0
			case 7:
				code = 1
			}
			place := btoi(code == 4)
			for at := range 8 {
				for _, lit := range []impl.Lit{isLit(wide("a", n)), notLit(wide("a", n)), isLit(wide("b", n)), notLit(wide("b", n))} {
					body := slices.Repeat([]impl.Lit{notLit(wide("d", 0))}, 8)
					body[at] = lit
					p.Rules = []impl.Rule{ruleOf(1, wide("d", 0)), ruleOf(1, wide("d", 0), body...)}
					hasCode(t, p, code, place)
				}
			}
			p.Rules = []impl.Rule{ruleOf(1, wide("d", 0)), ruleOf(1, wide("a", n))}
			hasCode(t, p, code, place)
			p.Rules = []impl.Rule{ruleOf(1, wide("d", 0)), ruleOf(2, wide("b", n), isLit(wide("packet", 4)))}
			hasCode(t, p, code, place)
			p.Rules = []impl.Rule{ruleOf(1, wide("d", 0)), ruleOf(3, wide("b", arity), isLit(wide("c", n)))}
			hasCode(t, p, code, place)
		}
	}
}

func btoi(is bool) int {
	if is {
		return 1
	}
	return 0
}

// TestNamesWithoutRulesOrDecls: programs that lack one list, or both, or have them without elements.
func TestNamesWithoutRulesOrDecls(t *testing.T) {
	for _, p := range []impl.Program{{}, {Decls: []impl.Decl{}}, {Rules: []impl.Rule{}}, {Decls: []impl.Decl{}, Rules: []impl.Rule{}}, declsOf(wordsOf()...)} {
		hasCode(t, p, 0, 0)
		for kind := -1; kind < 6; kind++ {
			checkEmptyStore(t, p, kind)
		}
		hasDecl(t, p, "x", impl.Decl{}, false)
	}
	for _, r := range goodRules() {
		want := 3
		if r.Head.Name == "forward" && len(r.Body) == 1 {
			want = 0
		}
		hasCode(t, rulesOf(r), want, 0)
		hasCode(t, impl.Program{Decls: []impl.Decl{}, Rules: []impl.Rule{r}}, want, 0)
		if len(r.Body) == 0 {
			hasCode(t, withWords(impl.Rule{Kind: r.Kind, Head: r.Head, Body: []impl.Lit{}}), 0, 0)
		}
	}
	for kind := 1; kind <= 3; kind++ {
		for _, body := range [][]impl.Lit{nil, {}} {
			for _, c := range []struct {
				head impl.Atom
				code [3]int
			}{
				{impl.Atom{Name: "v0", Args: []impl.Term{}}, [3]int{0, 5, 5}}, {impl.Atom{Name: "s0", Args: []impl.Term{}}, [3]int{5, 7, 7}}, {wide("e1", 1), [3]int{5, 5, 5}},
				{wide("forward", 1), [3]int{7, 5, 5}}, {wide("packet", 4), [3]int{5, 5, 5}}, {wide("x", 0), [3]int{3, 3, 3}},
			} {
				hasCode(t, withWords(impl.Rule{Kind: kind, Head: c.head, Body: body}), c.code[kind-1], 0)
			}
		}
	}
}

// TestNamesOfWhatIsWrong: whatever other faults there are, a program that isn't right has the code 1 at 0, no declarations and no stores.
func TestNamesOfWhatIsWrong(t *testing.T) {
	n := 0
	wrong := func(p impl.Program) {
		t.Helper()
		n++
		hasCode(t, p, 1, 0)
		hasStore(t, p, 1+n%3)
		if len(p.Decls) > 0 {
			hasDecl(t, p, p.Decls[n%len(p.Decls)].Name, impl.Decl{}, false)
		}
	}
	// With faults that would have the codes 2 to 7 ahead of it and behind.
	among := func(p impl.Program) {
		t.Helper()
		wrong(joined(declsOf(declOf(1, "packet", 1)), p, rulesOf(ruleOf(1, wide("x", 0)), ruleOf(2, wide("forward", 1)))))
	}
	for i, d := range wrongDecls() {
		wrong(declsOf(d))
		among(declsOf(d))
		p := withWords(goodRules()...)
		p.Decls[i%len(p.Decls)] = d
		wrong(p)
		p.Decls = slices.Insert(wordsOf(), i%len(p.Decls), d)
		wrong(p)
	}
	for i, r := range wrongRules() {
		hasCode(t, rulesOf(r), 1, 0)
		if len(r.Body) > 100 || len(r.Head.Args) > 100 {
			continue
		}
		among(rulesOf(r))
		p := withWords(goodRules()...)
		p.Rules[i%len(p.Rules)] = r
		wrong(p)
	}
	if n < 1000 {
		t.Errorf("only %d were wrong", n)
	}
	// A comparison has no atom, whatever its name.
	for _, a := range usualAtoms() {
		x := compareLit(varTerm("X"), 1, varTerm("X"))
		x.Atom = a
		hasCode(t, withWords(ruleOf(1, wide("v0", 0), x)), 1, 0)
		hasCode(t, withWords(ruleOf(1, wide("forward", 1), isLit(wide("packet", 4)), x)), 1, 0)
		hasCode(t, withWords(ruleOf(2, wide("s0", 0), x)), 1, 0)
	}
}

// TestNamesStrange: names that are very long, or no UTF-8, or no words, as names of atoms and declarations and as what is asked for.
func TestNamesStrange(t *testing.T) {
	p := withWords(goodRules()...)
	for _, s := range append(wrongNameTexts(), strangeTexts()...) {
		hasCode(t, declsOf(declOf(1, s, 1)), 1, 0)
		hasCode(t, withWords(ruleOf(1, wide(s, 1))), 1, 0)
		hasCode(t, withWords(ruleOf(1, wide("v0", 0), isLit(wide(s, 1)))), 1, 0)
		hasDecl(t, p, s, impl.Decl{}, false)
		hasDecl(t, declsOf(declOf(1, s, 1)), s, impl.Decl{}, false)
		for _, name := range []string{"s1" + s, s + "s1"} {
			if s != "" {
				hasDecl(t, p, name, impl.Decl{}, false)
			}
		}
		hasStore(t, declsOf(declOf(1, "a", 1), declOf(1, s, 1)), 1)
	}
}

func TestNamesFarNumbers(t *testing.T) {
	for _, n := range append(farNums(), -1, 7, 256+1, 1<<32+1, math.MaxInt32, math.MinInt32) {
		for i := range wordsOf() {
			p := withWords(goodRules()...)
			p.Decls[i].Arity = n
			hasCode(t, p, 1, 0)
			p = withWords(goodRules()...)
			p.Decls[i].Kind = n
			hasCode(t, p, 1, 0)
			hasDecl(t, p, p.Decls[0].Name, impl.Decl{}, false)
			hasStore(t, p, n)
			hasStore(t, p, 1)
		}
		for i, r := range goodRules() {
			p := withWords(goodRules()...)
			p.Rules[i].Kind = n
			hasCode(t, p, 1, 0)
			for j := range r.Body {
				p = withWords(goodRules()...)
				p.Rules[i].Body[j].Kind = n
				hasCode(t, p, 1, 0)
				p = withWords(goodRules()...)
				p.Rules[i].Body[j].Op = n
				hasCode(t, p, 1, 0)
			}
		}
		want := btoi(n < 0 || n > impl.MaxNum)
		base := goodRules()[4]
		for at := range termPlaces(&base) {
			r := copyRule(base)
			*termPlaces(&r)[at] = numTerm(n)
			hasCode(t, withWords(r), want, 0)
		}
		hasStore(t, withWords(goodRules()...), n)
	}
}

func TestDeclOfByHand(t *testing.T) {
	p := readProgram(t, "state b/1. event e/2. state a/3. view b/4. view packet/0. +x(1).")
	hasDecl(t, p, "b", declOf(1, "b", 1), true)
	hasDecl(t, p, "e", declOf(2, "e", 2), true)
	hasDecl(t, p, "a", declOf(1, "a", 3), true)
	hasDecl(t, p, "packet", declOf(3, "packet", 0), true)
	for _, name := range []string{"forward", "x", "", "bb", "B", "b ", "state", "not", "\x00", "b\x00"} {
		hasDecl(t, p, name, impl.Decl{}, false)
	}
	p.Rules[0].Kind = 0
	hasDecl(t, p, "b", impl.Decl{}, false)
	hasDecl(t, impl.Program{}, "", impl.Decl{}, false)
	hasDecl(t, declsOf(impl.Decl{}), "", impl.Decl{}, false)
	hasDecl(t, declsOf(declOf(1, "", 1)), "", impl.Decl{}, false)
	hasDecl(t, declsOf(declOf(1, "a", 1), impl.Decl{}), "a", impl.Decl{}, false)
	hasDecl(t, declsOf(declOf(1, "a", 7)), "a", impl.Decl{}, false)
	hasDecl(t, declsOf(declOf(1, "state", 1)), "state", impl.Decl{}, false)
	for _, name := range []string{"packet", "forward"} {
		hasDecl(t, withWords(goodRules()...), name, impl.Decl{}, false)
		for kind := 1; kind <= 3; kind++ {
			for arity := range 7 {
				hasDecl(t, declsOf(declOf(1, "a", 1), declOf(kind, name, arity)), name, declOf(kind, name, arity), true)
			}
		}
	}
}

// TestDeclOfEach: of each number of declarations each one, whatever the rules are that stand behind them.
func TestDeclOfEach(t *testing.T) {
	for n := range 17 {
		p := rulesOf(ruleOf(1, wide("x", 1)), ruleOf(2, wide("forward", 0)))
		for i := range n {
			p.Decls = append(p.Decls, declOf(1+i%3, nthName(n-i), i%7))
		}
		for _, d := range p.Decls {
			hasDecl(t, p, d.Name, d, true)
		}
		hasDecl(t, p, nthName(0), impl.Decl{}, false)
		hasDecl(t, p, nthName(n+1), impl.Decl{}, false)
		hasDecl(t, p, "", impl.Decl{}, false)
		for i := range n {
			for j := range i {
				twice := copyProgram(p)
				twice.Decls[i].Name = twice.Decls[j].Name
				hasDecl(t, twice, twice.Decls[j].Name, twice.Decls[j], true)
			}
		}
	}
	hasDecl(t, declsOf(slices.Repeat([]impl.Decl{declOf(1, "a", 1)}, 17)...), "a", impl.Decl{}, false)
}

func TestEmptyStoreByHand(t *testing.T) {
	p := readProgram(t, "state b/1. event e/2. state a/3. view z/6. state c/0. view y/0. view aa/1. +b(X) :- e(X, Y).")
	hasStore(t, p, 1, named("a", impl.Rel{Arity: 3}), named("b", impl.Rel{Arity: 1}), named("c", impl.Rel{}))
	hasStore(t, p, 2, named("e", impl.Rel{Arity: 2}))
	hasStore(t, p, 3, named("aa", impl.Rel{Arity: 1}), named("y", impl.Rel{}), named("z", impl.Rel{Arity: 6}))
	for _, kind := range append(farNums(), -1, 0, 4, 5, 6, 256+1, 1<<32+1) {
		hasStore(t, p, kind)
	}
	for kind := 1; kind <= 3; kind++ {
		for only := 1; only <= 3; only++ {
			want := []impl.Named{}
			if only == kind {
				want = append(want, named("a", impl.Rel{Arity: 1}), named("b", impl.Rel{Arity: 2}))
			}
			hasStore(t, declsOf(declOf(only, "b", 2), declOf(only, "a", 1)), kind, want...)
		}
		hasStore(t, impl.Program{}, kind)
		hasStore(t, rulesOf(ruleOf(1, wide("forward", 1), isLit(wide("packet", 4)))), kind)
	}
}

// TestEmptyStoreOfEachCode: of a program with a code other than 0 there is none.
func TestEmptyStoreOfEachCode(t *testing.T) {
	for _, c := range []struct {
		text string
		code int
	}{
		{"state a/1. state packet/4.", 2}, {"state a/1. view a/1.", 2}, {"state a/1. event b/1. event b/1.", 2},
		{"state a/1. x().", 3}, {"state a/1. +a().", 4}, {"state a/1. a(1).", 5}, {"state a/1. view v/0. v() :- forward(1).", 6}, {"state a/1. +a(1).", 7},
	} {
		p := readProgram(t, c.text)
		if code, _ := namesCode(t, p); code != c.code {
			t.Errorf("%q has the code %d", c.text, code)
		}
		for kind := -1; kind < 6; kind++ {
			hasStore(t, p, kind)
		}
		p.Rules = nil
		p.Decls = p.Decls[:1]
		hasStore(t, p, 1, named("a", impl.Rel{Arity: 1}))
	}
	n := 0
	eachFault(func(code int, at int, r impl.Rule) {
		if n++; n%9 == 0 {
			for kind := 1; kind <= 3; kind++ {
				hasStore(t, withWords(append(goodRules(), r)...), kind)
			}
		}
	})
}

// TestEmptyStoreOrder: as many declarations as there may be, of one kind, in each of many orders.
func TestEmptyStoreOrder(t *testing.T) {
	next := scatter(1703)
	for range 300 {
		names := []string{"a", "b", "aa", "a0", "a9", "ab", "z", "zzzzzzzzzzzz", "zzzzzzzzzzz", "packe", "packets", "forwards", "b0", "a00", "a10", "a1"}
		p := impl.Program{}
		kind := 1 + next()%3
		for len(names) > 0 {
			at := next() % len(names)
			p.Decls = append(p.Decls, declOf(kind, names[at], next()%7))
			names = slices.Delete(names, at, at+1)
		}
		if s := checkEmptyStore(t, p, kind); len(s.Rels) != 16 {
			t.Errorf("only %s", storeShown(s))
		}
	}
}

// scatteredDecls are declarations of which now and then one has a name that is taken.
func scatteredDecls(next func() int) []impl.Decl {
	l := []impl.Decl{}
	for range scatteredCount(next, 16) {
		name := fmt.Sprint(string("abz"[next()%3]), len(l))
		if next()%40 == 0 {
			name = append([]string{"packet", "forward", "packe"}, declNames(l)...)[next()%(3+len(l))]
		}
		l = append(l, declOf(1+next()%3, name, next()%7))
	}
	return l
}

func declNames(l []impl.Decl) []string {
	out := []string{}
	for _, d := range l {
		out = append(out, d.Name)
	}
	return out
}

// knownAtom is an atom of a name whose meaning is among these letters, if there is one; now and then another, or with other terms.
func knownAtom(next func() int, decls []impl.Decl, letters string) impl.Atom {
	p := declsOf(decls...)
	l := slices.DeleteFunc(append(declNames(decls), "packet", "forward"), func(name string) bool {
		return !strings.ContainsRune(letters, rune(meaningOf(p, name).letter))
	})
	name := "none"
	switch {
	case next()%90 == 0:
		name = append(declNames(decls), "packet", "forward", "none")[next()%(3+len(decls))]
	case len(l) > 0:
		name = l[next()%len(l)]
	}
	a := atomOf(name)
	for range meaningOf(p, name).terms {
		a.Args = append(a.Args, scatteredTerm(next))
	}
	if next()%90 == 0 {
		a.Args = scatteredAtom(next).Args
	}
	return a
}

// knownRule is mostly one without a fault.
func knownRule(next func() int, decls []impl.Decl) impl.Rule {
	r := ruleOf(1+next()%3, impl.Atom{})
	heads := []string{"vf", "s", "s"}[r.Kind-1]
	r.Head = knownAtom(next, decls, heads)
	first := ""
	switch {
	case r.Kind > 1:
		first = "pe"
	case r.Head.Name == "forward":
		first = "p"
	}
	if first != "" && next()%50 != 0 {
		r.Body = append(r.Body, isLit(knownAtom(next, decls, first)))
	}
	for range next() % 8 {
		a := knownAtom(next, decls, "sv")
		switch {
		case next()%4 == 0 || a.Name == "none":
			r.Body = append(r.Body, compareLit(scatteredTerm(next), 1+next()%4, scatteredTerm(next)))
		case next()%2 == 0:
			r.Body = append(r.Body, notLit(a))
		default:
			r.Body = append(r.Body, isLit(a))
		}
	}
	return r
}

// knownProgram has declarations of each kind more often than not, and now and then a fault of each sort.
func knownProgram(next func() int) impl.Program {
	p := declsOf(scatteredDecls(next)...)
	for i := range 3 * (next() % 6) {
		if i < 3 && len(p.Decls) < 14 {
			p.Decls = append(p.Decls, declOf(1+i, fmt.Sprint("k", i), next()%7))
		}
	}
	for range scatteredCount(next, 24) {
		p.Rules = append(p.Rules, knownRule(next, p.Decls))
	}
	if next()%30 == 0 {
		r := spoiledRule(scatteredRule(next), next)
		p.Rules = slices.Insert(p.Rules[:min(len(p.Rules), 23)], next()%(min(len(p.Rules), 23)+1), r)
	}
	return p
}

// checkAllKnown: where there is no fault, every atom's name is declared with its number of terms, or given.
func checkAllKnown(t *testing.T, p impl.Program) {
	t.Helper()
	for _, r := range p.Rules {
		for _, a := range atomsSpelled(r) {
			d, ok := impl.DeclOf(p, a.Name)
			given := a.Name == "packet" && len(a.Args) == 4 || a.Name == "forward" && len(a.Args) == 1
			if ok == given || ok && (d.Name != a.Name || d.Arity != len(a.Args)) {
				t.Errorf("%s is taken, and %s is %v", programShown(p), a.Name, d)
			}
		}
	}
	seen := map[string]bool{"packet": true, "forward": true}
	for _, d := range p.Decls {
		if got, ok := impl.DeclOf(p, d.Name); !ok || got != d || seen[d.Name] {
			t.Errorf("%s is taken, and %v is told as %v", programShown(p), d, got)
		}
		seen[d.Name] = true
	}
}

// checkStores: of each kind the store is right, and all names of the three are just the declared ones.
func checkStores(t *testing.T, p impl.Program) {
	t.Helper()
	count := 0
	for kind := 1; kind <= 3; kind++ {
		s := impl.EmptyStore(p, kind)
		count += len(s.Rels)
		for _, x := range s.Rels {
			if d, ok := impl.DeclOf(p, x.Name); !ok || d.Kind != kind || d.Arity != x.Rel.Arity || len(x.Rel.Rows) != 0 {
				t.Errorf("%s of %s is no declared one of kind %d", storeShown(s), programShown(p), kind)
			}
		}
		if !impl.StoreOk(s) {
			t.Errorf("%s isn't right", storeShown(s))
		}
		checkEmptyStore(t, p, kind)
	}
	if count != len(p.Decls) {
		t.Errorf("%d relations of %s", count, programShown(p))
	}
}

// checkFaultTaken: without the declaration or the rule at the place that fault is away, and what comes is what stands behind it.
func checkFaultTaken(t *testing.T, p impl.Program, code int, at int) {
	t.Helper()
	less := copyProgram(p)
	if code == 2 {
		less.Decls = slices.Delete(less.Decls, at, at+1)
		got, gotAt := namesCode(t, less)
		if got == 2 && gotAt < at || got == 1 {
			t.Errorf("without declaration %d of %s the code is %d at %d", at, programShown(p), got, gotAt)
		}
		return
	}
	less.Rules = slices.Delete(less.Rules, at, at+1)
	got, gotAt := namesCode(t, less)
	less.Rules = p.Rules[at+1:]
	behind, behindAt := namesCode(t, less)
	if got != behind || got != 0 && gotAt != at+behindAt {
		t.Errorf("without rule %d of %s the code is %d at %d, of the rules behind it %d at %d", at, programShown(p), got, gotAt, behind, behindAt)
	}
	less.Rules = p.Rules[:at]
	if got, _ := namesCode(t, less); got != 0 {
		t.Errorf("the rules ahead of rule %d of %s have the code %d", at, programShown(p), got)
	}
	less.Rules = p.Rules[at : at+1]
	if got, _ := namesCode(t, less); got != code {
		t.Errorf("rule %d of %s has the code %d by itself, not %d", at, programShown(p), got, code)
	}
}

// checkOrderIsFree: neither the order of the declarations, where none is a fault, nor that of the later literals changes anything, nor does a comparison behind the first.
func checkOrderIsFree(t *testing.T, p impl.Program, code int, at int) {
	t.Helper()
	turned := copyProgram(p)
	slices.Reverse(turned.Decls)
	for i, r := range turned.Rules {
		if len(r.Body) > 0 {
			slices.Reverse(r.Body[1:])
		}
		if len(r.Body) > 0 && len(r.Body) < 8 {
			turned.Rules[i].Body = append(r.Body, compareLit(wordTerm("packet"), 2, varTerm("X")))
		}
	}
	if got, gotAt := namesCode(t, turned); got != code || gotAt != at {
		t.Errorf("%s has the code %d at %d, turned round %d at %d", programShown(p), code, at, got, gotAt)
	}
}

func TestManyNames(t *testing.T) {
	next := scatter(1704)
	codes := map[int]int{}
	for range 3000 {
		p := knownProgram(next)
		code, at := namesCode(t, p)
		codes[code]++
		switch {
		case code == 0:
			checkAllKnown(t, p)
			checkStores(t, p)
		case code > 1:
			checkFaultTaken(t, p, code, at)
			hasStore(t, p, 1+next()%3)
		}
		if code == 0 || code > 2 {
			checkOrderIsFree(t, p, code, at)
		}
		l := append(declNames(p.Decls), "packet", "forward", "", "none")
		checkDeclOf(t, p, l[next()%len(l)])
	}
	for code := range 8 {
		if codes[code] < 30 || codes[0] < 500 {
			t.Errorf("the codes come so often: %v", codes)
		}
	}
}

// TestManyNamesPrinted: what is printed and read again has the same code at the same place.
func TestManyNamesPrinted(t *testing.T) {
	next := scatter(1705)
	read := 0
	for range 3000 {
		p := knownProgram(next)
		text, ok := impl.PrintProgram(p)
		if !ok {
			continue
		}
		read++
		code, at := impl.CheckNames(p)
		again, gotAt := impl.CheckNames(readProgram(t, text))
		if code != again || at != gotAt {
			t.Errorf("%s has the code %d at %d, read again %d at %d", shortShown(text), code, at, again, gotAt)
		}
	}
	if read < 2000 {
		t.Errorf("only %d were read", read)
	}
}

// TestManyNamesScattered: programs and stores of whatever names there are, right and wrong.
func TestManyNamesScattered(t *testing.T) {
	next := scatter(1706)
	for range 4000 {
		p := scatteredProgram(next, 16, 6)
		if len(p.Rules) > 0 && next()%2 == 0 {
			at := next() % len(p.Rules)
			p.Rules[at] = spoiledRule(p.Rules[at], next)
		}
		if len(p.Decls) > 0 && next()%3 == 0 {
			d := &p.Decls[next()%len(p.Decls)]
			d.Arity += next()%9 - 4
			d.Kind += next()%3 - 1
		}
		namesCode(t, p)
		checkEmptyStore(t, p, next()%6-1)
		l := append(declNames(p.Decls), "packet", "forward", "")
		checkDeclOf(t, p, l[next()%len(l)])
	}
}

// TestNamesApart: what is written into one store is seen in no other, and in no program.
func TestNamesApart(t *testing.T) {
	p := withWords(goodRules()...)
	for kind := 1; kind <= 3; kind++ {
		first, second := impl.EmptyStore(p, kind), impl.EmptyStore(p, kind)
		for i := range first.Rels[:cap(first.Rels)] {
			first.Rels[:cap(first.Rels)][i] = named("spoiled", numRel(9))
		}
		want := emptyStoreSpelled(withWords(goodRules()...), kind)
		if !sameStore(second, want) || !sameStore(impl.EmptyStore(p, kind), want) || !sameProgram(p, withWords(goodRules()...)) {
			t.Errorf("an answer was changed through another: %s", storeShown(second))
		}
	}
}

// TestNamesKeepNothingOfTheTexts: the names given stand in bytes that are changed behind the calls.
func TestNamesKeepNothingOfTheTexts(t *testing.T) {
	decl, asked := []byte("linked"), []byte("linked")
	p := declsOf(declOf(1, unsafeText(decl), 2))
	d, ok := impl.DeclOf(p, unsafeText(asked))
	s := impl.EmptyStore(p, 1)
	for i := range decl {
		decl[i], asked[i] = '?', '!'
	}
	if !ok || d != declOf(1, "linked", 2) || !sameStore(s, storeOf(named("linked", impl.Rel{Arity: 2}))) {
		t.Errorf("a name shares memory with what was given: %v, %s", d, storeShown(s))
	}
}
