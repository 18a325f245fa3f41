package tests

import (
	"fmt"
	"slices"
	"strings"
	"testing"

	"loop.example/g00391/impl"
)

// boundSpelled looks for a way from a variable to a LitIs that has it or, by equalities, to a value or a variable that has such a way, past none twice.
func boundSpelled(r impl.Rule, name string, passed ...string) bool {
	for _, x := range r.Body {
		switch {
		case x.Kind == 1:
			if slices.Contains(x.Atom.Args, varTerm(name)) {
				return true
			}
		case x.Kind == 3 && x.Op == 1:
			for _, c := range [][2]impl.Term{{x.A, x.B}, {x.B, x.A}} {
				if c[0].Var == name && leadsOn(r, c[1], slices.Concat(passed, []string{name})) {
					return true
				}
			}
		}
	}
	return false
}

func leadsOn(r impl.Rule, other impl.Term, passed []string) bool {
	return other.Var == "" || !slices.Contains(passed, other.Var) && boundSpelled(r, other.Var, passed...)
}

// boundVarsSpelled, looseVarsSpelled and checkSafeSpelled are the three functions by the document's words.
func boundVarsSpelled(r impl.Rule) []string {
	return slices.DeleteFunc(varsSpelled(r), func(name string) bool { return !boundSpelled(r, name) })
}

func looseVarsSpelled(r impl.Rule) []string {
	return slices.DeleteFunc(varsSpelled(r), func(name string) bool { return boundSpelled(r, name) })
}

func checkSafeSpelled(p impl.Program) int {
	if !programRight(p) {
		return -2
	}
	for i, r := range p.Rules {
		if len(looseVarsSpelled(r)) > 0 {
			return i
		}
	}
	return -1
}

// checkRising: the variables of both answers are all there are, and no answer has one twice.
func checkRising(t *testing.T, r impl.Rule, bound []string, loose []string) {
	t.Helper()
	for _, l := range [][]string{bound, loose} {
		for i := range len(l) - 1 {
			if !bytesBefore(l[i], l[i+1]) {
				t.Errorf("%s has the variables %q, which don't rise", ruleShown(r), l)
			}
		}
	}
	both := slices.Sorted(slices.Values(slices.Concat(bound, loose)))
	if !slices.Equal(both, varsSpelled(r)) || !slices.Equal(both, impl.VarsOf(r)) {
		t.Errorf("%s has %q bound and %q loose", ruleShown(r), bound, loose)
	}
}

// checkBound holds BoundVars and LooseVars against the document's words, twice each, looks at the memory of all four answers, and asks CheckSafe of the rule alone.
func checkBound(t *testing.T, r impl.Rule) ([]string, []string) {
	t.Helper()
	wantBound, wantLoose := boundVarsSpelled(r), looseVarsSpelled(r)
	underRule(t, r, func(arg impl.Rule) {
		t.Helper()
		bound, loose := impl.BoundVars(arg), impl.LooseVars(arg)
		boundAgain, looseAgain := impl.BoundVars(arg), impl.LooseVars(arg)
		if !slices.Equal(bound, wantBound) || !slices.Equal(boundAgain, wantBound) {
			t.Errorf("BoundVars of %s: %q, then %q, not %q", ruleShown(arg), bound, boundAgain, wantBound)
		}
		if !slices.Equal(loose, wantLoose) || !slices.Equal(looseAgain, wantLoose) {
			t.Errorf("LooseVars of %s: %q, then %q, not %q", ruleShown(arg), loose, looseAgain, wantLoose)
		}
		checkApart(t, spots(bound), spots(boundAgain))
		checkApart(t, spots(loose), spots(looseAgain))
		checkApart(t, spots(bound), spots(loose))
		checkRising(t, arg, bound, loose)
	})
	checkSafe(t, rulesOf(r))
	return wantBound, wantLoose
}

// checkSafe holds CheckSafe against the document's words, twice.
func checkSafe(t *testing.T, p impl.Program) int {
	t.Helper()
	want := checkSafeSpelled(p)
	underProgram(t, p, func(arg impl.Program) {
		t.Helper()
		for range 2 {
			if got := impl.CheckSafe(arg); got != want {
				t.Errorf("CheckSafe of %s: %d, not %d", programShown(p), got, want)
			}
		}
	})
	return want
}

// hasBound, hasSafe and isNoRule are for what is told by hand, so that the document's words written out are held against it too. The variables are told in one text, the bound ones ahead of a '|'.
func hasBound(t *testing.T, r impl.Rule, want string) {
	t.Helper()
	bound, loose := checkBound(t, r)
	if got := strings.Join(bound, " ") + "|" + strings.Join(loose, " "); got != want {
		t.Errorf("the words written out give %s the variables %s, not %s", ruleShown(r), got, want)
	}
	if safe := checkSafe(t, rulesOf(r)); safe != btoi(strings.HasSuffix(want, "|"))*-1 {
		t.Errorf("the words written out answer %d of %s", safe, ruleShown(r))
	}
}

func hasSafe(t *testing.T, p impl.Program, want int) {
	t.Helper()
	if got := checkSafe(t, p); got != want {
		t.Errorf("the words written out answer %d of %s, not %d", got, programShown(p), want)
	}
}

func isNoRule(t *testing.T, r impl.Rule) {
	t.Helper()
	if bound, loose := checkBound(t, r); len(bound) > 0 || len(loose) > 0 {
		t.Errorf("the words written out give %s, no rule, the variables %q and %q", ruleShown(r), bound, loose)
	}
	hasSafe(t, rulesOf(r), -2)
}

// readRule is the one rule of a text.
func readRule(t *testing.T, text string) impl.Rule {
	t.Helper()
	p := readProgram(t, text)
	if len(p.Rules) != 1 {
		t.Fatalf("%q has %d rules", text, len(p.Rules))
	}
	return p.Rules[0]
}

func TestBoundByHand(t *testing.T) {
	for _, c := range [][2]string{
		// Without a body nothing is bound.
		{"a().", "|"},
		{"a(1, b, 0).", "|"},
		{"a(X).", "|X"},
		{"+a(X, X, 1, X).", "|X"},
		{"-a(F, E, D, C, B, A).", "|A B C D E F"},
		// Where a variable stands alone.
		{"a() :- b(X).", "X|"},
		{"a() :- not b(X).", "|X"},
		{"a() :- b(1, c), not d(2, e).", "|"},
		{"a() :- X != 1.", "|X"},
		{"a() :- X < 1.", "|X"},
		{"a() :- 1 <= X.", "|X"},
		{"a() :- X = 1.", "X|"},
		{"a() :- 1 = X.", "X|"},
		{"a() :- X = c.", "X|"},
		{"a() :- c = X.", "X|"},
		{"a() :- X = 0.", "X|"},
		{"a() :- X = X.", "|X"},
		{"a() :- X != X.", "|X"},
		{"a() :- X = Y.", "|X Y"},
		{"a() :- X <= Y.", "|X Y"},
		{"a() :- 1 = 1, 1 = 2, b = 1.", "|"},
		// With what binds the other side, ahead and behind.
		{"a() :- b(X), X = Y.", "X Y|"},
		{"a() :- b(X), Y = X.", "X Y|"},
		{"a() :- X = Y, b(X).", "X Y|"},
		{"a() :- Y = X, b(X).", "X Y|"},
		{"a() :- b(X), X != Y.", "X|Y"},
		{"a() :- b(X), Y < X.", "X|Y"},
		{"a() :- X <= Y, b(X).", "X|Y"},
		{"a() :- b(X), not c(Y), X = Y.", "X Y|"},
		{"a() :- not b(X), X = Y.", "|X Y"},
		{"a() :- not b(X), X = Y, Y = 1.", "X Y|"},
		{"a(X) :- not b(X), c(X).", "X|"},
		{"a(X) :- X < 1, X = 2.", "X|"},
		// Chains and circles.
		{"a() :- X = 1, X = Y, Y = Z.", "X Y Z|"},
		{"a() :- Z = Y, Y = X, 1 = X.", "X Y Z|"},
		{"a() :- X = Y, Y = Z, Z = X.", "|X Y Z"},
		{"a() :- X = Y, Y = X.", "|X Y"},
		{"a() :- X = Y, Y = Z, Z = X, b(Y).", "X Y Z|"},
		{"a() :- X = Y, Y = Z, Z = X, c = Z.", "X Y Z|"},
		{"a() :- X = Y, Y = Z, Z = X, c != Z.", "|X Y Z"},
		{"a() :- X = Y, Y = Z, Z < U, U = 1.", "U|X Y Z"},
		{"a(V) :- X = Y, Z = U, b(U), not c(V).", "U Z|V X Y"},
		// Whatever the rule's kind and its names are.
		{"+a(X) :- packet(X, Y, X, Y), Z != 1.", "X Y|Z"},
		{"-forward(X) :- forward(X), not packet(Y).", "X|Y"},
		{"v(X, Y) :- p(X), Z = X, Y = Z, W != 3, not q(U), 5 = T.", "T X Y Z|U W"},
		{"a(X10, X9, X, Xa, XA, X0) :- b(X9, Xa, X0).", "X0 X9 Xa|X X10 XA"},
		{"a(ABCDEFGHIJKL, ABCDEFGHIJK) :- ABCDEFGHIJKL = 281474976710655.", "ABCDEFGHIJKL|ABCDEFGHIJK"},
	} {
		hasBound(t, readRule(t, c[0]), c[1])
	}
}

// TestBoundNamesAreNoValues: a word that is written as a variable is, in other letters, doesn't bind it.
func TestBoundNamesAreNoValues(t *testing.T) {
	hasBound(t, ruleOf(1, atomOf("x", varTerm("X")), isLit(atomOf("x", wordTerm("x")))), "|X")
	hasBound(t, ruleOf(1, atomOf("a"), compareLit(varTerm("X"), 1, varTerm("Y")), compareLit(wordTerm("x"), 1, wordTerm("y"))), "|X Y")
	hasBound(t, ruleOf(1, atomOf("a"), compareLit(varTerm("X"), 1, varTerm("XX")), isLit(atomOf("b", varTerm("XXX"), varTerm("Xx")))), "XXX Xx|X XX")
	hasBound(t, ruleOf(1, atomOf("a", varTerm("X")), compareLit(impl.Term{}, 1, varTerm("X"))), "X|")
	hasBound(t, ruleOf(1, atomOf("a", varTerm("X")), compareLit(impl.Term{}, 1, impl.Term{})), "|X")
}

// sides are terms that may stand in a comparison beside a variable: values, a variable that a literal behind or ahead of it binds, one that nothing binds, one that only a LitNot, a head or another comparison has, and the same one.
func sides() []impl.Term {
	return []impl.Term{numTerm(0), numTerm(1), wordTerm("a"), varTerm("Bound"), varTerm("Equal"), varTerm("Never"), varTerm("Denied"), varTerm("Told"), varTerm("Less"), varTerm("X")}
}

// TestBoundByEachComparison has X on either side of each Op, with each other side, at each place of a body that binds Bound and Equal alone.
func TestBoundByEachComparison(t *testing.T) {
	base := readRule(t, "a(Told) :- Equal = 7, not b(Denied), c(1, Bound), Less < 2.")
	for op := 1; op <= 4; op++ {
		for _, x := range sides() {
			for _, c := range []impl.Lit{compareLit(varTerm("X"), op, x), compareLit(x, op, varTerm("X"))} {
				for at := range len(base.Body) + 1 {
					r := copyRule(base)
					r.Body = slices.Insert(r.Body, at, c)
					bound, loose := checkBound(t, r)
					want := op == 1 && (x.Var == "" || x.Var == "Bound" || x.Var == "Equal")
					if slices.Contains(bound, "X") != want || slices.Contains(loose, "X") == want || !slices.Contains(bound, "Bound") || slices.Contains(bound, "Told") {
						t.Errorf("%s has %q bound", ruleShown(r), bound)
					}
				}
			}
		}
	}
}

// chain has n equalities, the first one with an end of the chain, each of the others with the variable that the one ahead has; of those whose bit is set the sides are changed.
func chain(end impl.Term, n int, turned int) []impl.Lit {
	l := []impl.Lit{}
	for i := range n {
		next := varTerm(fmt.Sprint("V", i))
		if turned>>i&1 == 0 {
			l = append(l, compareLit(end, 1, next))
		} else {
			l = append(l, compareLit(next, 1, end))
		}
		end = next
	}
	return l
}

func chained(n int) []string {
	l := []string{}
	for i := range n {
		l = append(l, fmt.Sprint("V", i))
	}
	return l
}

// eachOrder tells each order of a list.
func eachOrder[E any](l []E, call func(l []E)) {
	var further func(taken []E, left []E)
	further = func(taken []E, left []E) {
		if len(left) == 0 {
			call(taken)
		}
		for i, x := range left {
			further(append(slices.Clone(taken), x), slices.Delete(slices.Clone(left), i, i+1))
		}
	}
	further(nil, l)
}

// chainIs asks that just the variables of a chain are bound in a body, or none.
func chainIs(t *testing.T, body []impl.Lit, n int, bound bool) {
	t.Helper()
	want := [2]string{}
	want[btoi(!bound)] = strings.Join(chained(n), " ")
	hasBound(t, ruleOf(1, atomOf("a"), body...), want[0]+"|"+want[1])
}

// TestBoundByChains: of each length, in the order of the body, against it, with changed sides, with one link that is no equality.
func TestBoundByChains(t *testing.T) {
	next := scatter(1801)
	for n := 1; n <= 8; n++ {
		for turned := range 1 << n {
			for _, end := range []impl.Term{numTerm(3), wordTerm("v0")} {
				l := chain(end, n, turned)
				chainIs(t, l, n, true)
				slices.Reverse(l)
				chainIs(t, l, n, true)
				for i := range l {
					at := next() % (i + 1)
					l[i], l[at] = l[at], l[i]
				}
				chainIs(t, l, n, true)
			}
			l := chain(varTerm("V0"), n, turned)
			chainIs(t, l, n, false)
			at := next() % n
			l = chain(numTerm(1), n, turned)
			l[at].Op = 2 + next()%3
			r := ruleOf(1, atomOf("a"), l...)
			hasBound(t, r, strings.Join(chained(n)[:at], " ")+"|"+strings.Join(chained(n)[at:], " "))
			slices.Reverse(r.Body)
			hasBound(t, r, strings.Join(chained(n)[:at], " ")+"|"+strings.Join(chained(n)[at:], " "))
		}
	}
}

// TestBoundByChainsInEachOrder: the first link may hang on a value or on an atom, and all stand in each order.
func TestBoundByChainsInEachOrder(t *testing.T) {
	for n := 1; n <= 5; n++ {
		for _, turned := range []int{0, 1<<n - 1, 0b10101 & (1<<n - 1)} {
			eachOrder(chain(numTerm(3), n, turned), func(l []impl.Lit) { chainIs(t, l, n, true) })
			eachOrder(chain(varTerm("V0"), n, turned), func(l []impl.Lit) { chainIs(t, l, n, false) })
			l := append(chain(varTerm("V0"), n, turned)[1:], isLit(atomOf("b", numTerm(1), varTerm("V0"))))
			eachOrder(l, func(l []impl.Lit) { chainIs(t, l, n, true) })
			l[len(l)-1].Kind = 2
			eachOrder(l, func(l []impl.Lit) { chainIs(t, l, n, false) })
		}
	}
}

// TestBoundByChainsOnAtoms: seven equalities and the atom that binds their first variable, which stands at each place.
func TestBoundByChainsOnAtoms(t *testing.T) {
	for at := range 8 {
		for _, turned := range []int{0, 127, 0b1010101, 0b0101010, 0b0001111} {
			links := chain(varTerm("V0"), 8, turned<<1)[1:]
			for range 2 {
				slices.Reverse(links)
				for _, x := range []impl.Lit{isLit(atomOf("b", varTerm("V0"))), notLit(atomOf("b", varTerm("V0"))), isLit(atomOf("b", wordTerm("v0")))} {
					bound := x.Kind == 1 && x.Atom.Args[0].Var != ""
					chainIs(t, slices.Insert(slices.Clone(links), at, x), 8, bound)
				}
			}
		}
	}
}

// circle has n variables, each equal to the next and the last one to the first.
func circle(n int, turned int) []impl.Lit {
	return chain(varTerm(fmt.Sprint("V", n-1)), n, turned)
}

// TestBoundByCircles: nothing binds a circle, but one value or one atom for one of its variables binds all.
func TestBoundByCircles(t *testing.T) {
	for n := 1; n <= 8; n++ {
		for turned := range 1 << n {
			l := circle(n, turned)
			chainIs(t, l, n, false)
			if n == 8 {
				continue
			}
			for i := range n {
				x := varTerm(fmt.Sprint("V", i))
				one := []impl.Lit{compareLit(x, 1, numTerm(1)), compareLit(wordTerm("a"), 1, x), isLit(atomOf("b", x)), notLit(atomOf("b", x)), compareLit(x, 3, numTerm(1)), compareLit(x, 1, x)}
				for j, y := range one {
					chainIs(t, slices.Insert(slices.Clone(l), (i+turned)%(n+1), y), n, j < 3)
				}
			}
		}
	}
	// In a circle of eight, a value or an atom stands in the place of one link.
	for i := range 8 {
		for _, y := range []impl.Lit{compareLit(varTerm(fmt.Sprint("V", i)), 1, numTerm(1)), isLit(atomOf("b", varTerm(fmt.Sprint("V", i))))} {
			for at := range 8 {
				l := circle(8, i*31)
				l[at] = y
				chainIs(t, l, 8, true)
			}
		}
	}
	// Two circles and what binds one of them.
	hasBound(t, readRule(t, "a() :- A = B, C = D, B = A, D = C, E = A, E = 1."), "A B E|C D")
	hasBound(t, readRule(t, "a() :- A = B, C = D, B = A, D = C, E = A, E = C."), "|A B C D E")
	hasBound(t, readRule(t, "a() :- A = B, C = D, B = A, D = C, E != A, E = C, b(D)."), "C D E|A B")
}

// shortLits are literals over the variables X, Y and Z, of which bodies are made.
func shortLits() []impl.Lit {
	x, y, z := varTerm("X"), varTerm("Y"), varTerm("Z")
	return []impl.Lit{
		isLit(atomOf("b", x)), isLit(atomOf("b", z, numTerm(1), z)), notLit(atomOf("b", x, y)), isLit(atomOf("b")),
		compareLit(x, 1, y), compareLit(y, 1, x), compareLit(z, 1, y), compareLit(x, 1, x), compareLit(y, 1, numTerm(1)), compareLit(wordTerm("c"), 1, z),
		compareLit(x, 2, y), compareLit(numTerm(1), 3, y), compareLit(z, 4, wordTerm("c")),
	}
}

// TestBoundInShortBodies has all bodies of up to three literals, and all of up to five that are made of few.
func TestBoundInShortBodies(t *testing.T) {
	heads := []impl.Atom{atomOf("a"), atomOf("a", varTerm("X"), varTerm("Y")), atomOf("a", varTerm("Z"), numTerm(1), varTerm("W"))}
	n := 0
	eachList(shortLits(), 3, func(body []impl.Lit) {
		n++
		checkBound(t, ruleOf(1+n%3, heads[n/3%3], body...))
	})
	eachList([]impl.Lit{shortLits()[4], shortLits()[6], shortLits()[7], shortLits()[9], shortLits()[0]}, 5, func(body []impl.Lit) {
		n++
		checkBound(t, ruleOf(1+n%3, heads[n/3%3], body...))
	})
	if n < 5000 {
		t.Errorf("only %d bodies", n)
	}
}

// TestBoundInEachPlace: one variable at each place of a rule whose other terms are values, and of one whose other terms are other variables.
func TestBoundInEachPlace(t *testing.T) {
	six := func(x impl.Term) []impl.Term { return slices.Repeat([]impl.Term{x}, 6) }
	for _, other := range []impl.Term{numTerm(1), wordTerm("x"), varTerm("Y")} {
		base := ruleOf(1, atomOf("a", six(other)...), isLit(atomOf("b", six(other)...)), notLit(atomOf("b", six(other)...)), compareLit(other, 1, other), isLit(atomOf("c", six(other)...)), compareLit(other, 2, other), compareLit(other, 3, other), compareLit(other, 4, other), compareLit(other, 1, other))
		for at := range termPlaces(&base) {
			r := copyRule(base)
			*termPlaces(&r)[at] = varTerm("X")
			bound, loose := checkBound(t, r)
			// Ahead of the literals stand six terms of the head; the fourth and the last literal bind as the first and the third do.
			want := at >= 6 && at < 12 || at >= 18 && at < 26 || at >= 32
			if slices.Contains(bound, "X") != want || slices.Contains(loose, "X") == want {
				t.Errorf("with X at %d %q is bound and %q loose", at, bound, loose)
			}
		}
	}
}

// TestBoundOfOneVariableEverywhere: it is bound as soon as one place binds it, and told once.
func TestBoundOfOneVariableEverywhere(t *testing.T) {
	x := varTerm("X")
	all := slices.Repeat([]impl.Term{x}, 6)
	loose := []impl.Lit{notLit(atomOf("b", all...)), compareLit(x, 1, x), compareLit(x, 2, numTerm(1)), compareLit(numTerm(1), 3, x), compareLit(x, 4, x), compareLit(x, 2, x), notLit(atomOf("c", x))}
	hasBound(t, ruleOf(1, atomOf("a", all...), loose...), "|X")
	for at := range 8 {
		for _, l := range []impl.Lit{isLit(atomOf("b", all...)), isLit(atomOf("b", numTerm(1), wordTerm("x"), x)), compareLit(x, 1, numTerm(1)), compareLit(wordTerm("x"), 1, x)} {
			hasBound(t, ruleOf(1+at%3, atomOf("a", all...), slices.Insert(slices.Clone(loose), at, l)...), "X|")
		}
		hasBound(t, ruleOf(1+at%3, atomOf("a", all...), slices.Insert(slices.Clone(loose), at, compareLit(x, 1, varTerm("Y")))...), "|X Y")
	}
}

// manyVars is the nth of variables that stand nowhere else.
func manyVars(n int) impl.Term { return varTerm(fmt.Sprintf("M%02d", n)) }

// TestBoundOfAsManyVariables: as many different variables as a rule may have.
func TestBoundOfAsManyVariables(t *testing.T) {
	for _, kinds := range [][]int{{1, 1, 1, 1, 1, 1, 1, 1}, {2, 2, 2, 2, 2, 2, 2, 2}, {1, 2, 1, 2, 1, 2, 1, 2}, {2, 2, 2, 2, 2, 2, 2, 1}, {3, 3, 3, 3, 3, 3, 3, 3}, {3, 1, 3, 2, 3, 1, 3, 2}} {
		r := ruleOf(1, atomOf("a"))
		for range 6 {
			r.Head.Args = append(r.Head.Args, manyVars(0))
		}
		for _, kind := range kinds {
			if kind == 3 {
				r.Body = append(r.Body, compareLit(varTerm("X"), 1, varTerm("X")))
			} else {
				r.Body = append(r.Body, impl.Lit{Kind: kind, Atom: atomOf("b", make([]impl.Term, 6)...)})
			}
		}
		l := termPlaces(&r)
		for i, at := range l {
			*at = manyVars(len(l) - 1 - i)
		}
		bound, loose := checkBound(t, r)
		if len(bound)+len(loose) != len(l) || len(loose) < 6 {
			t.Errorf("%s has %d variables", ruleShown(r), len(bound)+len(loose))
		}
	}
}

// TestBoundOfEachArity: heads of each number of terms, alone and with bodies that bind some of them.
func TestBoundOfEachArity(t *testing.T) {
	for n := range 7 {
		head := atomOf("a")
		names := []string{}
		for i := range n {
			head.Args = append(head.Args, varTerm(string("ABCDEF"[i])))
			names = append(names, string("ABCDEF"[i]))
		}
		hasBound(t, ruleOf(1, head), "|"+strings.Join(names, " "))
		hasBound(t, impl.Rule{Kind: 2, Head: head, Body: []impl.Lit{}}, "|"+strings.Join(names, " "))
		hasBound(t, ruleOf(3, atomOf("a", make([]impl.Term, n)...)), "|")
		for i := range n + 1 {
			want := strings.Join(names[:i], " ") + "|" + strings.Join(names[i:], " ")
			hasBound(t, ruleOf(1, head, isLit(atomOf("b", head.Args[:i]...)), notLit(head)), want)
		}
	}
	isNoRule(t, ruleOf(1, atomOf("a", slices.Repeat([]impl.Term{varTerm("A")}, 7)...)))
}

// TestBoundOfRightAndWrongRules has each kind of fault, in rules whose other parts have bound and loose variables.
func TestBoundOfRightAndWrongRules(t *testing.T) {
	for i, r := range rightRules() {
		if i%3 == 0 {
			checkBound(t, r)
		}
	}
	for _, r := range wrongRules() {
		isNoRule(t, r)
	}
	base := readRule(t, "a(X, Y) :- b(X), not c(Z), U = 1, V < 2.")
	for i, x := range wrongTerms() {
		l := termPlaces(&base)
		r := copyRule(base)
		*termPlaces(&r)[i%len(l)] = x
		isNoRule(t, r)
	}
	for i, x := range wrongLits() {
		if i%4 == 0 {
			isNoRule(t, ruleOf(1, base.Head, slices.Insert(slices.Clone(base.Body), i/4%5, x)...))
		}
	}
	for n := 9; n < 14; n++ {
		isNoRule(t, ruleOf(1, base.Head, slices.Repeat(base.Body[:1], n)...))
	}
}

// TestBoundOfFieldsOfNoKind: what a literal's kind doesn't name must be nothing, so it can't bind.
func TestBoundOfFieldsOfNoKind(t *testing.T) {
	x := varTerm("X")
	for _, l := range []impl.Lit{
		{Kind: 1, Atom: atomOf("b"), Op: 1, A: x, B: numTerm(1)}, {Kind: 1, Atom: atomOf("b"), A: x}, {Kind: 1, Atom: atomOf("b"), Op: 1}, {Kind: 2, Atom: atomOf("b", x), Op: 1},
		{Kind: 2, Atom: atomOf("b"), B: x}, {Kind: 3, Atom: atomOf("b", x), Op: 1, A: x, B: numTerm(1)}, {Kind: 3, Atom: atomOf("", x), Op: 1}, {Kind: 3, A: x, B: numTerm(1)},
		{Kind: 0, Atom: atomOf("b", x)}, {Kind: 4, Atom: atomOf("b", x)}, {Op: 1, A: x, B: numTerm(1)}, {},
	} {
		isNoRule(t, ruleOf(1, atomOf("a", x), l))
		isNoRule(t, ruleOf(1, atomOf("a", x), isLit(atomOf("b", x)), l))
	}
}

// safeRules and looseRules are rules of each sort, of which programs are made.
func safeRules(t *testing.T) []impl.Rule {
	return readProgram(t, "a(). a(1, b). +a() :- b(). a(X) :- b(X). -a(X, Y) :- Y = X, b(X), not c(Y). a(X) :- X = 3, X != 4. a(X) :- b(X, Y), Z = Y, Z < X.").Rules
}

func looseRules(t *testing.T) []impl.Rule {
	return readProgram(t, "a(X). +a(1, X). -a() :- not b(X). a() :- X = X. a(X) :- b(Y), X < Y. a() :- X = Y, Y = X. a(X) :- b(X), not c(X, Y). a() :- b(X), 1 <= Y.").Rules
}

func TestCheckSafeByHand(t *testing.T) {
	hasSafe(t, impl.Program{}, -1)
	hasSafe(t, impl.Program{Decls: []impl.Decl{}, Rules: []impl.Rule{}}, -1)
	hasSafe(t, declsOf(declOf(1, "a", 1), declOf(1, "a", 2)), -1)
	hasSafe(t, rulesOf(safeRules(t)...), -1)
	hasSafe(t, rulesOf(looseRules(t)...), 0)
	hasSafe(t, readProgram(t, "a(1). b(X) :- c(X, Y), X < Y. d(X)."), 2)
	hasSafe(t, readProgram(t, "a(1). b(X) :- c(X, Y), X < Y. d(X) :- X < 1. d(X)."), 2)
	hasSafe(t, readProgram(t, "a(X) :- b(X). a(X)."), 1)
	hasSafe(t, readProgram(t, "a(X) :- b(X). a() :- X = X."), 1)
	hasSafe(t, readProgram(t, "a(X) :- b(X). a() :- Y = X, not b(Y). a(X) :- b(X)."), 1)
	hasSafe(t, readProgram(t, "state packet/1. a(X) :- forward(X, X). packet() :- a(X), event2(Y)."), -1)
	hasSafe(t, declsOf(impl.Decl{}), -2)
	hasSafe(t, rulesOf(impl.Rule{}), -2)
	hasSafe(t, impl.Program{Decls: []impl.Decl{{}}, Rules: looseRules(t)}, -2)
	hasSafe(t, rulesOf(append(looseRules(t), impl.Rule{})...), -2)
	hasSafe(t, rulesOf(append([]impl.Rule{{}}, looseRules(t)...)...), -2)
	hasSafe(t, impl.Program{Decls: []impl.Decl{declOf(1, "a", 1)}, Rules: slices.Repeat(looseRules(t)[:1], 25)}, -2)
	hasSafe(t, impl.Program{Decls: slices.Repeat([]impl.Decl{declOf(1, "a", 1)}, 17), Rules: safeRules(t)}, -2)
}

// TestCheckSafeOfEachPlace: of each number of rules each one in turn isn't safe, alone and with each later one; then those of each subset of five.
func TestCheckSafeOfEachPlace(t *testing.T) {
	safe, loose := safeRules(t), looseRules(t)
	for n := range 25 {
		l := []impl.Rule{}
		for i := range n {
			l = append(l, safe[(i+n)%len(safe)])
		}
		hasSafe(t, rulesOf(l...), -1)
		for at := range n {
			one := slices.Clone(l)
			one[at] = loose[(at+n)%len(loose)]
			hasSafe(t, rulesOf(one...), at)
			for later := at + 1; later < n; later++ {
				two := slices.Clone(one)
				two[later] = loose[later%len(loose)]
				if later%4 == n%4 || later == n-1 {
					hasSafe(t, rulesOf(two...), at)
				}
			}
		}
	}
	for set := range 32 {
		l := []impl.Rule{}
		want := -1
		for i := range 5 {
			if set>>i&1 == 0 {
				l = append(l, safe[i])
				continue
			}
			l = append(l, loose[i])
			if want < 0 {
				want = i
			}
		}
		hasSafe(t, rulesOf(l...), want)
	}
}

// TestCheckSafeForgetsEachRule: what one rule binds is bound in no other, of the same or of other names.
func TestCheckSafeForgetsEachRule(t *testing.T) {
	for _, s := range safeRules(t) {
		for _, r := range looseRules(t) {
			hasSafe(t, rulesOf(s, r), 1)
			hasSafe(t, rulesOf(r, s), 0)
			hasSafe(t, rulesOf(s, s, r, s), 2)
		}
	}
	for n := 1; n <= 6; n++ {
		all := []impl.Term{varTerm("A"), varTerm("B"), varTerm("C"), varTerm("X"), varTerm("Y"), varTerm("Z")}[:n]
		hasSafe(t, rulesOf(ruleOf(1, atomOf("a", all...), isLit(atomOf("b", all...))), ruleOf(1, atomOf("a", all[n-1]))), 1)
		hasSafe(t, rulesOf(ruleOf(1, atomOf("a", all...), isLit(atomOf("b", all...))), ruleOf(1, atomOf("a", all...), notLit(atomOf("b", all...)))), 1)
		hasSafe(t, rulesOf(ruleOf(1, atomOf("a", all...), isLit(atomOf("b", all...))), ruleOf(1, atomOf("a"), compareLit(all[0], 1, all[n-1]))), 1)
	}
}

// crowdedRule has MaxLits literals with MaxArity terms each, where that fits; all of its variables are bound.
func crowdedRule() impl.Rule {
	l := []impl.Term{varTerm("A"), varTerm("B"), varTerm("C"), varTerm("D"), varTerm("E"), varTerm("F")}
	r := ruleOf(1, atomOf("a", l...), notLit(atomOf("b", l...)), compareLit(varTerm("F"), 1, varTerm("E")), compareLit(varTerm("E"), 1, varTerm("D")))
	return ruleOf(1, r.Head, slices.Concat(r.Body, []impl.Lit{compareLit(numTerm(1), 1, varTerm("D")), notLit(atomOf("c", l...)), compareLit(varTerm("A"), 4, varTerm("F")), isLit(atomOf("d", l[0], l[1], l[2], l[0], l[1], l[2])), notLit(atomOf("e", l...))})...)
}

// TestCheckSafeOfMostRules: as many rules of as many literals as there may be, of which each place in turn has the loose variable, in the last rule and in others.
func TestCheckSafeOfMostRules(t *testing.T) {
	full := slices.Repeat([]impl.Rule{crowdedRule()}, 24)
	if len(full[0].Body) != 8 {
		t.Fatalf("%d literals", len(full[0].Body))
	}
	hasSafe(t, rulesOf(full...), -1)
	base := crowdedRule()
	for at, x := range termPlaces(&base) {
		r := copyRule(base)
		*termPlaces(&r)[at] = varTerm("Loose")
		bound := slices.Contains(boundVarsSpelled(r), "Loose")
		for _, place := range []int{0, 11, 22, 23} {
			p := rulesOf(slices.Clone(full)...)
			p.Rules[place] = r
			got := checkSafe(t, p)
			// In the place of one that binds D, E or F others come loose.
			if !bound && got != place || bound && x.Var != "D" && x.Var != "E" && x.Var != "F" && got != -1 {
				t.Errorf("with the term %d of rule %d loose the answer is %d", at, place, got)
			}
		}
	}
	last := rulesOf(slices.Clone(full)...)
	last.Rules[23] = copyRule(crowdedRule())
	last.Rules[23].Body[7].Atom.Args[5] = varTerm("Loose")
	hasSafe(t, last, 23)
	hasSafe(t, rulesOf(append(full, full[0])...), -2)
}

// TestCheckSafeOfWhatIsWrong has each kind of fault of a program, whose rules are safe or aren't.
func TestCheckSafeOfWhatIsWrong(t *testing.T) {
	for _, d := range wrongDecls() {
		hasSafe(t, impl.Program{Decls: []impl.Decl{declOf(1, "a", 1), d}, Rules: safeRules(t)}, -2)
		hasSafe(t, impl.Program{Decls: []impl.Decl{d}, Rules: looseRules(t)}, -2)
		hasSafe(t, declsOf(d), -2)
	}
	for i, r := range wrongRules() {
		if i%3 == 0 {
			hasSafe(t, rulesOf(looseRules(t)[0], r), -2)
			hasSafe(t, rulesOf(r, safeRules(t)[3]), -2)
		}
	}
	for _, d := range rightDecls() {
		hasSafe(t, impl.Program{Decls: []impl.Decl{d, d}, Rules: safeRules(t)}, -1)
		hasSafe(t, impl.Program{Decls: []impl.Decl{d}, Rules: looseRules(t)}, 0)
	}
}

// TestSafeStrange: names, variables and words that are very long, no letters of ours, or no UTF-8.
func TestSafeStrange(t *testing.T) {
	x := varTerm("X")
	for _, s := range append(strangeTexts(), "\x00", "X\x00", "X ", "X,Y", strings.Repeat("A", 1<<16), strings.Repeat("\xff", 6001)) {
		for _, text := range []string{s, "A" + s, "a" + s} {
			isNoRule(t, ruleOf(1, atomOf("a", varTerm(text))))
			isNoRule(t, ruleOf(1, atomOf(text, x), isLit(atomOf("b", x))))
			isNoRule(t, ruleOf(1, atomOf("a", x), isLit(atomOf("b", x, varTerm(text)))))
			isNoRule(t, ruleOf(1, atomOf("a", x), isLit(atomOf(text, x))))
			isNoRule(t, ruleOf(1, atomOf("a", x), isLit(atomOf("b", x)), compareLit(varTerm(text), 1, x)))
			isNoRule(t, ruleOf(1, atomOf("a", x), compareLit(x, 1, wordTerm(text))))
			hasSafe(t, impl.Program{Decls: []impl.Decl{declOf(1, text, 1)}, Rules: safeRules(t)}, -2)
		}
	}
	isNoRule(t, ruleOf(1, atomOf("a"), slices.Repeat([]impl.Lit{compareLit(x, 1, varTerm("Y"))}, 100000)...))
	isNoRule(t, ruleOf(1, atomOf("a", slices.Repeat([]impl.Term{x}, 100000)...), isLit(atomOf("b", x))))
	isNoRule(t, ruleOf(1, atomOf("a"), isLit(atomOf("b", slices.Repeat([]impl.Term{x}, 100000)...))))
	hasSafe(t, rulesOf(slices.Repeat(looseRules(t)[:1], 10000)...), -2)
}

func TestSafeFarNumbers(t *testing.T) {
	base := readRule(t, "a(X, 1) :- X = 2, b(3, Y), not c(4, Y), 5 != X.")
	for _, n := range append(farNums(), -1, 4, 5, 7, 256+1, 1<<32+1) {
		r := copyRule(base)
		r.Kind = n
		isNoRule(t, r)
		for i, l := range base.Body {
			r = copyRule(base)
			r.Body[i].Kind = n
			isNoRule(t, r)
			if r = copyRule(base); l.Kind < 3 || n < 1 || n > 4 {
				r.Body[i].Op = n
				isNoRule(t, r)
			}
		}
		for at, x := range termPlaces(&base) {
			r = copyRule(base)
			*termPlaces(&r)[at] = impl.Term{Var: x.Var, Val: num(n)}
			switch {
			case x.Var == "" && n >= 0 && n <= impl.MaxNum:
				hasBound(t, r, "X Y|")
			default:
				isNoRule(t, r)
			}
		}
		hasSafe(t, impl.Program{Decls: []impl.Decl{declOf(n, "a", 1)}, Rules: looseRules(t)}, -2)
		want := 0
		if n < 0 || n > 6 {
			want = -2
		}
		hasSafe(t, impl.Program{Decls: []impl.Decl{declOf(1, "a", n)}, Rules: looseRules(t)}, want)
	}
}

func TestSafeListsWithoutElements(t *testing.T) {
	for _, args := range [][]impl.Term{nil, {}} {
		for _, body := range [][]impl.Lit{nil, {}} {
			hasBound(t, impl.Rule{Kind: 1, Head: impl.Atom{Name: "a", Args: args}, Body: body}, "|")
			hasBound(t, impl.Rule{Kind: 2, Head: impl.Atom{Name: "a", Args: []impl.Term{varTerm("X")}}, Body: body}, "|X")
		}
		hasBound(t, ruleOf(1, atomOf("a", varTerm("X")), isLit(impl.Atom{Name: "b", Args: args}), notLit(impl.Atom{Name: "b", Args: args})), "|X")
		c := compareLit(varTerm("X"), 1, numTerm(1))
		c.Atom.Args = args
		hasBound(t, ruleOf(1, atomOf("a", varTerm("X")), c), "X|")
	}
}

// linkedTerm is mostly one of few variables.
func linkedTerm(next func() int) impl.Term {
	if next()%9 == 0 {
		return []impl.Term{numTerm(next() % 3), wordTerm("a"), wordTerm("x")}[next()%3]
	}
	return varTerm([]string{"A", "B", "C", "D", "E", "F", "G", "A0", "Aa", "AA"}[next()%10])
}

// linkedLit is mostly an equality.
func linkedLit(next func() int) impl.Lit {
	switch next() % 12 {
	case 0:
		return notLit(atomOf("b", linkedTerm(next), linkedTerm(next)))
	case 1:
		return isLit(atomOf("c", linkedTerm(next), linkedTerm(next)))
	case 2, 3:
		return compareLit(linkedTerm(next), 1+next()%4, linkedTerm(next))
	}
	return compareLit(linkedTerm(next), 1, linkedTerm(next))
}

func linkedRule(next func() int) impl.Rule {
	r := ruleOf(1+next()%3, atomOf("a"))
	for range next() % 4 {
		r.Head.Args = append(r.Head.Args, linkedTerm(next))
	}
	for range next() % 9 {
		r.Body = append(r.Body, linkedLit(next))
	}
	return r
}

// within tells whether each text of one list is in another.
func within(l []string, all []string) bool {
	return !slices.ContainsFunc(l, func(s string) bool { return !slices.Contains(all, s) })
}

// checkGrows: with one literal more behind the body all that was bound is bound still, and with each one taken away no more is.
func checkGrows(t *testing.T, r impl.Rule, next func() int) {
	t.Helper()
	bound := impl.BoundVars(r)
	if len(r.Body) < impl.MaxLits {
		more := copyRule(r)
		more.Body = append(more.Body, linkedLit(next))
		if now, _ := checkBound(t, more); !within(bound, impl.BoundVars(more)) || !within(bound, now) {
			t.Errorf("%s has %q bound, with one literal more %q", ruleShown(r), bound, now)
		}
	}
	for at := range r.Body {
		less := copyRule(r)
		less.Body = slices.Delete(less.Body, at, at+1)
		if now := impl.BoundVars(less); !within(now, bound) {
			t.Errorf("%s has %q bound, without literal %d %q", ruleShown(r), bound, at, now)
		}
	}
}

// checkOrderOfBody: in another order, with the sides of equalities changed, it is the same.
func checkOrderOfBody(t *testing.T, r impl.Rule, next func() int) {
	t.Helper()
	bound, loose := impl.BoundVars(r), impl.LooseVars(r)
	mixed := copyRule(r)
	for range 3 {
		for i := range mixed.Body {
			at := next() % (i + 1)
			mixed.Body[i], mixed.Body[at] = mixed.Body[at], mixed.Body[i]
		}
		for i, l := range mixed.Body {
			if next()%2 == 0 {
				mixed.Body[i].A, mixed.Body[i].B = l.B, l.A
			}
		}
		if !slices.Equal(impl.BoundVars(mixed), bound) || !slices.Equal(impl.LooseVars(mixed), loose) {
			t.Errorf("%s has %q bound, in the order of %s %q", ruleShown(r), bound, ruleShown(mixed), impl.BoundVars(mixed))
		}
	}
}

func TestManyRulesBound(t *testing.T) {
	next := scatter(1802)
	sizes := [2]int{}
	for range 5000 {
		r := linkedRule(next)
		if next()%5 == 0 {
			r = scatteredRule(next)
		}
		if next()%6 == 0 {
			r = fewVars(r, next)
		}
		bound, loose := checkBound(t, r)
		sizes[0] += len(bound)
		sizes[1] += len(loose)
		checkGrows(t, r, next)
		checkOrderOfBody(t, r, next)
	}
	if sizes[0] < 5000 || sizes[1] < 5000 {
		t.Errorf("only %d are bound, %d aren't", sizes[0], sizes[1])
	}
}

func TestManyRulesSpoiledBound(t *testing.T) {
	next := scatter(1803)
	seen := map[bool]int{}
	for range 4000 {
		r := spoiledRule(linkedRule(next), next)
		checkBound(t, r)
		seen[ruleRight(r)]++
	}
	if seen[true] < 500 || seen[false] < 500 {
		t.Errorf("only %v", seen)
	}
}

// checkFirstLoose: CheckSafe names a rule just where its LooseVars are some and those of all earlier ones none.
func checkFirstLoose(t *testing.T, p impl.Program, got int) {
	t.Helper()
	for i, r := range p.Rules {
		loose := len(impl.LooseVars(r)) > 0
		if got < 0 && loose || i < got && loose || i == got && !loose {
			t.Errorf("CheckSafe of %s is %d, and of rule %d loose: %v", programShown(p), got, i, loose)
		}
	}
	if got >= 0 {
		less := copyProgram(p)
		less.Rules = slices.Delete(less.Rules, got, got+1)
		behind := impl.CheckSafe(rulesOf(p.Rules[got+1:]...))
		if behind >= 0 {
			behind += got
		}
		if now := impl.CheckSafe(less); now != behind {
			t.Errorf("without rule %d of %s CheckSafe is %d, not %d", got, programShown(p), now, behind)
		}
	}
}

func TestManyProgramsSafe(t *testing.T) {
	next := scatter(1804)
	found := map[int]int{}
	for range 3000 {
		p := declsOf(scatteredDecls(next)...)
		odds := []int{2, 20, 60, 300}[next()%4]
		for range []int{scatteredCount(next, 24), next() % 9}[next()%2] {
			r := linkedRule(next)
			for next()%odds != 0 && len(looseVarsSpelled(r)) > 0 {
				r = linkedRule(next)
			}
			p.Rules = append(p.Rules, r)
		}
		if len(p.Rules) > 0 && next()%9 == 0 {
			at := next() % len(p.Rules)
			p.Rules[at] = spoiledRule(p.Rules[at], next)
		}
		got := checkSafe(t, p)
		found[min(got, 4)]++
		if got != -2 {
			checkFirstLoose(t, p, impl.CheckSafe(p))
		}
	}
	for code := -2; code <= 4; code++ {
		if found[code] < 50 {
			t.Errorf("the answers come so often: %v", found)
		}
	}
}

// TestManySafePrinted: what is printed and read again has the same rule that isn't safe, whatever its names are.
func TestManySafePrinted(t *testing.T) {
	next := scatter(1805)
	read := 0
	for range 1500 {
		p := knownProgram(next)
		text, ok := impl.PrintProgram(p)
		got := checkSafe(t, p)
		if !ok {
			continue
		}
		read++
		if again := impl.CheckSafe(readProgram(t, text)); again != got {
			t.Errorf("%s has the rule %d, read again %d", shortShown(text), got, again)
		}
	}
	if read < 1000 {
		t.Errorf("only %d were read", read)
	}
}

// TestSafeApart: what is written into one answer is seen in no other, and in no rule.
func TestSafeApart(t *testing.T) {
	next := scatter(1806)
	for range 500 {
		r := linkedRule(next)
		given := copyRule(r)
		bound, loose := impl.BoundVars(r), impl.LooseVars(r)
		boundAgain, looseAgain := impl.BoundVars(r), impl.LooseVars(r)
		for _, l := range [][]string{bound[:cap(bound)], loose[:cap(loose)]} {
			for i := range l {
				l[i] = "Spoiled"
			}
		}
		if !slices.Equal(boundAgain, boundVarsSpelled(given)) || !slices.Equal(looseAgain, looseVarsSpelled(given)) || !sameRule(r, given) {
			t.Errorf("an answer was changed through another: %q, %q", boundAgain, looseAgain)
		}
		if !slices.Equal(impl.BoundVars(r), boundAgain) || !slices.Equal(impl.LooseVars(r), looseAgain) {
			t.Errorf("an answer is changed later on: %q, %q", boundAgain, looseAgain)
		}
		checkApart(t, append(ruleSpots(r), spots(boundAgain)...), spots(looseAgain))
	}
}

// TestSafeKeepsNothingOfTheTexts: the variables given stand in bytes that are changed behind the calls.
func TestSafeKeepsNothingOfTheTexts(t *testing.T) {
	bytes := [][]byte{[]byte("Bound"), []byte("Equal"), []byte("Loose")}
	x := func(i int) impl.Term { return varTerm(unsafeText(bytes[i])) }
	r := ruleOf(1, atomOf("a", x(2)), isLit(atomOf("b", x(0))), compareLit(x(0), 1, x(1)))
	bound, loose := impl.BoundVars(r), impl.LooseVars(r)
	for _, b := range bytes {
		for i := range b {
			b[i] = '?'
		}
	}
	if !slices.Equal(bound, []string{"Bound", "Equal"}) || !slices.Equal(loose, []string{"Loose"}) {
		t.Errorf("a variable shares memory with what was given: %q, %q", bound, loose)
	}
}
