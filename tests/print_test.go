package tests

import (
	"fmt"
	"slices"
	"strconv"
	"strings"
	"testing"
	"unsafe"

	"loop.example/g00391/impl"
)

// The texts by the document's words, for right things alone.

func termWritten(x impl.Term) string {
	if x.Var != "" {
		return x.Var
	}
	return valueTextSpelled(x.Val)
}

func atomWritten(a impl.Atom) string {
	l := []string{}
	for _, x := range a.Args {
		l = append(l, termWritten(x))
	}
	return a.Name + "(" + strings.Join(l, ", ") + ")"
}

func litWritten(x impl.Lit) string {
	if x.Kind == 3 {
		return strings.Join([]string{termWritten(x.A), opSigns()[x.Op-1], termWritten(x.B)}, " ")
	}
	return []string{"", "not "}[x.Kind-1] + atomWritten(x.Atom)
}

func ruleWritten(r impl.Rule) string {
	s := []string{"", "+", "-"}[r.Kind-1] + atomWritten(r.Head)
	l := []string{}
	for _, x := range r.Body {
		l = append(l, litWritten(x))
	}
	if len(l) > 0 {
		s += " :- " + strings.Join(l, ", ")
	}
	return s + "."
}

func programWritten(p impl.Program) string {
	s := ""
	for _, d := range p.Decls {
		s += fmt.Sprintf("%s %s/%d.\n", declWords()[d.Kind-1], d.Name, d.Arity)
	}
	for _, r := range p.Rules {
		s += ruleWritten(r) + "\n"
	}
	return s
}

// printAtomSpelled, printRuleSpelled, printProgramSpelled and varsSpelled are the four functions by the document's words.
func printAtomSpelled(a impl.Atom) string {
	if !atomRight(a) {
		return ""
	}
	return atomWritten(a)
}

func printRuleSpelled(r impl.Rule) string {
	if !ruleRight(r) {
		return ""
	}
	return ruleWritten(r)
}

func printProgramSpelled(p impl.Program) (string, bool) {
	if !programRight(p) || len(programWritten(p)) > 6000 {
		return "", false
	}
	return programWritten(p), true
}

// allTerms are those of the head, then of each literal those of its atom and both of a comparison.
func allTerms(r impl.Rule) []impl.Term {
	l := slices.Clone(r.Head.Args)
	for _, x := range r.Body {
		l = append(append(l, x.Atom.Args...), x.A, x.B)
	}
	return l
}

// varsSpelled takes the least variable above the last one, as long as there is one.
func varsSpelled(r impl.Rule) []string {
	out := []string{}
	if !ruleRight(r) {
		return out
	}
	for last := ""; ; {
		least := ""
		for _, x := range allTerms(r) {
			if bytesBefore(last, x.Var) && (least == "" || bytesBefore(x.Var, least)) {
				least = x.Var
			}
		}
		if least == "" {
			return out
		}
		out = append(out, least)
		last = least
	}
}

func shortShown(s string) string { return fmt.Sprintf("%d bytes %.300q", len(s), s) }

func ruleShown(r impl.Rule) string { return programShown(rulesOf(r)) }

// underRule hands a rule with spare room behind its lists to a call, and asks that the call changed nothing of it.
func underRule(t *testing.T, given impl.Rule, call func(arg impl.Rule)) {
	t.Helper()
	underProgram(t, rulesOf(given), func(arg impl.Program) { call(arg.Rules[0]) })
}

func underProgram(t *testing.T, given impl.Program, call func(arg impl.Program)) {
	t.Helper()
	arg := roomyProgram(given)
	before := wholeProgram(arg)
	call(arg)
	if !sameProgram(wholeProgram(arg), before) || !sameProgram(arg, given) {
		t.Errorf("what was given was changed: %s", programShown(given))
	}
}

// checkPrintAtom holds PrintAtom against the document's words, twice.
func checkPrintAtom(t *testing.T, a impl.Atom) string {
	t.Helper()
	want := printAtomSpelled(a)
	underRule(t, ruleOf(1, a), func(arg impl.Rule) {
		t.Helper()
		for range 2 {
			if got := impl.PrintAtom(arg.Head); got != want {
				t.Errorf("PrintAtom of %s: %s, not %s", ruleShown(arg), shortShown(got), shortShown(want))
			}
		}
	})
	return want
}

// checkVars holds VarsOf against the document's words, twice, and looks at the memory of both answers.
func checkVars(t *testing.T, r impl.Rule) []string {
	t.Helper()
	want := varsSpelled(r)
	underRule(t, r, func(arg impl.Rule) {
		t.Helper()
		first := impl.VarsOf(arg)
		second := impl.VarsOf(arg)
		if !slices.Equal(first, want) || !slices.Equal(second, want) {
			t.Errorf("VarsOf of %s: %q, then %q, not %q", ruleShown(arg), first, second, want)
		}
		checkApart(t, spots(first), spots(second))
	})
	return want
}

// checkPrintRule holds PrintRule against the document's words, twice, and VarsOf too.
func checkPrintRule(t *testing.T, r impl.Rule) string {
	t.Helper()
	want := printRuleSpelled(r)
	underRule(t, r, func(arg impl.Rule) {
		t.Helper()
		for range 2 {
			if got := impl.PrintRule(arg); got != want {
				t.Errorf("PrintRule of %s: %s, not %s", ruleShown(arg), shortShown(got), shortShown(want))
			}
		}
	})
	checkVars(t, r)
	return want
}

// checkPrint holds PrintProgram against the document's words, twice; what is printed is read as the program.
func checkPrint(t *testing.T, p impl.Program) (string, bool) {
	t.Helper()
	want, wantOk := printProgramSpelled(p)
	underProgram(t, p, func(arg impl.Program) {
		t.Helper()
		for range 2 {
			if got, ok := impl.PrintProgram(arg); got != want || ok != wantOk {
				t.Errorf("PrintProgram of %s: %s and %v, not %s and %v", programShown(arg), shortShown(got), ok, shortShown(want), wantOk)
			}
		}
	})
	if wantOk {
		readsBack(t, p)
	}
	return want, wantOk
}

func readsBack(t *testing.T, p impl.Program) {
	t.Helper()
	text, _ := impl.PrintProgram(p)
	got, code, at := impl.Parse(text)
	if code != 0 || at != 0 || !sameProgram(got, p) {
		t.Errorf("%s is printed as %s and read as %s", programShown(p), shortShown(text), parseShown(got, code, at))
	}
}

// printsAtom, printsRule and prints are for what is told by hand, so that the document's words written out are held against it too.
func printsAtom(t *testing.T, a impl.Atom, want string) {
	t.Helper()
	if got := checkPrintAtom(t, a); got != want {
		t.Errorf("the words written out print %s as %s, not %q", ruleShown(ruleOf(1, a)), shortShown(got), want)
	}
}

func printsRule(t *testing.T, r impl.Rule, want string) {
	t.Helper()
	if got := checkPrintRule(t, r); got != want {
		t.Errorf("the words written out print %s as %s, not %q", ruleShown(r), shortShown(got), want)
	}
}

func prints(t *testing.T, p impl.Program, want string) {
	t.Helper()
	if got, ok := checkPrint(t, p); got != want || !ok {
		t.Errorf("the words written out print %s as %s, not %q", programShown(p), shortShown(got), want)
	}
}

func hasVars(t *testing.T, r impl.Rule, want ...string) {
	t.Helper()
	if got := checkVars(t, r); !slices.Equal(got, want) {
		t.Errorf("the words written out give %s the variables %q, not %q", ruleShown(r), got, want)
	}
}

func TestPrintAtomByHand(t *testing.T) {
	printsAtom(t, atomOf("a"), "a()")
	printsAtom(t, impl.Atom{Name: "a", Args: []impl.Term{}}, "a()")
	printsAtom(t, atomOf("a", varTerm("X")), "a(X)")
	printsAtom(t, atomOf("a", numTerm(7)), "a(7)")
	printsAtom(t, atomOf("a", wordTerm("b")), "a(b)")
	printsAtom(t, atomOf("a", impl.Term{}), "a(0)")
	printsAtom(t, atomOf("a", numTerm(1), varTerm("Y")), "a(1, Y)")
	printsAtom(t, atomOf("packet", varTerm("S"), varTerm("I"), varTerm("A"), varTerm("B")), "packet(S, I, A, B)")
	printsAtom(t, atomOf("abcdefghijkl", varTerm("ABCDEFGHIJKL"), numTerm(281474976710655), wordTerm("zzzzzzzzzzzz"), numTerm(0), varTerm("Z9"), wordTerm("z9")), "abcdefghijkl(ABCDEFGHIJKL, 281474976710655, zzzzzzzzzzzz, 0, Z9, z9)")
	printsAtom(t, impl.Atom{}, "")
	printsAtom(t, atomOf("not"), "")
	printsAtom(t, atomOf("abcdefghijklm"), "")
	printsAtom(t, atomOf("aB"), "")
	printsAtom(t, atomOf("a", varTerm("x")), "")
	printsAtom(t, atomOf("a", impl.Term{Var: "X", Val: num(1)}), "")
	printsAtom(t, atomOf("a", impl.Term{Var: "X", Val: word("a")}), "")
	printsAtom(t, atomOf("a", wordTerm("view")), "")
	printsAtom(t, atomOf("a", numTerm(-1)), "")
	printsAtom(t, atomOf("a", numTerm(281474976710656)), "")
	printsAtom(t, atomOf("a", make([]impl.Term, 7)...), "")
}

func TestPrintRuleByHand(t *testing.T) {
	a, b := atomOf("a", varTerm("X")), atomOf("b", varTerm("X"), numTerm(1))
	printsRule(t, ruleOf(1, a), "a(X).")
	printsRule(t, ruleOf(2, a), "+a(X).")
	printsRule(t, ruleOf(3, a), "-a(X).")
	printsRule(t, impl.Rule{Kind: 3, Head: a, Body: []impl.Lit{}}, "-a(X).")
	printsRule(t, ruleOf(1, a, isLit(b)), "a(X) :- b(X, 1).")
	printsRule(t, ruleOf(2, a, notLit(b)), "+a(X) :- not b(X, 1).")
	printsRule(t, ruleOf(3, a, compareLit(varTerm("X"), 1, wordTerm("c"))), "-a(X) :- X = c.")
	printsRule(t, ruleOf(1, atomOf("a"), isLit(atomOf("b")), notLit(atomOf("c")), compareLit(numTerm(1), 2, numTerm(2)), compareLit(wordTerm("x"), 3, varTerm("X")), compareLit(impl.Term{}, 4, impl.Term{})), "a() :- b(), not c(), 1 != 2, x < X, 0 <= 0.")
	printsRule(t, impl.Rule{}, "")
	printsRule(t, ruleOf(0, a), "")
	printsRule(t, ruleOf(4, a), "")
	printsRule(t, ruleOf(1, atomOf("state")), "")
	printsRule(t, ruleOf(1, a, isLit(atomOf("event"))), "")
	printsRule(t, ruleOf(1, a, isLit(b), impl.Lit{Kind: 1, Op: 1, Atom: b}), "")
	printsRule(t, ruleOf(1, a, impl.Lit{Kind: 2, Atom: b, A: varTerm("X")}), "")
	printsRule(t, ruleOf(1, a, impl.Lit{Kind: 1, Atom: b, B: numTerm(1)}), "")
	printsRule(t, ruleOf(1, a, impl.Lit{Kind: 3, Op: 1, Atom: b}), "")
	printsRule(t, ruleOf(1, a, impl.Lit{Kind: 3, Op: 0}), "")
	printsRule(t, ruleOf(1, a, impl.Lit{Kind: 3, Op: 5}), "")
	printsRule(t, ruleOf(1, a, impl.Lit{Kind: 0, Atom: b}), "")
	printsRule(t, ruleOf(1, a, impl.Lit{Kind: 4, Atom: b}), "")
	printsRule(t, ruleOf(1, a, slices.Repeat([]impl.Lit{isLit(b)}, 9)...), "")
}

func TestPrintProgramByHand(t *testing.T) {
	prints(t, impl.Program{}, "")
	prints(t, impl.Program{Decls: []impl.Decl{}, Rules: []impl.Rule{}}, "")
	prints(t, declsOf(declOf(1, "a", 0), declOf(2, "b", 6), declOf(3, "c", 1)), "state a/0.\nevent b/6.\nview c/1.\n")
	prints(t, rulesOf(ruleOf(2, atomOf("a"))), "+a().\n")
	prints(t, plainProgram(), "state link/2.\nevent up/1.\nview way/2.\nway(X, Y) :- link(X, Y), not shut(), X != 3.\n+link(1, X) :- up(X).\n-link(a, b).\n")
	prints(t, impl.Program{Decls: []impl.Decl{declOf(3, "b", 1), declOf(1, "a", 1), declOf(3, "b", 1)}, Rules: []impl.Rule{ruleOf(3, atomOf("b")), ruleOf(1, atomOf("a")), ruleOf(3, atomOf("b"))}}, "view b/1.\nstate a/1.\nview b/1.\n-b().\na().\n-b().\n")
	for _, p := range []impl.Program{
		declsOf(impl.Decl{}), declsOf(declOf(0, "a", 1)), declsOf(declOf(4, "a", 1)), declsOf(declOf(1, "", 1)), declsOf(declOf(1, "not", 1)), declsOf(declOf(1, "a", -1)), declsOf(declOf(1, "a", 7)),
		rulesOf(impl.Rule{}), rulesOf(ruleOf(1, atomOf("a")), ruleOf(0, atomOf("a"))), declsOf(slices.Repeat([]impl.Decl{declOf(1, "a", 1)}, 17)...), rulesOf(slices.Repeat([]impl.Rule{ruleOf(1, atomOf("a"))}, 25)...),
	} {
		if text, ok := checkPrint(t, p); ok || text != "" {
			t.Errorf("the words written out print %s", programShown(p))
		}
	}
}

func TestVarsByHand(t *testing.T) {
	x := varTerm
	hasVars(t, ruleOf(1, atomOf("a")))
	hasVars(t, ruleOf(1, atomOf("a", numTerm(1), wordTerm("x")), isLit(atomOf("b", wordTerm("y"))), compareLit(numTerm(1), 3, wordTerm("z"))))
	hasVars(t, ruleOf(1, atomOf("a", x("X"))), "X")
	hasVars(t, ruleOf(2, atomOf("a", x("X"), x("X"))), "X")
	hasVars(t, ruleOf(3, atomOf("a", x("Z"), x("Y"), x("X"))), "X", "Y", "Z")
	hasVars(t, ruleOf(1, atomOf("a"), isLit(atomOf("b", x("Y"), numTerm(1), x("X")))), "X", "Y")
	hasVars(t, ruleOf(1, atomOf("a"), notLit(atomOf("b", x("Y"), wordTerm("x"), x("X")))), "X", "Y")
	hasVars(t, ruleOf(1, atomOf("a"), compareLit(x("X"), 1, numTerm(1))), "X")
	hasVars(t, ruleOf(1, atomOf("a"), compareLit(numTerm(1), 2, x("X"))), "X")
	hasVars(t, ruleOf(1, atomOf("a"), compareLit(x("Y"), 4, x("X"))), "X", "Y")
	hasVars(t, ruleOf(1, atomOf("a"), compareLit(x("X"), 3, x("X"))), "X")
	hasVars(t, ruleOf(1, atomOf("a", x("D")), isLit(atomOf("b", x("C"))), notLit(atomOf("b", x("B"))), compareLit(x("A"), 1, x("D"))), "A", "B", "C", "D")
	// Texts are held byte by byte: digits ahead of capitals ahead of small letters, a beginning ahead of what goes on.
	hasVars(t, ruleOf(1, atomOf("a", x("Xa"), x("XA"), x("X9"), x("X10"), x("X"), x("X0"))), "X", "X0", "X10", "X9", "XA", "Xa")
	hasVars(t, ruleOf(1, atomOf("a", x("ABCDEFGHIJKL"), x("ABCDEFGHIJK"), x("Zz"), x("ZZ"))), "ABCDEFGHIJK", "ABCDEFGHIJKL", "ZZ", "Zz")
	hasVars(t, impl.Rule{})
	hasVars(t, ruleOf(0, atomOf("a", x("X"))))
	hasVars(t, ruleOf(4, atomOf("a", x("X"))))
	hasVars(t, ruleOf(1, atomOf("not", x("X"))))
	hasVars(t, ruleOf(1, atomOf("a", x("X"), x("x"))))
	hasVars(t, ruleOf(1, atomOf("a", x("X"), impl.Term{Var: "Y", Val: num(1)})))
	hasVars(t, ruleOf(1, atomOf("a", x("X")), impl.Lit{Kind: 1, Atom: atomOf("b", x("Y")), A: x("Z")}))
	hasVars(t, ruleOf(1, atomOf("a", x("X")), impl.Lit{Kind: 3, Op: 5, A: x("Y"), B: x("Z")}))
	hasVars(t, ruleOf(1, atomOf("a", x("X")), slices.Repeat([]impl.Lit{isLit(atomOf("b", x("Y")))}, 9)...))
}

func TestPrintAtoms(t *testing.T) {
	for _, a := range rightAtoms() {
		if checkPrintAtom(t, a) == "" {
			t.Errorf("%s has no text", ruleShown(ruleOf(1, a)))
		}
	}
	for _, a := range wrongAtoms() {
		if checkPrintAtom(t, a) != "" {
			t.Errorf("%s has a text", ruleShown(ruleOf(1, a)))
		}
	}
	for n := range 12 {
		for _, x := range rightTerms() {
			l := slices.Repeat([]impl.Term{x}, n)
			want := ""
			if n <= 6 {
				want = "abcdefghijkl(" + strings.TrimSuffix(strings.Repeat(termWritten(x)+", ", n), ", ") + ")"
			}
			printsAtom(t, atomOf("abcdefghijkl", l...), want)
		}
	}
}

// TestPrintEachTermAtEachPlace: of each number of terms each one in turn is another, right or wrong.
func TestPrintEachTermAtEachPlace(t *testing.T) {
	for n := 1; n <= 6; n++ {
		for at := range n {
			for _, x := range slices.Concat(rightTerms(), wrongTerms()) {
				l := []impl.Term{varTerm("A"), numTerm(1), wordTerm("c"), varTerm("D"), numTerm(4), wordTerm("f")}[:n]
				l[at] = x
				if text := checkPrintAtom(t, atomOf("a", l...)); (text != "") != termRight(x) {
					t.Errorf("the term %.60q has an atom with the text %s", fmt.Sprint(x), shortShown(text))
				}
			}
		}
	}
}

// TestPrintComparisons has each Op between each two kinds of terms.
func TestPrintComparisons(t *testing.T) {
	for _, x := range givenTerms() {
		for _, y := range givenTerms() {
			for i, op := range opSigns() {
				c := compareLit(x.want, i+1, y.want)
				text := x.text + " " + op + " " + y.text
				printsRule(t, ruleOf(1, atomOf("a"), c), "a() :- "+text+".")
				printsRule(t, ruleOf(2, atomOf("a"), isLit(atomOf("b")), c, c), "+a() :- b(), "+text+", "+text+".")
				prints(t, rulesOf(ruleOf(3, atomOf("a"), c, notLit(atomOf("b")))), "-a() :- "+text+", not b().\n")
			}
		}
	}
}

type writtenLit struct {
	text string
	lit  impl.Lit
}

// litKinds has a literal of each kind and Op, with and without terms, and its text.
func litKinds() []writtenLit {
	return []writtenLit{
		{"b()", isLit(atomOf("b"))},
		{"b(X, 1, c)", isLit(atomOf("b", varTerm("X"), numTerm(1), wordTerm("c")))},
		{"not b()", notLit(atomOf("b"))},
		{"not b(Y, 0)", notLit(atomOf("b", varTerm("Y"), impl.Term{}))},
		{"X = 1", compareLit(varTerm("X"), 1, numTerm(1))},
		{"b != Y", compareLit(wordTerm("b"), 2, varTerm("Y"))},
		{"0 < 1", compareLit(numTerm(0), 3, numTerm(1))},
		{"Z <= Z", compareLit(varTerm("Z"), 4, varTerm("Z"))},
	}
}

// TestPrintBodies has bodies of each length, in rules of each kind, with each literal at each place.
func TestPrintBodies(t *testing.T) {
	for kind, sign := range []string{"", "+", "-"} {
		for _, x := range litKinds() {
			for n := 1; n <= 10; n++ {
				for at := range n {
					body := slices.Repeat([]impl.Lit{isLit(atomOf("c", varTerm("C")))}, n)
					texts := slices.Repeat([]string{"c(C)"}, n)
					body[at], texts[at] = x.lit, x.text
					want := sign + "a(A) :- " + strings.Join(texts, ", ") + "."
					if n > 8 {
						want = ""
					}
					printsRule(t, ruleOf(kind+1, atomOf("a", varTerm("A")), body...), want)
				}
			}
			for _, y := range litKinds() {
				printsRule(t, ruleOf(kind+1, atomOf("a"), x.lit, y.lit), sign+"a() :- "+x.text+", "+y.text+".")
			}
		}
	}
	body, texts := []impl.Lit{}, []string{}
	for _, x := range litKinds() {
		body, texts = append(body, x.lit), append(texts, x.text)
	}
	printsRule(t, ruleOf(1, atomOf("a"), body...), "a() :- "+strings.Join(texts, ", ")+".")
	slices.Reverse(body)
	slices.Reverse(texts)
	printsRule(t, ruleOf(3, atomOf("a"), body...), "-a() :- "+strings.Join(texts, ", ")+".")
}

func TestPrintRightAndWrongRules(t *testing.T) {
	for _, r := range rightRules() {
		if checkPrintRule(t, r) == "" {
			t.Errorf("%s has no text", ruleShown(r))
		}
		withRule(r, func(p impl.Program) {
			if _, ok := checkPrint(t, p); !ok {
				t.Errorf("%s has no text", programShown(p))
			}
		})
	}
	for _, r := range wrongRules() {
		if checkPrintRule(t, r) != "" || len(varsSpelled(r)) > 0 {
			t.Errorf("%s has a text or variables", ruleShown(r))
		}
		withRule(r, func(p impl.Program) {
			if _, ok := checkPrint(t, p); ok {
				t.Errorf("%s has a text", programShown(p))
			}
		})
	}
}

func TestPrintRightAndWrongDecls(t *testing.T) {
	for _, d := range rightDecls() {
		withDecl(d, func(p impl.Program) {
			if _, ok := checkPrint(t, p); !ok {
				t.Errorf("%s has no text", programShown(p))
			}
		})
	}
	for _, d := range wrongDecls() {
		withDecl(d, func(p impl.Program) {
			if _, ok := checkPrint(t, p); ok {
				t.Errorf("%s has a text", programShown(p))
			}
		})
	}
	for i, w := range declWords() {
		for arity := -2; arity <= 9; arity++ {
			if arity >= 0 && arity <= 6 {
				prints(t, declsOf(declOf(i+1, "abcdefghijkl", arity)), w+" abcdefghijkl/"+strconv.Itoa(arity)+".\n")
			} else if _, ok := checkPrint(t, declsOf(declOf(i+1, "abcdefghijkl", arity))); ok {
				t.Errorf("the arity %d has a text", arity)
			}
		}
	}
}

// fullRule has variables, words and values at every place that a rule has, each in its turn.
func fullRule() impl.Rule {
	atom := atomOf("b", varTerm("X1"), numTerm(2), wordTerm("c3"), varTerm("X4"), numTerm(5), wordTerm("c6"))
	r := ruleOf(2, atomOf("a", varTerm("H1"), numTerm(2), wordTerm("c3"), varTerm("H4"), numTerm(5), wordTerm("c6")))
	for range 2 {
		r.Body = append(r.Body, isLit(copyAtom(atom)), notLit(copyAtom(atom)), compareLit(varTerm("Y1"), 1, numTerm(7)), compareLit(wordTerm("c8"), 4, varTerm("Y2")))
	}
	return r
}

// termPlaces are the places of the terms of a rule.
func termPlaces(r *impl.Rule) []*impl.Term {
	l := []*impl.Term{}
	for i := range r.Head.Args {
		l = append(l, &r.Head.Args[i])
	}
	for i := range r.Body {
		for j := range r.Body[i].Atom.Args {
			l = append(l, &r.Body[i].Atom.Args[j])
		}
		if r.Body[i].Kind == 3 {
			l = append(l, &r.Body[i].A, &r.Body[i].B)
		}
	}
	return l
}

// TestPrintOneTermWrong: one wrong term at any place of a rule, and there is neither a text nor a variable.
func TestPrintOneTermWrong(t *testing.T) {
	base := fullRule()
	if checkPrintRule(t, base) == "" || len(termPlaces(&base)) != 6+4*6+4*2 {
		t.Errorf("the full rule is none: %s", ruleShown(base))
	}
	for at := range termPlaces(&base) {
		for _, x := range append(rightTerms(), wrongTerms()...) {
			r := copyRule(base)
			*termPlaces(&r)[at] = x
			if text := checkPrintRule(t, r); (text != "") != termRight(x) {
				t.Errorf("with %.60q at place %d the rule has the text %s", fmt.Sprint(x), at, shortShown(text))
			}
		}
	}
}

// TestPrintOneFieldWrong: kinds, names, Ops, and what a kind doesn't have, one at a time.
func TestPrintOneFieldWrong(t *testing.T) {
	refuses := func(change func(r *impl.Rule)) {
		t.Helper()
		r := copyRule(fullRule())
		change(&r)
		if checkPrintRule(t, r) != "" {
			t.Errorf("%s has a text", ruleShown(r))
		}
		if _, ok := checkPrint(t, rulesOf(r)); ok {
			t.Errorf("the program of %s has a text", ruleShown(r))
		}
	}
	for _, n := range append(farNums(), -1, 0, 4, 5, 256+1, 1<<32+1) {
		refuses(func(r *impl.Rule) { r.Kind = n })
		for i := range 8 {
			refuses(func(r *impl.Rule) { r.Body[i].Kind = n })
		}
	}
	for _, n := range append(farNums(), -1, 0, 5, 6, 256+1, 1<<32+1) {
		for _, i := range []int{2, 3, 6, 7} {
			refuses(func(r *impl.Rule) { r.Body[i].Op = n })
		}
	}
	for _, s := range wrongNameTexts() {
		refuses(func(r *impl.Rule) { r.Head.Name = s })
		for _, i := range []int{0, 1, 4, 5} {
			refuses(func(r *impl.Rule) { r.Body[i].Atom.Name = s })
		}
	}
	for _, i := range []int{0, 1, 4, 5} {
		for op := 1; op <= 5; op++ {
			refuses(func(r *impl.Rule) { r.Body[i].Op = op })
		}
		for _, x := range []impl.Term{varTerm("X"), numTerm(1), wordTerm("a"), varTerm("x"), numTerm(-1), wordTerm("not")} {
			refuses(func(r *impl.Rule) { r.Body[i].A = x })
			refuses(func(r *impl.Rule) { r.Body[i].B = x })
		}
	}
	for _, i := range []int{2, 3, 6, 7} {
		for _, a := range []impl.Atom{atomOf("a"), atomOf("a", varTerm("X")), atomOf("", varTerm("X")), atomOf("", impl.Term{}), atomOf("not")} {
			refuses(func(r *impl.Rule) { r.Body[i].Atom = copyAtom(a) })
		}
	}
}

// TestPrintHowMany: each list at its limit and one beyond it.
func TestPrintHowMany(t *testing.T) {
	for n := range 40 {
		decls := slices.Repeat([]impl.Decl{declOf(1+n%3, "a", n%7)}, n)
		if _, ok := checkPrint(t, declsOf(decls...)); ok != (n <= 16) {
			t.Errorf("%d declarations: %v", n, ok)
		}
		rules := slices.Repeat([]impl.Rule{ruleOf(1+n%3, atomOf("a"))}, n)
		if _, ok := checkPrint(t, rulesOf(rules...)); ok != (n <= 24) {
			t.Errorf("%d rules: %v", n, ok)
		}
		if _, ok := checkPrint(t, impl.Program{Decls: decls, Rules: rules}); ok != (n <= 16) {
			t.Errorf("%d of both: %v", n, ok)
		}
		if text := checkPrintRule(t, ruleOf(1, atomOf("a"), slices.Repeat([]impl.Lit{isLit(atomOf("b"))}, n)...)); (text != "") != (n <= 8) {
			t.Errorf("%d literals: %q", n, text)
		}
	}
	for _, n := range []int{1000, 100000} {
		checkPrint(t, declsOf(slices.Repeat([]impl.Decl{declOf(1, "a", 1)}, n)...))
		checkPrint(t, rulesOf(slices.Repeat([]impl.Rule{ruleOf(1, atomOf("a"))}, n)...))
	}
	// Both lists full, each item as short as it may be.
	if text, ok := checkPrint(t, impl.Program{Decls: slices.Repeat([]impl.Decl{declOf(3, "a", 6)}, 16), Rules: slices.Repeat([]impl.Rule{ruleOf(1, atomOf("a"))}, 24)}); !ok || len(text) != 16*10+24*5 {
		t.Errorf("the shortest full program has a text of %d bytes", len(text))
	}
}

// sizedProgram has a text of n bytes, where n is some thousands: literals of 37 bytes each as long as they fit, and what is left in longer names.
func sizedProgram(n int, decls int) impl.Program {
	p := declsOf(slices.Repeat([]impl.Decl{declOf(1, "a", 6)}, decls)...)
	left := n - 11*decls - 24*(5+2)
	for i := range 24 {
		r := ruleOf(1, atomOf("a"))
		for range min(8, left/37) {
			r.Body = append(r.Body, isLit(atomOf("b", numTerm(impl.MaxNum-i), numTerm(impl.MaxNum))))
			left -= 37
		}
		if len(r.Body) == 0 {
			left += 2 // there is no ':-'
		}
		p.Rules = append(p.Rules, r)
	}
	for i := range p.Rules {
		more := min(left, 11)
		p.Rules[i].Head.Name += strings.Repeat("z", more)
		left -= more
	}
	return p
}

// TestPrintTextOfMostBytes: texts of just MaxText bytes, and one byte more and less.
func TestPrintTextOfMostBytes(t *testing.T) {
	for _, decls := range []int{0, 1, 5, 16} {
		for n := 5900; n <= 6100; n++ {
			p := sizedProgram(n, decls)
			if size := len(programWritten(p)); size != n || !programRight(p) {
				t.Fatalf("%d bytes, not %d", size, n)
			}
			text, ok := checkPrint(t, p)
			if ok != (n <= 6000) || ok && len(text) != n {
				t.Errorf("a text of %d bytes: %d, %v", n, len(text), ok)
			}
		}
	}
	most := slices.Repeat([]impl.Term{numTerm(impl.MaxNum)}, 6)
	full := ruleOf(2, atomOf("abcdefghijkl", most...), slices.Repeat([]impl.Lit{notLit(atomOf("abcdefghijkl", most...))}, 8)...)
	if text := checkPrintRule(t, full); len(text) != 1+114+4+8*(4+114)+7*2+1 {
		t.Errorf("the longest rule has a text of %d bytes", len(text))
	}
	for n := range 25 {
		checkPrint(t, rulesOf(slices.Repeat([]impl.Rule{full}, n)...))
	}
	if _, ok := checkPrint(t, impl.Program{Decls: slices.Repeat([]impl.Decl{declOf(2, "abcdefghijkl", 6)}, 16), Rules: slices.Repeat([]impl.Rule{full}, 24)}); ok {
		t.Error("the greatest program has a text")
	}
}

// TestVarsOfManyPlaces: a variable at one place alone, and another at every other one.
func TestVarsOfManyPlaces(t *testing.T) {
	base := fullRule()
	for at := range termPlaces(&base) {
		bare, same, all := copyRule(base), copyRule(base), copyRule(base)
		names := []string{}
		for i := range termPlaces(&base) {
			*termPlaces(&bare)[i] = numTerm(i)
			*termPlaces(&same)[i] = varTerm("M")
			name := fmt.Sprintf("V%02d", (i*7+at)%38)
			*termPlaces(&all)[i] = varTerm(name)
			names = append(names, name)
		}
		hasVars(t, bare)
		hasVars(t, same, "M")
		*termPlaces(&bare)[at] = varTerm("X")
		hasVars(t, bare, "X")
		*termPlaces(&same)[at] = varTerm("L")
		hasVars(t, same, "L", "M")
		slices.Sort(names)
		hasVars(t, all, names...)
	}
	// As many as there may be: all different, from the greatest to the least.
	most, names := ruleOf(1, atomOf("a")), []string{}
	one := func() impl.Term {
		names = append([]string{fmt.Sprintf("Variable%02d", 54-len(names))}, names...)
		return varTerm(names[0])
	}
	six := func() impl.Atom { return atomOf("b", one(), one(), one(), one(), one(), one()) }
	most.Head = six()
	for range 4 {
		most.Body = append(most.Body, isLit(six()), notLit(six()))
	}
	hasVars(t, most, names...)
}

// variablesRead are the variables among the tokens of a text, each once.
func variablesRead(text string) map[string]bool {
	out := map[string]bool{}
	l, _, _ := lexSpelled(text)
	for _, k := range l {
		if k.Kind == 2 {
			out[k.S] = true
		}
	}
	return out
}

// checkVarsStand: the variables rise, have no name twice, and are just those in the rule's text.
func checkVarsStand(t *testing.T, r impl.Rule) {
	t.Helper()
	text := impl.PrintRule(r)
	read := variablesRead(text)
	l := impl.VarsOf(r)
	for i, s := range l {
		if i > 0 && !bytesBefore(l[i-1], s) || !read[s] {
			t.Errorf("%s has the variables %q", shortShown(text), l)
		}
	}
	if len(l) != len(read) {
		t.Errorf("%s has %d variables, not %q", shortShown(text), len(read), l)
	}
}

// fewVars gives the terms of a rule variables of a few names, so that some come again.
func fewVars(r impl.Rule, next func() int) impl.Rule {
	r = copyRule(r)
	for _, x := range termPlaces(&r) {
		if next()%2 == 0 {
			*x = varTerm([]string{"A", "AA", "Aa", "A0", "B", "Z", "Zz", "B1"}[next()%8])
		}
	}
	return r
}

func TestManyRulesArePrinted(t *testing.T) {
	next := scatter(1601)
	for range 8000 {
		r := scatteredRule(next)
		if next()%2 == 0 {
			r = fewVars(r, next)
		}
		text := checkPrintRule(t, r)
		checkVarsStand(t, r)
		p, code, _ := impl.Parse(text)
		if code != 0 || !sameProgram(p, rulesOf(r)) {
			t.Errorf("%s is printed as %s and read as %s", ruleShown(r), shortShown(text), programShown(p))
		}
		head := checkPrintAtom(t, r.Head)
		p, code, _ = impl.Parse(head + ".")
		if code != 0 || !sameProgram(p, rulesOf(ruleOf(1, r.Head))) {
			t.Errorf("an atom is printed as %s and read as %s", shortShown(head), programShown(p))
		}
		if !strings.HasPrefix(text, []string{"", "+", "-"}[r.Kind-1]+head) {
			t.Errorf("%s doesn't begin with its head %s", shortShown(text), head)
		}
	}
}

// checkLines: the lines of a program's text are those of its declarations and then the texts of its rules.
func checkLines(t *testing.T, p impl.Program, text string) {
	t.Helper()
	want := []string{}
	for _, d := range p.Decls {
		line, _ := impl.PrintProgram(declsOf(d))
		want = append(want, strings.TrimSuffix(line, "\n"))
	}
	for _, r := range p.Rules {
		want = append(want, impl.PrintRule(r))
	}
	if got := strings.Split(text, "\n"); !slices.Equal(got, append(want, "")) {
		t.Errorf("%s doesn't have the lines %.300q", shortShown(text), want)
	}
}

// filledProgram has as many rules as there may be, with many terms and literals: its text is about as long as one may be.
func filledProgram(next func() int) impl.Program {
	p := scatteredProgram(next, 16, 0)
	for range 24 {
		r := scatteredRule(next)
		for len(r.Head.Args) < 6 {
			r.Head.Args = append(r.Head.Args, scatteredTerm(next))
		}
		for len(r.Body) < 5+next()%4 {
			r.Body = append(r.Body, scatteredLit(next))
		}
		p.Rules = append(p.Rules, r)
	}
	return p
}

func TestManyProgramsArePrintedAndRead(t *testing.T) {
	next := scatter(1602)
	seen := map[bool]int{}
	for range 3000 {
		p := scatteredProgram(next, 16, 24)
		if next()%4 == 0 {
			p = filledProgram(next)
		}
		text, ok := checkPrint(t, p)
		seen[ok]++
		if ok {
			checkLines(t, p, text)
			continue
		}
		// Without some of its rules the text is short enough.
		p.Rules = p.Rules[:3]
		text, _ = checkPrint(t, p)
		checkLines(t, p, text)
	}
	if seen[true] < 2000 || seen[false] < 100 {
		t.Errorf("only %v", seen)
	}
}

// TestManyTextsArePrintedAsRead: what is read of a text, printed and read again, is the same program, and printed again the same text.
func TestManyTextsArePrintedAsRead(t *testing.T) {
	next := scatter(1603)
	whole := 0
	for range 6000 {
		text, _ := laid(scatteredText(t, next), func(last bool) string { return scatteredGap(next, last) })
		p, code, _ := impl.Parse(text)
		if code != 0 {
			continue
		}
		first, ok := impl.PrintProgram(p)
		if !ok {
			t.Errorf("%s isn't printed", programShown(p))
			continue
		}
		whole++
		again, code, _ := impl.Parse(first)
		second, ok := impl.PrintProgram(again)
		if code != 0 || !ok || !sameProgram(again, p) || second != first {
			t.Errorf("%s is printed as %s, and read and printed again as %s", shortShown(text), shortShown(first), shortShown(second))
		}
	}
	if whole < 1000 {
		t.Errorf("only %d were printed", whole)
	}
	for _, text := range append(someTexts(), "", " # nothing\n", strings.Repeat("a(X):-b(X),X<1.", 24)) {
		p, _, _ := impl.Parse(text)
		checkPrint(t, p)
	}
}

// TestPrintWhatIsReadAndTooLong: a text without blanks may be read, and what it says need not fit in a text with them.
func TestPrintWhatIsReadAndTooLong(t *testing.T) {
	item := "a(1,2,3,4,5,6):-b(1,2,3,4,5,6),c(1,2,3,4,5,6),d(1,2,3,4,5,6),e(1,2,3,4,5,6),f(1,2,3,4,5,6),g(1,2,3,4,5,6),h(123456789012,2,3,4,5,6,"
	item = strings.TrimSuffix(item, ",") + "),i(123456789012,2,3,4,5,abcdefghijkl)."
	for n := range 25 {
		p, code, at := impl.Parse(strings.Repeat(item, n))
		if code != 0 {
			t.Fatalf("%d rules have the code %d at %d", n, code, at)
		}
		checkPrint(t, p)
	}
	rule := "a(" + strings.Repeat("281474976710655,", 5) + "1):-" + strings.TrimSuffix(strings.Repeat("b(1,2,3,4,5,6),", 8), ",") + "."
	p, code, _ := impl.Parse(strings.Repeat(rule, 24))
	if _, ok := checkPrint(t, p); code != 0 || ok || len(p.Rules) != 24 {
		t.Errorf("the code is %d, and printed: %v", code, ok)
	}
}

func TestManySpoiledAreNotPrinted(t *testing.T) {
	next := scatter(1604)
	seen := map[bool]int{}
	for range 3000 {
		r := spoiledRule(scatteredRule(next), next)
		seen[checkPrintRule(t, r) != ""]++
		checkPrintAtom(t, spoiledAtom(scatteredAtom(next), next))
		p := scatteredProgram(next, 4, 2)
		p.Rules = append(p.Rules, r)
		if len(p.Decls) > 0 && next()%4 == 0 {
			p.Decls[next()%len(p.Decls)].Arity += next()%9 - 4
		}
		checkPrint(t, p)
	}
	if seen[true] < 500 || seen[false] < 500 {
		t.Errorf("only %v", seen)
	}
}

// TestPrintStrangeTexts: names, variables and words that are very long, no letters of ours, or no UTF-8.
func TestPrintStrangeTexts(t *testing.T) {
	l := append(strangeTexts(), "a\nb", "a.", "a()", "X,Y", "#", "\x00", "a\x00", strings.Repeat("a", 1<<20), strings.Repeat("A", 1<<20), strings.Repeat("\xff", 6001))
	for _, s := range l {
		for _, x := range []string{s, "a" + s, "A" + s} {
			if wordForm.MatchString(x) || varForm.MatchString(x) {
				t.Fatalf("%.60q is no strange text", x)
			}
			printsAtom(t, atomOf(x), "")
			printsAtom(t, atomOf("a", varTerm(x)), "")
			printsAtom(t, atomOf("a", wordTerm(x)), "")
			printsRule(t, ruleOf(1, atomOf("a", varTerm("X")), isLit(atomOf(x, varTerm("X")))), "")
			printsRule(t, ruleOf(2, atomOf("a", varTerm("X")), compareLit(varTerm("X"), 1, wordTerm(x))), "")
			printsRule(t, ruleOf(3, atomOf("a", varTerm("X")), compareLit(varTerm(x), 1, varTerm("X"))), "")
			checkPrint(t, declsOf(declOf(1, x, 1)))
		}
	}
}

func TestPrintFarNumbers(t *testing.T) {
	for _, n := range append(farNums(), -1, 0, 1, impl.MaxNum-1, impl.MaxNum, impl.MaxNum+1) {
		want := ""
		if n >= 0 && n <= impl.MaxNum {
			want = strconv.Itoa(n)
		}
		for _, c := range []struct{ ahead, behind string }{{"a(", ")."}, {"a() :- ", " < X."}, {"a() :- X != ", "."}, {"a() :- b(), not c(X, ", ")."}} {
			text := ""
			if want != "" {
				text = c.ahead + want + c.behind
			}
			printsRule(t, farRule(c.ahead, n), text)
		}
		checkPrint(t, declsOf(declOf(1, "a", n)))
		checkPrint(t, declsOf(declOf(n, "a", 1)))
		checkPrintRule(t, ruleOf(n, atomOf("a", varTerm("X"))))
		checkPrintRule(t, ruleOf(1, atomOf("a"), impl.Lit{Kind: n, Atom: atomOf("b")}))
		checkPrintRule(t, ruleOf(1, atomOf("a"), compareLit(varTerm("X"), n, numTerm(n))))
		checkPrintAtom(t, atomOf("a", impl.Term{Val: impl.Value{N: n, S: "b"}}))
		checkPrintAtom(t, atomOf("a", impl.Term{Var: "X", Val: num(n)}))
	}
}

// farRule has the number n behind what stands ahead of it.
func farRule(ahead string, n int) impl.Rule {
	switch ahead {
	case "a(":
		return ruleOf(1, atomOf("a", numTerm(n)))
	case "a() :- ":
		return ruleOf(1, atomOf("a"), compareLit(numTerm(n), 3, varTerm("X")))
	case "a() :- X != ":
		return ruleOf(1, atomOf("a"), compareLit(varTerm("X"), 2, numTerm(n)))
	}
	return ruleOf(1, atomOf("a"), isLit(atomOf("b")), notLit(atomOf("c", varTerm("X"), numTerm(n))))
}

// TestVarsApart: what is written into one answer is seen in no other, and in no rule.
func TestVarsApart(t *testing.T) {
	next := scatter(1605)
	for range 500 {
		r := fewVars(scatteredRule(next), next)
		given := copyRule(r)
		first, second := impl.VarsOf(r), impl.VarsOf(r)
		want := slices.Clone(second)
		for i := range first[:cap(first)] {
			first[:cap(first)][i] = "Spoiled"
		}
		if !slices.Equal(second, want) || !sameRule(r, given) || !slices.Equal(impl.VarsOf(r), want) {
			t.Errorf("an answer was changed through another: %q", second)
		}
		checkApart(t, append(ruleSpots(r), spots(first)...), spots(second))
	}
}

// unsafeText stands in bytes that may be changed behind a call.
func unsafeText(b []byte) string { return unsafe.String(&b[0], len(b)) }

// TestPrintKeepsNothingOfTheTexts: the names, variables and words given stand in bytes that are changed behind the calls.
func TestPrintKeepsNothingOfTheTexts(t *testing.T) {
	name, variable, value := []byte("name"), []byte("Variable"), []byte("value")
	a := atomOf(unsafeText(name), varTerm(unsafeText(variable)), wordTerm(unsafeText(value)))
	r := ruleOf(2, a, isLit(a), compareLit(a.Args[0], 1, a.Args[1]))
	p := impl.Program{Decls: []impl.Decl{declOf(1, a.Name, 2)}, Rules: []impl.Rule{r}}
	atom, rule, vars := impl.PrintAtom(a), impl.PrintRule(r), impl.VarsOf(r)
	program, ok := impl.PrintProgram(p)
	bare := impl.PrintAtom(atomOf(a.Name))
	for _, b := range [][]byte{name, variable, value} {
		for i := range b {
			b[i] = '?'
		}
	}
	want := "+name(Variable, value) :- name(Variable, value), Variable = value."
	if atom != "name(Variable, value)" || rule != want || !ok || program != "state name/2.\n"+want+"\n" || bare != "name()" {
		t.Errorf("a text shares memory with what was given: %q, %q, %q, %q", atom, rule, program, bare)
	}
	if len(vars) != 1 || vars[0] != "Variable" {
		t.Errorf("a variable shares memory with what was given: %q", vars)
	}
}
