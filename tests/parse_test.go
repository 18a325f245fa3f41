package tests

import (
	"fmt"
	"math"
	"regexp"
	"slices"
	"sort"
	"strings"
	"testing"
	"unsafe"

	"loop.example/g00391/impl"
)

func varTerm(s string) impl.Term { return impl.Term{Var: s} }

func numTerm(n int) impl.Term { return impl.Term{Val: num(n)} }

func wordTerm(s string) impl.Term { return impl.Term{Val: word(s)} }

func atomOf(name string, l ...impl.Term) impl.Atom { return impl.Atom{Name: name, Args: l} }

func isLit(a impl.Atom) impl.Lit { return impl.Lit{Kind: 1, Atom: a} }

func notLit(a impl.Atom) impl.Lit { return impl.Lit{Kind: 2, Atom: a} }

func compareLit(a impl.Term, op int, b impl.Term) impl.Lit {
	return impl.Lit{Kind: 3, Op: op, A: a, B: b}
}

func ruleOf(kind int, head impl.Atom, body ...impl.Lit) impl.Rule {
	return impl.Rule{Kind: kind, Head: head, Body: body}
}

func declOf(kind int, name string, arity int) impl.Decl {
	return impl.Decl{Kind: kind, Name: name, Arity: arity}
}

func declsOf(l ...impl.Decl) impl.Program { return impl.Program{Decls: l} }

func rulesOf(l ...impl.Rule) impl.Program { return impl.Program{Rules: l} }

func sameAtom(a, b impl.Atom) bool { return a.Name == b.Name && slices.Equal(a.Args, b.Args) }

func sameLit(a, b impl.Lit) bool {
	return a.Kind == b.Kind && sameAtom(a.Atom, b.Atom) && a.Op == b.Op && a.A == b.A && a.B == b.B
}

func sameRule(a, b impl.Rule) bool {
	return a.Kind == b.Kind && sameAtom(a.Head, b.Head) && slices.EqualFunc(a.Body, b.Body, sameLit)
}

func sameProgram(a, b impl.Program) bool {
	return slices.Equal(a.Decls, b.Decls) && slices.EqualFunc(a.Rules, b.Rules, sameRule)
}

func copyAtom(a impl.Atom) impl.Atom { return atomOf(a.Name, slices.Clone(a.Args)...) }

func copyLit(l impl.Lit) impl.Lit {
	l.Atom = copyAtom(l.Atom)
	return l
}

func copyRule(r impl.Rule) impl.Rule {
	body := slices.Clone(r.Body)
	for i, l := range body {
		body[i] = copyLit(l)
	}
	return ruleOf(r.Kind, copyAtom(r.Head), body...)
}

func copyProgram(p impl.Program) impl.Program {
	rules := slices.Clone(p.Rules)
	for i, r := range rules {
		rules[i] = copyRule(r)
	}
	return impl.Program{Decls: slices.Clone(p.Decls), Rules: rules}
}

func programShown(p impl.Program) string { return fmt.Sprintf("%.300q", fmt.Sprint(p)) }

func parseShown(p impl.Program, code int, at int) string {
	return fmt.Sprintf("%s, code %d at %d", programShown(p), code, at)
}

// ruleSpots looks at literals in spare room too: what stands there has lists as well.
func ruleSpots(r impl.Rule) []any {
	out := append(spots(r.Head.Args), spots(r.Body)...)
	for _, l := range r.Body[:cap(r.Body)] {
		out = append(out, spots(l.Atom.Args)...)
	}
	return out
}

func programSpots(p impl.Program) []any {
	out := append(spots(p.Decls), spots(p.Rules)...)
	for _, r := range p.Rules[:cap(p.Rules)] {
		out = append(out, ruleSpots(r)...)
	}
	return out
}

// tokenLetter is a letter for what a token may stand as: d a declaration's first word, n
// 'not', a a NAME, V a VARIABLE, 9 a NUMBER, o an OP, : the sign ahead of a body, and each
// other sign itself.
func tokenLetter(k impl.Token) byte {
	switch {
	case k.Kind == 1 && k.S == "not":
		return 'n'
	case k.Kind == 1 && slices.Contains(keptWords(), k.S):
		return 'd'
	case k.Kind == 1:
		return 'a'
	case k.Kind == 2:
		return 'V'
	case k.Kind == 3:
		return '9'
	case slices.Contains([]string{"=", "!=", "<", "<="}, k.S):
		return 'o'
	}
	return k.S[0]
}

func tokenLetters(l []impl.Token) string {
	out := []byte{}
	for _, k := range l {
		out = append(out, tokenLetter(k))
	}
	return string(out)
}

// The document's grammar over these letters.
const (
	termPattern = `[aV9]`
	atomPattern = `a\((` + termPattern + `(,` + termPattern + `)*)?\)`
	litPattern  = `(n?` + atomPattern + `|` + termPattern + `o` + termPattern + `)`
	itemPattern = `(da/9\.|[+-]?` + atomPattern + `(:` + litPattern + `(,` + litPattern + `)*)?\.)`
)

var programForm = regexp.MustCompile(`\A` + itemPattern + `*\z`)

// programEndings: of what begins a program one of them makes a whole one.
func programEndings() []string {
	return []string{"", "a/9.", "/9.", "9.", ".", "a().", "().", ").", "a).", "oa.", "a."}
}

func beginsProgram(letters string) bool {
	return slices.ContainsFunc(programEndings(), func(end string) bool { return programForm.MatchString(letters + end) })
}

// misplacedSpelled is the number of the first token that can't stand where it does, or the
// number of all tokens. What begins no program is the beginning of none, so halving finds it.
func misplacedSpelled(letters string) int {
	return sort.Search(len(letters), func(i int) bool { return !beginsProgram(letters[:i+1]) })
}

// tooManySpelled is the number of the first token that is beyond a limit, or -1. Of all
// these tokens each can stand where it does.
func tooManySpelled(l []impl.Token) int {
	ahead := byte('.')
	decls, rules, lits, terms := 0, 0, 0, 0
	within := false
	for i, k := range l {
		x := tokenLetter(k)
		switch {
		case ahead == '.' && x == 'd':
			decls++
		case ahead == '.':
			rules++
		case ahead == ':':
			lits = 1
		case ahead == ',' && !within:
			lits++
		case ahead == '(' && x != ')':
			terms = 1
		case ahead == ',':
			terms++
		}
		if decls > 16 || rules > 24 || lits > 8 || terms > 6 || ahead == '/' && k.N > 6 {
			return i
		}
		ahead, within = x, x == '(' || within && x != ')'
	}
	return -1
}

func termSpelled(k impl.Token) impl.Term {
	if k.Kind == 2 {
		return varTerm(k.S)
	}
	return impl.Term{Val: impl.Value{N: k.N, S: k.S}}
}

func atomSpelled(l []impl.Token) impl.Atom {
	a := atomOf(l[0].S)
	for _, k := range l[2 : len(l)-1] {
		if k.S != "," {
			a.Args = append(a.Args, termSpelled(k))
		}
	}
	return a
}

func litSpelled(l []impl.Token) impl.Lit {
	switch letters := tokenLetters(l); {
	case letters[0] == 'n':
		return notLit(atomSpelled(l[1:]))
	case letters[1] == '(':
		return isLit(atomSpelled(l))
	}
	return compareLit(termSpelled(l[0]), 1+slices.Index([]string{"=", "!=", "<", "<="}, l[1].S), termSpelled(l[2]))
}

func bodySpelled(l []impl.Token) []impl.Lit {
	out := []impl.Lit{}
	letters := tokenLetters(l)
	for from := 0; from < len(l); {
		size := len(regexp.MustCompile(`\A` + litPattern).FindString(letters[from:]))
		out = append(out, litSpelled(l[from:from+size]))
		from += size + 1
	}
	return out
}

func ruleSpelled(l []impl.Token) impl.Rule {
	kind := 1 + max(0, slices.Index([]string{"", "+", "-"}, l[0].S))
	if kind > 1 {
		l = l[1:]
	}
	at := strings.IndexByte(tokenLetters(l), ':')
	if at < 0 {
		return ruleOf(kind, atomSpelled(l))
	}
	return ruleOf(kind, atomSpelled(l[:at]), bodySpelled(l[at+1:])...)
}

// programSpelled is the program of tokens that are one: each item goes up to the next '.'.
func programSpelled(l []impl.Token) impl.Program {
	p := impl.Program{}
	for len(l) > 0 {
		end := slices.IndexFunc(l, func(k impl.Token) bool { return k.S == "." })
		if kind := slices.Index(keptWords(), l[0].S); kind >= 0 {
			p.Decls = append(p.Decls, declOf(kind+1, l[1].S, l[3].N))
		} else {
			p.Rules = append(p.Rules, ruleSpelled(l[:end]))
		}
		l = l[end+1:]
	}
	return p
}

// parseSpelled is Parse by the document's words.
func parseSpelled(text string) (impl.Program, int, int) {
	l, code, at := lexSpelled(text)
	if code != 0 {
		return impl.Program{}, code, at
	}
	letters := tokenLetters(l)
	stray := misplacedSpelled(letters)
	if i := tooManySpelled(l[:stray]); i >= 0 {
		return impl.Program{}, 7, l[i].At
	}
	switch {
	case stray < len(l):
		return impl.Program{}, 6, l[stray].At
	case !programForm.MatchString(letters):
		return impl.Program{}, 6, len(text)
	}
	return programSpelled(l), 0, 0
}

func termRight(x impl.Term) bool {
	if x.Var == "" {
		return valueRight(x.Val) && !slices.Contains(keptWords(), x.Val.S)
	}
	return varForm.MatchString(x.Var) && x.Val.N == 0 && x.Val.S == ""
}

func nameRight(s string) bool { return wordForm.MatchString(s) && !slices.Contains(keptWords(), s) }

func atomRight(a impl.Atom) bool {
	for _, x := range a.Args {
		if !termRight(x) {
			return false
		}
	}
	return nameRight(a.Name) && len(a.Args) <= 6
}

func litRight(l impl.Lit) bool {
	none := impl.Term{}
	switch l.Kind {
	case 1, 2:
		return atomRight(l.Atom) && l.Op == 0 && l.A == none && l.B == none
	case 3:
		return l.Atom.Name == "" && len(l.Atom.Args) == 0 && l.Op >= 1 && l.Op <= 4 && termRight(l.A) && termRight(l.B)
	}
	return false
}

func ruleRight(r impl.Rule) bool {
	for _, l := range r.Body {
		if !litRight(l) {
			return false
		}
	}
	return r.Kind >= 1 && r.Kind <= 3 && atomRight(r.Head) && len(r.Body) <= 8
}

// programRight is ProgramOk by the document's words.
func programRight(p impl.Program) bool {
	for _, d := range p.Decls {
		if d.Kind < 1 || d.Kind > 3 || !nameRight(d.Name) || d.Arity < 0 || d.Arity > 6 {
			return false
		}
	}
	for _, r := range p.Rules {
		if !ruleRight(r) {
			return false
		}
	}
	return len(p.Decls) <= 16 && len(p.Rules) <= 24
}

// wantParse holds what Parse answers against what it should, twice, and looks at the memory of both answers.
func wantParse(t *testing.T, text string, want impl.Program, wantCode int, wantAt int) {
	t.Helper()
	first, code, at := impl.Parse(text)
	if !sameProgram(first, want) || code != wantCode || at != wantAt {
		t.Errorf("Parse of %d bytes %.200q: %s, not %s", len(text), text, parseShown(first, code, at), parseShown(want, wantCode, wantAt))
		return
	}
	second, code, at := impl.Parse(text)
	if !sameProgram(second, want) || code != wantCode || at != wantAt {
		t.Errorf("Parse of %d bytes %.200q answers %s the second time", len(text), text, parseShown(second, code, at))
	}
	checkApart(t, programSpots(first), programSpots(second))
	if code == 0 && !impl.ProgramOk(first) {
		t.Errorf("Parse of %.200q gives what ProgramOk doesn't let pass: %s", text, programShown(first))
	}
}

// checkParse holds Parse against the document's words.
func checkParse(t *testing.T, text string) int {
	t.Helper()
	want, code, at := parseSpelled(text)
	wantParse(t, text, want, code, at)
	return code
}

// givesProgram is for what is told by hand, so that the document's words written out are held against it too.
func givesProgram(t *testing.T, text string, want impl.Program) {
	t.Helper()
	wantParse(t, text, want, 0, 0)
	checkParse(t, text)
}

func givesFault(t *testing.T, text string, code int, at int) {
	t.Helper()
	wantParse(t, text, impl.Program{}, code, at)
	checkParse(t, text)
}

// givesFaultAt tells the place by the text ahead of it: the fault is at the first token behind.
func givesFaultAt(t *testing.T, ahead string, behind string, code int) {
	t.Helper()
	blanks := len(behind) - len(strings.TrimLeft(behind, " \n"))
	givesFault(t, ahead+behind, code, len(ahead)+blanks)
}

func TestParseConstants(t *testing.T) {
	for _, c := range [][2]int{
		{impl.MaxDecls, 16}, {impl.MaxRules, 24}, {impl.MaxLits, 8}, {impl.DeclState, 1}, {impl.DeclEvent, 2}, {impl.DeclView, 3},
		{impl.RulePlain, 1}, {impl.RulePlus, 2}, {impl.RuleMinus, 3}, {impl.LitIs, 1}, {impl.LitNot, 2}, {impl.LitCompare, 3},
		{impl.OpEq, 1}, {impl.OpNe, 2}, {impl.OpLt, 3}, {impl.OpLe, 4}, {impl.MaxArity, 6},
	} {
		if c[0] != c[1] {
			t.Errorf("a constant is %d, not %d", c[0], c[1])
		}
	}
}

func TestParseByHand(t *testing.T) {
	givesProgram(t, "state link/2.", declsOf(declOf(1, "link", 2)))
	givesProgram(t, "event up/1. view way/3.", declsOf(declOf(2, "up", 1), declOf(3, "way", 3)))
	givesProgram(t, "a().", rulesOf(ruleOf(1, atomOf("a"))))
	givesProgram(t, "+a(1).-b(X,c).", rulesOf(ruleOf(2, atomOf("a", numTerm(1))), ruleOf(3, atomOf("b", varTerm("X"), wordTerm("c")))))
	givesProgram(t, "view way/2.\nway(X, Y) :- link(X, Y). # one step\nway(X, Z) :- way(X, Y), link(Y, Z), X != Z, not shut(Y).\n", impl.Program{
		Decls: []impl.Decl{declOf(3, "way", 2)},
		Rules: []impl.Rule{
			ruleOf(1, atomOf("way", varTerm("X"), varTerm("Y")), isLit(atomOf("link", varTerm("X"), varTerm("Y")))),
			ruleOf(1, atomOf("way", varTerm("X"), varTerm("Z")),
				isLit(atomOf("way", varTerm("X"), varTerm("Y"))), isLit(atomOf("link", varTerm("Y"), varTerm("Z"))),
				compareLit(varTerm("X"), 2, varTerm("Z")), notLit(atomOf("shut", varTerm("Y")))),
		}})
	givesProgram(t, "forward(P) :- packet(S, I, A, B), at(S, B, P).", rulesOf(ruleOf(1, atomOf("forward", varTerm("P")),
		isLit(atomOf("packet", varTerm("S"), varTerm("I"), varTerm("A"), varTerm("B"))), isLit(atomOf("at", varTerm("S"), varTerm("B"), varTerm("P"))))))
	givesFault(t, "a(X) :- b(X)", 6, 12)
	givesFault(t, "a(X) :- b(X),.", 6, 13)
	givesFault(t, "a(X) b(X).", 6, 5)
	givesFault(t, "state a/7. view", 7, 8)
	givesFault(t, "view a. state a/7.", 6, 6)
}

// TestParseKeepsTheOrder: both lists are in the order of the text, however their items stand among one another.
func TestParseKeepsTheOrder(t *testing.T) {
	givesProgram(t, "b(). view z/1. a(). state a/2. a(). event m/0. -c().", impl.Program{
		Decls: []impl.Decl{declOf(3, "z", 1), declOf(1, "a", 2), declOf(2, "m", 0)},
		Rules: []impl.Rule{ruleOf(1, atomOf("b")), ruleOf(1, atomOf("a")), ruleOf(1, atomOf("a")), ruleOf(3, atomOf("c"))},
	})
	givesProgram(t, "state a/1.state a/1.", declsOf(declOf(1, "a", 1), declOf(1, "a", 1)))
}

func TestParseOfNothing(t *testing.T) {
	texts := []string{"", " ", "\t", "\r", "\n", " \t\r\n\n", "#", "##", "#a", "#\n", "# a(X) :- b.\n", "#state a/1.", " # ? 01 aB \n\t#\xff", strings.Repeat(" ", 6000), "#" + strings.Repeat("(", 5999), strings.Repeat("#\n", 3000)}
	for _, text := range texts {
		givesProgram(t, text, impl.Program{})
	}
	if p, _, _ := impl.Parse(""); !impl.ProgramOk(p) || !impl.ProgramOk(impl.Program{}) {
		t.Error("a program of nothing isn't right")
	}
}

type item struct {
	text string
	want impl.Program
}

// itemKinds has each kind of item, with and without what may be left out.
func itemKinds() []item {
	return []item{
		{"state a/1.", declsOf(declOf(1, "a", 1))},
		{"event b2/0.", declsOf(declOf(2, "b2", 0))},
		{"view c/6.", declsOf(declOf(3, "c", 6))},
		{"d().", rulesOf(ruleOf(1, atomOf("d")))},
		{"e(1,X,w).", rulesOf(ruleOf(1, atomOf("e", numTerm(1), varTerm("X"), wordTerm("w"))))},
		{"+f(Y).", rulesOf(ruleOf(2, atomOf("f", varTerm("Y"))))},
		{"-g().", rulesOf(ruleOf(3, atomOf("g")))},
		{"h():-i().", rulesOf(ruleOf(1, atomOf("h"), isLit(atomOf("i"))))},
		{"+j(X):-not k(X,2).", rulesOf(ruleOf(2, atomOf("j", varTerm("X")), notLit(atomOf("k", varTerm("X"), numTerm(2)))))},
		{"-l():-X<=m,n(X),not o().", rulesOf(ruleOf(3, atomOf("l"), compareLit(varTerm("X"), 4, wordTerm("m")), isLit(atomOf("n", varTerm("X"))), notLit(atomOf("o"))))},
	}
}

func joined(l ...impl.Program) impl.Program {
	p := impl.Program{}
	for _, x := range l {
		p.Decls = slices.Concat(p.Decls, x.Decls)
		p.Rules = slices.Concat(p.Rules, x.Rules)
	}
	return p
}

func TestParseEachItemBehindEachOther(t *testing.T) {
	for _, a := range itemKinds() {
		givesProgram(t, a.text, a.want)
		givesProgram(t, "\n"+a.text+"#"+a.text, a.want)
		for _, b := range itemKinds() {
			for _, gap := range []string{"", " ", "\n", "\r\n", "#.\n"} {
				givesProgram(t, a.text+gap+b.text, joined(a.want, b.want))
			}
			for _, c := range itemKinds() {
				givesProgram(t, a.text+b.text+c.text, joined(a.want, b.want, c.want))
			}
		}
	}
}

func declWords() []string { return []string{"state", "event", "view"} }

func TestParseArities(t *testing.T) {
	for i, w := range declWords() {
		for n := range 7 {
			givesProgram(t, fmt.Sprintf("%s x/%d.", w, n), declsOf(declOf(i+1, "x", n)))
		}
		for _, n := range []int{7, 8, 9, 10, 16, 60, 255, 256, 262, 65536, 1 << 32, 1<<32 + 6, impl.MaxNum - 1, impl.MaxNum} {
			far := fmt.Sprint(n)
			for _, behind := range []string{".", "", ". ", " # .", ". state", ".a(", ",", "(", "/", " 8.", " a", "..", ". a(1,2,3,4,5,6,7)."} {
				givesFaultAt(t, w+" x/", far+behind, 7)
				givesFaultAt(t, "a(). "+w+" x /\n", far+behind, 7)
			}
			givesFaultAt(t, w+" x", "("+far+").", 6)
			givesFaultAt(t, w+" ", "/"+far+".", 6)
			givesFaultAt(t, "a", ". "+w+" x/"+far+".", 6)
		}
		givesFaultAt(t, w+" x/", "281474976710656.", 3)
		givesFaultAt(t, w+" x/", "06.", 3)
		givesFaultAt(t, w+" x/", "00.", 3)
	}
}

func TestParseDeclsWhichAreNone(t *testing.T) {
	for _, w := range declWords() {
		for _, s := range []string{"y", "X", ".", "+1.", "-1.", "/1.", "(1).", "=1.", "not.", "state.", "view.", "", ","} {
			givesFaultAt(t, w+" x/", s, 6)
		}
		for _, s := range []string{".", " 1.", "(1).", "().", "", ":-1.", " y/1.", "-1.", ",", " X", " not/1."} {
			givesFaultAt(t, w+" x", s, 6)
			givesFaultAt(t, w+" x1", s, 6)
		}
		for _, s := range []string{"1/1.", "X/1.", "/1.", "(x)/1.", ".", "", "+x/1.", "-x/1.", "()/1.", "state/1.", "event/1.", "view/1.", "not/1.", "=x/1."} {
			givesFaultAt(t, w+" ", s, 6)
		}
		for _, s := range []string{"", "/", ",", ")", " 2", " y", " Y", "(", ":-b().", "=", "+", " view y/1.", " state", " not"} {
			givesFaultAt(t, w+" x/1", s, 6)
		}
		for _, sign := range []string{"+", "-", "not ", "(", "1 ", "X "} {
			at := 0
			if sign == "+" || sign == "-" {
				at = 1
			}
			givesFault(t, sign+w+" x/1.", 6, at)
		}
		givesFaultAt(t, w+" x/1.", ".", 6)
	}
}

// allTokens has a token for each of the letters, and more than one where they part.
func allTokens() []string {
	return append(allSigns(), "state", "event", "view", "not", "a", "packet", "X", "0", "7")
}

// limitCase is a list with a limit: what stands ahead of it, one of what it holds, and the
// letters of the tokens that can begin one. What it holds may be whole items.
type limitCase struct {
	ahead, one, between, behind string
	most                        int
	begins                      string
	items                       bool
}

func limitCases() []limitCase {
	var l []limitCase
	for _, w := range declWords() {
		l = append(l, limitCase{one: w + " a/1.", most: 16, begins: "d", items: true})
	}
	for _, one := range []string{"a().", "+a(1).", "-a(X):-b(X).", "a():-X=1,not b()."} {
		l = append(l, limitCase{one: one, most: 24, begins: "a+-", items: true})
	}
	for _, one := range []string{"b()", "not b(1,2)", "X=1", "b!=c", "1<Y", "b(1,2,3,4,5,6)"} {
		for _, ahead := range []string{"a():-", "+a(1,2,3,4,5,6):-", "view a/1.-a(X):-"} {
			l = append(l, limitCase{ahead: ahead, one: one, between: ",", behind: ".", most: 8, begins: "naV9"})
		}
	}
	for _, one := range []string{"b", "X", "0"} {
		l = append(l, limitCase{ahead: "a(", one: one, between: ",", behind: ").", most: 6, begins: "aV9"})
		for _, ahead := range []string{"-a():-b(", "a(1):-X=1,not b(", "a():-b(1,2,3,4,5,6),c(", "a(1,2,3,4,5,6):-b("} {
			l = append(l, limitCase{ahead: ahead, one: one, between: ",", behind: ").", most: 6, begins: "aV9"})
		}
	}
	return l
}

// upToThe is the text of a list with n elements, and with what parts them from one more.
func (c limitCase) upToThe(n int) string {
	return c.ahead + strings.Repeat(c.one+c.between, n)
}

func (c limitCase) whole(n int) string {
	return strings.TrimSuffix(c.upToThe(n), c.between) + c.behind
}

// TestParseLimits: at each limit and one beyond it, and there with every token at the place: 7 where it can stand, else 6.
func TestParseLimits(t *testing.T) {
	for _, c := range limitCases() {
		for n := 1; n <= c.most; n++ {
			if code := checkParse(t, c.whole(n)); code != 0 {
				t.Errorf("%q has the code %d", c.whole(n), code)
			}
		}
		ahead := c.upToThe(c.most)
		givesFaultAt(t, ahead, c.one+c.behind, 7)
		givesFaultAt(t, ahead, strings.Repeat(c.one+c.between, 5)+c.one+c.behind, 7)
		givesFaultAt(t, ahead+" #?\n", c.one+c.behind, 7)
		if !c.items {
			givesFaultAt(t, ahead, "", 6)
			givesFaultAt(t, ahead+" # end", "", 6)
		}
		for _, s := range allTokens() {
			k, _, _ := lexSpelled(s)
			code := 6
			if strings.Contains(c.begins, tokenLetters(k)) {
				code = 7
			}
			if c.items && strings.Contains("da+-", tokenLetters(k)) && code == 6 {
				continue // the other kind of item, which has a limit of its own
			}
			for _, behind := range []string{"", " .", " a", " =", " ("} {
				givesFaultAt(t, ahead+" ", s+behind, code)
			}
		}
	}
}

// TestParseFirstOfTwoFaults: of 6 and 7 the one counts whose token stands first.
func TestParseFirstOfTwoFaults(t *testing.T) {
	for _, c := range limitCases() {
		over := c.upToThe(c.most)
		rest := c.one + c.behind
		for _, stray := range []string{".", ")", "not not", "= =", "a(", "/", "state state", "a(1 2)."} {
			givesFaultAt(t, over, rest+stray, 7)
			givesFaultAt(t, over, c.one+c.between+stray, 7)
		}
		for _, stray := range []string{". ", ") ", "X ", "1 ", "/ ", "= ", ":- ", "not "} {
			givesFaultAt(t, "", stray+over+rest, 6)
			givesFaultAt(t, "b().", stray+over+rest, 6)
			givesFaultAt(t, "+", stray+over+rest, 6)
		}
		if c.between != "" {
			givesFaultAt(t, c.ahead+strings.Repeat(c.one+c.between, c.most-1)+c.one, "/"+c.between+rest, 6)
			givesFaultAt(t, c.ahead+c.one+c.between, c.between+c.upToThe(c.most)[len(c.ahead):]+rest, 6)
		}
	}
	givesFaultAt(t, "a(1,2,3,4,5,6,", "7,8,9):-b(1,2,3,4,5,6,7). state a/9.", 7)
	givesFaultAt(t, "state a/", "9. state b/9 a(1,2,3,4,5,6,7)", 7)
	givesFaultAt(t, "state a/6. state b/6 ", "a(1,2,3,4,5,6,7)", 6)
	givesFaultAt(t, "a(1,2,3,4,5,6,", ") :- b(1,2,3,4,5,6,7).", 6)
	givesFaultAt(t, "a(1,2,3,4,5,6) :- b(1,2,3,4,5,6,", "7).", 7)
	givesFaultAt(t, "a() :- X=1,X=1,X=1,X=1,X=1,X=1,X=1,X=1,", "X.", 7)
	givesFaultAt(t, "a() :- X=1,X=1,X=1,X=1,X=1,X=1,X=1,X", ",X=1.", 6)
	givesFaultAt(t, "a() :- X=1,X=1,X=1,X=1,X=1,X=1,X=1,b(1,2,3,4,5,6,", "7),X=1.", 7)
}

// TestParseLimitsApart: each list has its own limit, and each rule and atom its own lists.
func TestParseLimitsApart(t *testing.T) {
	atom := "b(1,2,3,4,5,6)"
	full := "a(1,2,3,4,5,6):-" + strings.TrimSuffix(strings.Repeat(atom+",", 8), ",") + "."
	decls := strings.Repeat("view c/6.", 16)
	if checkParse(t, decls+strings.Repeat(full, 24)) != 0 || checkParse(t, strings.Repeat(full, 24)+decls) != 0 {
		t.Error("the greatest program isn't read")
	}
	if p, _, _ := impl.Parse(decls + strings.Repeat(full, 24)); len(p.Decls) != 16 || len(p.Rules) != 24 || len(p.Rules[23].Body) != 8 || len(p.Rules[23].Body[7].Atom.Args) != 6 {
		t.Error("the greatest program isn't read whole")
	}
	givesFaultAt(t, decls+strings.Repeat(full, 24), "view c/1.", 7)
	givesFaultAt(t, decls+strings.Repeat(full, 24), full, 7)
	givesFaultAt(t, decls+strings.Repeat(full, 23), "view c/1."+full+full, 7)
	givesFaultAt(t, strings.Repeat("a().", 24)+strings.Repeat("view c/6.", 15), "+a().view c/1.view c/1.", 7)
	givesFaultAt(t, strings.Repeat("a().", 24)+decls, "event c/1.", 7)
	givesFaultAt(t, strings.Repeat("a().view c/0.", 16), "view c/0.", 7)
	givesFaultAt(t, strings.Repeat("a().view c/0.", 16)+strings.Repeat("-a().", 8), "-a().", 7)
	// Terms of a comparison are those of no atom.
	givesProgram(t, "a(1,2,3,4,5,6):-X=1.", rulesOf(ruleOf(1, atomOf("a", numTerm(1), numTerm(2), numTerm(3), numTerm(4), numTerm(5), numTerm(6)), compareLit(varTerm("X"), 1, numTerm(1)))))
}

// TestParseBodies: a body has at least one literal, and may be missing only together with its sign.
func TestParseBodies(t *testing.T) {
	for kind, sign := range []string{"", "+", "-"} {
		givesProgram(t, sign+"a(X).", rulesOf(ruleOf(kind+1, atomOf("a", varTerm("X")))))
		givesProgram(t, sign+"a(X):-b(X).", rulesOf(ruleOf(kind+1, atomOf("a", varTerm("X")), isLit(atomOf("b", varTerm("X"))))))
		for _, behind := range []string{"", ".", " .", ":-", "(", ",", ".a().", ",b().", "+b().", "view b/1.", ")."} {
			givesFaultAt(t, sign+"a(X) :-", behind, 6)
			givesFaultAt(t, sign+"a(X) :- b(X),", behind, 6)
		}
		for _, behind := range []string{"", " ", "# x", "\n\n"} {
			givesFault(t, sign+"a(X) :-"+behind, 6, len(sign)+7+len(behind))
			givesFault(t, sign+"a(X)"+behind, 6, len(sign)+4+len(behind))
			givesFault(t, sign+"a(X"+behind, 6, len(sign)+3+len(behind))
			givesFault(t, sign+"a"+behind, 6, len(sign)+1+len(behind))
		}
		givesFaultAt(t, sign+"a(X):-b(X)", ":-c(X).", 6)
		givesFaultAt(t, sign+"a(X):-b(X)", " c(X).", 6)
		givesFaultAt(t, sign+"a(X)", ",b(X).", 6)
		givesFaultAt(t, sign+"a(X).", ":-b(X).", 6)
	}
	for _, sign := range []string{"+", "-"} {
		for _, behind := range []string{"", ".", "+a().", "-a().", "state a/1.", "not a().", "X.", "1.", "(a).", ":-a()."} {
			givesFaultAt(t, sign, behind, 6)
			givesFaultAt(t, "a()."+sign, behind, 6)
		}
	}
	givesFaultAt(t, "a() :- ", "+b().", 6)
	givesFaultAt(t, "a() :- b(), ", "-b().", 6)
}

func TestParseAtoms(t *testing.T) {
	givesProgram(t, "a():-b(),not c().", rulesOf(ruleOf(1, atomOf("a"), isLit(atomOf("b")), notLit(atomOf("c")))))
	givesProgram(t, "a ( ) :- b\n(#\n) .", rulesOf(ruleOf(1, atomOf("a"), isLit(atomOf("b")))))
	for _, ahead := range []string{"", "+", "-", "a():-", "a():-b(),", "a():-not ", "a():-X=1,not "} {
		full := ahead + "p(X,1,w"
		givesFaultAt(t, full, "", 6)
		givesFaultAt(t, full, ".", 6)
		givesFaultAt(t, full+",", ").", 6)
		givesFaultAt(t, full+",", ",2).", 6)
		givesFaultAt(t, full+",", "", 6)
		givesFaultAt(t, full, " 2).", 6)
		givesFaultAt(t, full, "(", 6)
		givesFaultAt(t, full, "=1).", 6)
		givesFaultAt(t, full, "(1)).", 6)
		givesFaultAt(t, full+")", ").", 6)
		givesFaultAt(t, full+")", "(", 6)
		givesFaultAt(t, ahead+"p(", ",).", 6)
		givesFaultAt(t, ahead+"p(", "(", 6)
		givesFaultAt(t, ahead+"p(", ".", 6)
		givesFaultAt(t, ahead+"p(", "+1).", 6)
		givesFaultAt(t, ahead+"p(", "-1).", 6)
		givesFaultAt(t, ahead+"p(", "not).", 6)
		givesFaultAt(t, ahead+"p", ".", 6)
		givesFaultAt(t, ahead+"p", ").", 6)
		givesFaultAt(t, ahead+"p", "/1.", 6)
		givesFaultAt(t, ahead+"p", " q().", 6)
		givesFaultAt(t, ahead, "(1).", 6)
	}
}

// TestParseVariableForAName: a variable or a number is no name of an atom; in a body it is taken for a comparison's first term.
func TestParseVariableForAName(t *testing.T) {
	for _, s := range []string{"X", "State", "ABCDEFGHIJKL", "0", "7"} {
		givesFaultAt(t, "", s+"(1).", 6)
		givesFaultAt(t, "+", s+"(1).", 6)
		givesFaultAt(t, "-", s+"().", 6)
		givesFaultAt(t, "a():-not ", s+"(1).", 6)
		givesFaultAt(t, "a():-"+s, "(1).", 6)
		givesFaultAt(t, "a():-b(),"+s, "().", 6)
		givesFaultAt(t, "state ", s+"/1.", 6)
	}
}

func TestParseNot(t *testing.T) {
	givesProgram(t, "a():-not b().", rulesOf(ruleOf(1, atomOf("a"), notLit(atomOf("b")))))
	givesProgram(t, "a():-not b(1),not b(2).", rulesOf(ruleOf(1, atomOf("a"), notLit(atomOf("b", numTerm(1))), notLit(atomOf("b", numTerm(2))))))
	givesProgram(t, "a():-not1(),not#not\nb().", rulesOf(ruleOf(1, atomOf("a"), isLit(atomOf("not1")), notLit(atomOf("b")))))
	for _, ahead := range []string{"a():-", "a():-b(),", "-a():-not b(),X=1,"} {
		givesFaultAt(t, ahead+"not ", "not b().", 6)
		givesFaultAt(t, ahead+"not ", "not not b().", 6)
		givesFaultAt(t, ahead+"not ", "X=1.", 6)
		givesFaultAt(t, ahead+"not ", "1=X.", 6)
		givesFaultAt(t, ahead+"not b", "=1.", 6)
		givesFaultAt(t, ahead+"not", "=1.", 6)
		givesFaultAt(t, ahead+"not", ".", 6)
		givesFaultAt(t, ahead+"not", "", 6)
		givesFaultAt(t, ahead+"not", ",b().", 6)
		givesFaultAt(t, ahead+"not", "(b).", 6)
		givesFaultAt(t, ahead+"not", "()", 6)
		givesFaultAt(t, ahead+"b", " not b().", 6)
		givesFaultAt(t, ahead+"b()", " not.", 6)
		givesFaultAt(t, ahead+"not ", "state().", 6)
		givesFaultAt(t, ahead+"not b", "", 6)
		givesFaultAt(t, ahead+"not b()", "", 6)
	}
	givesFaultAt(t, "", "not a().", 6)
	givesFaultAt(t, "+", "not a().", 6)
	givesFaultAt(t, "a().", "not a().", 6)
	givesFaultAt(t, "a(X):-b(", "not X).", 6)
}

type givenTerm struct {
	text string
	want impl.Term
}

func givenTerms() []givenTerm {
	return []givenTerm{
		{"X", varTerm("X")}, {"Abc9", varTerm("Abc9")}, {"ABCDEFGHIJKL", varTerm("ABCDEFGHIJKL")}, {"Not", varTerm("Not")},
		{"0", numTerm(0)}, {"1", numTerm(1)}, {"42", numTerm(42)}, {"281474976710654", numTerm(1<<48 - 2)}, {"281474976710655", numTerm(1<<48 - 1)},
		{"a", wordTerm("a")}, {"z9", wordTerm("z9")}, {"abcdefghijkl", wordTerm("abcdefghijkl")}, {"zzzzzzzzzzzz", wordTerm("zzzzzzzzzzzz")},
		{"states", wordTerm("states")}, {"not1", wordTerm("not1")}, {"packet", wordTerm("packet")}, {"forward", wordTerm("forward")},
	}
}

func opSigns() []string { return []string{"=", "!=", "<", "<="} }

func TestParseTerms(t *testing.T) {
	for _, a := range givenTerms() {
		givesProgram(t, "a("+a.text+").", rulesOf(ruleOf(1, atomOf("a", a.want))))
		givesProgram(t, "a():-b("+a.text+",1).", rulesOf(ruleOf(1, atomOf("a"), isLit(atomOf("b", a.want, numTerm(1))))))
		givesProgram(t, "a():-not b(1,"+a.text+").", rulesOf(ruleOf(1, atomOf("a"), notLit(atomOf("b", numTerm(1), a.want)))))
		for _, b := range givenTerms() {
			givesProgram(t, "-a("+a.text+","+b.text+").", rulesOf(ruleOf(3, atomOf("a", a.want, b.want))))
			for i, op := range opSigns() {
				want := rulesOf(ruleOf(1, atomOf("a"), compareLit(a.want, i+1, b.want)))
				givesProgram(t, "a():-"+a.text+op+b.text+".", want)
				givesProgram(t, "a() :- "+a.text+" "+op+"\n"+b.text+" .", want)
			}
		}
	}
	givesFaultAt(t, "a(", "281474976710656).", 3)
	givesFaultAt(t, "a(", "00).", 3)
	givesFaultAt(t, "a(", "abcdefghijklm).", 4)
	givesFaultAt(t, "a(", "ABCDEFGHIJKLM).", 4)
}

func TestParseNamesOfMostLetters(t *testing.T) {
	for _, s := range []string{"a", "z", "z0", "abcdefghijkl", "a00000000000", "packet", "forward", "states", "nota", "viewx"} {
		givesProgram(t, "view "+s+"/2.", declsOf(declOf(3, s, 2)))
		givesProgram(t, s+"("+s+"):-"+s+"(),not "+s+"(),"+s+"="+s+".", rulesOf(ruleOf(1, atomOf(s, wordTerm(s)), isLit(atomOf(s)), notLit(atomOf(s)), compareLit(wordTerm(s), 1, wordTerm(s)))))
	}
	givesFaultAt(t, "view ", "abcdefghijklm/2.", 4)
	givesFaultAt(t, "", "abcdefghijklm(2).", 4)
}

// TestParseComparisonsWhichAreNone: signs that run together, two OPs in a row, a term too few or too many.
func TestParseComparisonsWhichAreNone(t *testing.T) {
	givesFaultAt(t, "a():-X<", "-1.", 6)
	givesFaultAt(t, "a():-X<", "-Y.", 6)
	givesFaultAt(t, "a():-X=", "<1.", 6)
	givesFaultAt(t, "a():-X=", "<=1.", 6)
	givesFaultAt(t, "a():-X<", " =1.", 6)
	givesFaultAt(t, "a():-X<=", "=1.", 6)
	givesFaultAt(t, "a():-X", ":-1.", 6)
	givesFaultAt(t, "a():-X", "-1=2.", 6)
	givesFaultAt(t, "a():-X", "+1=2.", 6)
	givesFaultAt(t, "a():-X=", "+1.", 6)
	givesFaultAt(t, "a():-X=1", "+1.", 6)
	givesFaultAt(t, "a():-X", "/1.", 6)
	givesFaultAt(t, "a():-X", ">1.", 2)
	givesFaultAt(t, "a():-X", "!1.", 2)
	for _, a := range givenTerms() {
		for _, op := range opSigns() {
			for _, b := range givenTerms() {
				whole := "a():-" + a.text + op + b.text
				givesFaultAt(t, whole, op+"1.", 6)
				givesFaultAt(t, whole, "(1).", 6)
				givesFaultAt(t, whole, " X.", 6)
				givesFaultAt(t, whole, "", 6)
			}
			for _, second := range opSigns() {
				givesFaultAt(t, "a():-"+a.text+op+" ", second+" 1.", 6)
			}
			for _, behind := range []string{"", ".", ",b().", ")", "(1)=2.", "not b().", "state.", "event.", "view.", "not.", "/1."} {
				givesFaultAt(t, "a():-"+a.text+op, behind, 6)
			}
			givesFaultAt(t, "a():-", op+a.text+".", 6)
			givesFaultAt(t, "a():-b()", op+a.text+".", 6)
			givesFaultAt(t, "a():-"+a.text+op+"b", "().", 6)
			givesFaultAt(t, "a(", op+a.text+").", 6)
			givesFaultAt(t, "a("+a.text, op+a.text+").", 6)
		}
		for _, behind := range []string{"", ".", ",b().", " 1.", " X.", " b.", ")", "/1.", ":-b()."} {
			givesFaultAt(t, "a():-"+a.text, behind, 6)
			givesFaultAt(t, "a():-b(),"+a.text, behind, 6)
		}
	}
}

func TestParseComparisonForAHead(t *testing.T) {
	for _, op := range opSigns() {
		for _, sign := range []string{"", "+", "-", "view a/1.", "a().", "a():-b().+"} {
			givesFaultAt(t, sign, "X"+op+"1.", 6)
			givesFaultAt(t, sign, "1"+op+"X.", 6)
			givesFaultAt(t, sign+"b", op+"X.", 6)
			givesFaultAt(t, sign+"b", op+"X:-c().", 6)
			givesFaultAt(t, sign+"b()", op+"X.", 6)
			givesFaultAt(t, sign, op+"X.", 6)
		}
	}
}

// TestParseKeptWords: none of them stands where a NAME may.
func TestParseKeptWords(t *testing.T) {
	for _, s := range keptWords() {
		for _, w := range declWords() {
			givesFaultAt(t, w+" ", s+"/1.", 6)
			givesFaultAt(t, w+" a/", s+".", 6)
			givesFaultAt(t, w+" ", s+" a/1.", 6)
		}
		for _, ahead := range []string{"+", "-", "a():-not ", "a(", "a(1,", "a():-b(", "a():-b(X,", "a():-not b(", "a():-X=", "a():-1<", "a():-b!=", "a():-X<="} {
			for _, behind := range []string{"", ".", "().", "(1).", ").", ",1).", "=1.", " a/1."} {
				givesFaultAt(t, ahead, s+behind, 6)
			}
		}
		for _, ahead := range []string{"a", "a(1", "a(1)", "a(1):-b", "a(1):-b()", "a():-X", "a():-X=1", "view a", "view a/1"} {
			givesFaultAt(t, ahead+" ", s+".", 6)
		}
	}
	for _, s := range declWords() {
		givesFaultAt(t, s, "(1).", 6)
		givesFaultAt(t, s, "=1.", 6)
		for _, ahead := range []string{"a():-", "a():-b(),"} {
			givesFaultAt(t, ahead, s+"().", 6)
			givesFaultAt(t, ahead, s+"=1.", 6)
			givesFaultAt(t, ahead, s+".", 6)
		}
	}
	givesFaultAt(t, "", "not(1).", 6)
	givesFaultAt(t, "a():-not", "(1).", 6)
	givesFaultAt(t, "a():-b(),not", "<1.", 6)
}

// someTexts are programs without a fault and without blanks, each token of which can be told apart.
func someTexts() []string {
	return []string{
		"state a/0.", "event abcdefghijkl/6.", "a().", "+a(X).", "-a(1,X,b).", "a():-b().", "a(X):-b(X),not c(X,X),X!=1.",
		"+a(X,Y):-packet(S,I,X,Y),X<Y,Y<=3,b=X.", "view v/2.v(X,Y):-e(X,Y).v(X,Z):-v(X,Y),e(Y,Z).", "-a():-not b().event c/1.-a().",
		"a(1,2,3,4,5,6):-0=0,not b(),c(X).",
	}
}

// bareTokens are the tokens of a text without a fault of Lex's.
func bareTokens(t *testing.T, text string) []impl.Token {
	t.Helper()
	l, code, _ := lexSpelled(text)
	if code != 0 {
		t.Fatalf("%q has the code %d", text, code)
	}
	return l
}

// tokenKinds has one token for each text of allTokens.
func tokenKinds(t *testing.T) []impl.Token {
	l := []impl.Token{}
	for _, s := range allTokens() {
		l = append(l, bareTokens(t, s)...)
	}
	return l
}

func spaced(last bool) string { return " " }

// checkTokens lays tokens out and holds Parse against the document's words.
func checkTokens(t *testing.T, l []impl.Token) int {
	t.Helper()
	text, _ := laid(l, spaced)
	return checkParse(t, text)
}

// TestParseTokenMissingDoubledExchanged: at each place of a program one token missing, doubled, exchanged for each other, or put in.
func TestParseTokenMissingDoubledExchanged(t *testing.T) {
	codes := map[int]int{}
	for _, text := range someTexts() {
		l := bareTokens(t, text)
		if checkTokens(t, l) != 0 {
			t.Errorf("%q isn't read", text)
		}
		for i, k := range l {
			codes[checkTokens(t, slices.Delete(slices.Clone(l), i, i+1))]++
			codes[checkTokens(t, slices.Insert(slices.Clone(l), i, k))]++
			for _, other := range tokenKinds(t) {
				codes[checkTokens(t, slices.Concat(l[:i], tokens(other), l[i+1:]))]++
				codes[checkTokens(t, slices.Insert(slices.Clone(l), i, other))]++
			}
			for j := range i {
				exchanged := slices.Clone(l)
				exchanged[i], exchanged[j] = exchanged[j], exchanged[i]
				codes[checkTokens(t, exchanged)]++
			}
		}
	}
	for code, least := range map[int]int{0: 100, 6: 1000, 7: 5} {
		if codes[code] < least {
			t.Errorf("only %d texts with the code %d", codes[code], code)
		}
	}
}

// TestParseEveryShortList has all lists of tokens, behind each place of a program.
func TestParseEveryShortList(t *testing.T) {
	pieces := []string{"state ", "not ", "a ", "X ", "1 ", "( ", ") ", ", ", ". ", "/ ", "+ ", ":- ", "= ", "- "}
	for _, ahead := range []string{"", "a():-"} {
		eachText(pieces, 4, func(text string) { checkParse(t, ahead+text) })
	}
	for _, ahead := range []string{"state ", "state a/", "state a/1.", "+", "a", "a(", "a(1", "a()", "a():-b", "a():-b(", "a():-not ", "a():-not b", "a():-X=", "a():-X=1", "a():-b(),", "a()."} {
		eachText(pieces, 3, func(text string) { checkParse(t, ahead+text) })
	}
}

// TestParseEndsTooEarly: cut behind each token of a program the text is one where an item ends, else its end is told.
func TestParseEndsTooEarly(t *testing.T) {
	for _, text := range someTexts() {
		l := bareTokens(t, text)
		for i, k := range l {
			cut := text[:k.At+len(tokenText(k))]
			for _, behind := range []string{"", " ", "\n", "\t\r\n ", "#", "# a(X).", "#x\n", " #.\n #.", strings.Repeat(" ", 200), strings.Repeat(" ", 6000-len(cut))} {
				if k.S == "." {
					givesProgram(t, cut+behind, programSpelled(l[:i+1]))
					continue
				}
				givesFault(t, cut+behind, 6, len(cut)+len(behind))
			}
		}
	}
}

// TestParseLexFaults: a fault of the tokens counts wherever a misplaced or surplus token stands.
func TestParseLexFaults(t *testing.T) {
	aheads := []string{"", "a().", "a(", ".", ") ", "not ", "a():-.", "state a/7.", "state state", "a(1,2,3,4,5,6,7).", "1 2 3", strings.Repeat("a().", 25), strings.Repeat("view a/1.", 17), "X=1.", "+ + ", "a(#?\n"}
	for _, ahead := range aheads {
		for _, wrong := range allFaults() {
			for _, behind := range []string{"", " ", " .", " )", " state a/7.", "\n", " ?", " 01"} {
				givesFaultAt(t, ahead+" ", wrong.text+behind, wrong.code)
			}
		}
		long := ahead + strings.Repeat(" ", 6000-len(ahead))
		if _, code, _ := impl.Parse(long); code == 1 {
			t.Errorf("%.20q with blanks up to the limit is too long", ahead)
		}
		for _, more := range []string{" ", "\n", ".", "?", "a"} {
			givesFault(t, long+more, 1, 0)
			givesFault(t, more+long, 1, 0)
		}
	}
	givesFault(t, "?"+strings.Repeat(".", 6000), 1, 0)
	givesFault(t, strings.Repeat(".", 6001), 1, 0)
	givesFault(t, strings.Repeat(".", 6000), 6, 0)
	for _, s := range []string{"?", "01", "aB", "abcdefghijklm"} {
		givesProgram(t, "#"+s+"\na().#"+s, rulesOf(ruleOf(1, atomOf("a"))))
	}
}

func TestParseStrangeTexts(t *testing.T) {
	for _, s := range strangeTexts() {
		givesFaultAt(t, "", s, 2)
		givesFaultAt(t, "a(X) :- b", s+"(X).", 2)
		givesFaultAt(t, ".", s, 2)
		givesFaultAt(t, "a().", s, 2)
		givesProgram(t, "a().#"+s, rulesOf(ruleOf(1, atomOf("a"))))
		givesFault(t, "#"+s+"\n)", 6, len(s)+2)
		givesFault(t, strings.Repeat(s, 6001), 1, 0)
	}
	for _, s := range append(wrongTexts(), "a\x00().", "\ufeffa().", "a()\u00a0.", "a();", "a() <- b().", "a()?", "?- a().", "a :- b.", "\"a\"().", "a('b').", "a(X|Y).", "a(_).", "a(x.y).", "a() :- b() ; c().", "a() :- \\+ b().", "%") {
		checkParse(t, s)
		checkParse(t, "a("+s+").")
		checkParse(t, "state a/"+s+".")
	}
	for _, size := range []int{6001, 12000, 1 << 16, 1 << 24} {
		for _, fill := range []string{" ", "a", "a().", "(", "#", "\xff", "a(1,"} {
			givesFault(t, strings.Repeat(fill, size), 1, 0)
		}
	}
	for _, fill := range []string{"a", "a ", "a(", "a(1,", "a():-", "(", ")", "state ", "state a/", "not ", "a():-b(),", "+", "-", ":-", "a.", "a().", "view a/1.", "a(1)", "X", "1 "} {
		checkParse(t, strings.Repeat(fill, 6000)[:6000])
		checkParse(t, strings.Repeat(fill, 6000)[:5999])
	}
	checkParse(t, "a():-"+strings.Repeat("not ", 1490))
	checkParse(t, strings.Repeat("a(", 2999))
}

func termTokens(x impl.Term) []impl.Token {
	switch {
	case x.Var != "":
		return tokens(varAt(0, x.Var))
	case x.Val.S != "":
		return tokens(nameAt(0, x.Val.S))
	}
	return tokens(numAt(0, x.Val.N))
}

func atomTokens(a impl.Atom) []impl.Token {
	l := tokens(nameAt(0, a.Name), signAt(0, "("))
	for i, x := range a.Args {
		if i > 0 {
			l = append(l, signAt(0, ","))
		}
		l = append(l, termTokens(x)...)
	}
	return append(l, signAt(0, ")"))
}

func litTokens(x impl.Lit) []impl.Token {
	switch x.Kind {
	case 1:
		return atomTokens(x.Atom)
	case 2:
		return append(tokens(nameAt(0, "not")), atomTokens(x.Atom)...)
	}
	return slices.Concat(termTokens(x.A), tokens(signAt(0, opSigns()[x.Op-1])), termTokens(x.B))
}

func ruleTokens(r impl.Rule) []impl.Token {
	l := []impl.Token{}
	if r.Kind > 1 {
		l = tokens(signAt(0, []string{"+", "-"}[r.Kind-2]))
	}
	l = append(l, atomTokens(r.Head)...)
	for i, x := range r.Body {
		l = append(l, signAt(0, []string{":-", ","}[min(i, 1)]))
		l = append(l, litTokens(x)...)
	}
	return append(l, signAt(0, "."))
}

func declTokens(d impl.Decl) []impl.Token {
	return tokens(nameAt(0, declWords()[d.Kind-1]), nameAt(0, d.Name), signAt(0, "/"), numAt(0, d.Arity), signAt(0, "."))
}

// mixedTokens writes the items of both lists in their order, mixed in any way.
func mixedTokens(p impl.Program, next func() int) []impl.Token {
	l := []impl.Token{}
	for len(p.Decls)+len(p.Rules) > 0 {
		if next()%(len(p.Decls)+len(p.Rules)) < len(p.Decls) {
			l = append(l, declTokens(p.Decls[0])...)
			p.Decls = p.Decls[1:]
			continue
		}
		l = append(l, ruleTokens(p.Rules[0])...)
		p.Rules = p.Rules[1:]
	}
	return l
}

func scatteredVar(next func() int) string {
	s := scatteredWord(next, "abzABZ019")
	return strings.ToUpper(s[:1]) + s[1:]
}

func scatteredTerm(next func() int) impl.Term {
	if next()%2 == 0 {
		return varTerm(scatteredVar(next))
	}
	return impl.Term{Val: scatteredValue(next)}
}

// scatteredCount is often the greatest.
func scatteredCount(next func() int, most int) int {
	if next()%6 == 0 {
		return most
	}
	return next() % (min(most, 4) + 1)
}

func scatteredAtom(next func() int) impl.Atom {
	a := atomOf(scatteredWord(next, "abz019"))
	for range scatteredCount(next, 6) {
		a.Args = append(a.Args, scatteredTerm(next))
	}
	return a
}

func scatteredLit(next func() int) impl.Lit {
	switch next() % 3 {
	case 0:
		return isLit(scatteredAtom(next))
	case 1:
		return notLit(scatteredAtom(next))
	}
	return compareLit(scatteredTerm(next), 1+next()%4, scatteredTerm(next))
}

func scatteredRule(next func() int) impl.Rule {
	r := ruleOf(1+next()%3, scatteredAtom(next))
	for range scatteredCount(next, 8) {
		r.Body = append(r.Body, scatteredLit(next))
	}
	return r
}

func scatteredProgram(next func() int, decls int, rules int) impl.Program {
	p := impl.Program{}
	for range scatteredCount(next, decls) {
		p.Decls = append(p.Decls, declOf(1+next()%3, scatteredWord(next, "abz019"), next()%7))
	}
	for range scatteredCount(next, rules) {
		p.Rules = append(p.Rules, scatteredRule(next))
	}
	return p
}

// TestManyProgramsAreReadAsLaid: whatever stands between the tokens, the program is the one that was laid out.
func TestManyProgramsAreReadAsLaid(t *testing.T) {
	next := scatter(1501)
	whole := 0
	for range 1500 {
		p := scatteredProgram(next, 16, 24)
		l := mixedTokens(p, next)
		for _, gap := range []func(last bool) string{tight, spaced, func(last bool) string { return scatteredGap(next, last) }} {
			text, _ := laid(l, gap)
			if len(text) > 6000 {
				wantParse(t, text, impl.Program{}, 1, 0)
				continue
			}
			wantParse(t, text, p, 0, 0)
			whole++
		}
	}
	if whole < 3000 {
		t.Errorf("only %d were short enough", whole)
	}
}

// spoiledTokens has some tokens left out, doubled, exchanged, or put in.
func spoiledTokens(t *testing.T, l []impl.Token, next func() int) []impl.Token {
	out := slices.Clone(l)
	kinds := tokenKinds(t)
	for range 1 + next()%3 {
		at := next() % (len(out) + 1)
		switch {
		case next()%3 == 0 || at == len(out):
			out = slices.Insert(out, at, kinds[next()%len(kinds)])
		case next()%3 == 0:
			out = slices.Delete(out, at, at+1)
		case next()%2 == 0:
			out[at] = kinds[next()%len(kinds)]
		default:
			out = slices.Insert(out, at, out[at:min(len(out), at+1+next()%12)]...)
		}
	}
	return out
}

// overfullProgram has too many of something in one place.
func overfullProgram(next func() int) impl.Program {
	p := scatteredProgram(next, 3, 3)
	r := scatteredRule(next)
	many := 1 + next()%3
	switch next() % 5 {
	case 0:
		p.Decls = append(p.Decls, declOf(1+next()%3, "a", 6+many))
	case 1:
		p.Decls = slices.Repeat([]impl.Decl{declOf(1, "a", 1)}, 16+many)
	case 2:
		p.Rules = slices.Repeat([]impl.Rule{ruleOf(2, atomOf("a"))}, 24+many)
	case 3:
		r.Body = slices.Repeat([]impl.Lit{compareLit(varTerm("X"), 1, numTerm(1)), notLit(atomOf("b"))}, 4+many)
	default:
		r.Head.Args = slices.Repeat([]impl.Term{scatteredTerm(next)}, 6+many)
	}
	p.Rules = slices.Insert(p.Rules, next()%(len(p.Rules)+1), r)
	return p
}

// scatteredText draws tokens: those of a program, some of these spoiled, too many of them, or any at all.
func scatteredText(t *testing.T, next func() int) []impl.Token {
	switch next() % 6 {
	case 0:
		return mixedTokens(scatteredProgram(next, 3, 3), next)
	case 1:
		return scatteredTokens(next, 12)
	case 2:
		return mixedTokens(overfullProgram(next), next)
	case 3:
		return spoiledTokens(t, mixedTokens(overfullProgram(next), next), next)
	}
	return spoiledTokens(t, mixedTokens(scatteredProgram(next, 2, 2), next), next)
}

// tokenAt is the number of the token that begins at a place; behind all of them it is how many there are.
func tokenAt(l []impl.Token, at int) int {
	return sort.Search(len(l), func(i int) bool { return l[i].At >= at })
}

// TestParseGapsChangePlacesAlone: with blanks and remarks between its tokens a text has the same program, or the same fault at the same token.
func TestParseGapsChangePlacesAlone(t *testing.T) {
	next := scatter(1502)
	codes := map[int]int{}
	for range 4000 {
		l := scatteredText(t, next)
		bare, bareLaid := laid(l, tight)
		want, wantCode, wantAt := impl.Parse(bare)
		codes[wantCode]++
		for range 3 {
			text, textLaid := laid(l, func(last bool) string { return scatteredGap(next, last) })
			got, code, at := impl.Parse(text)
			if !sameProgram(got, want) || code != wantCode || code != 0 && tokenAt(textLaid, at) != tokenAt(bareLaid, wantAt) {
				t.Errorf("%.300q is %s, but %.300q %s", bare, parseShown(want, wantCode, wantAt), text, parseShown(got, code, at))
			}
			if code == 6 && tokenAt(textLaid, at) == len(l) && at != len(text) {
				t.Errorf("%.300q ends too early at %d", text, at)
			}
			checkParse(t, text)
		}
	}
	for _, code := range []int{0, 6, 7} {
		if codes[code] < 50 {
			t.Errorf("only %d texts with the code %d", codes[code], code)
		}
	}
}

// TestParseGapAnywhere puts blanks and remarks at each place between tokens, one place at a time.
func TestParseGapAnywhere(t *testing.T) {
	for _, text := range someTexts() {
		l := bareTokens(t, text)
		for _, k := range append(slices.Clone(l), impl.Token{At: len(text)}) {
			for _, gap := range append(blanks(), "\r\n", "#\n", "# a(X) :- .\n", "#?\xff\n\t#not\n") {
				givesProgram(t, text[:k.At]+gap+text[k.At:], programSpelled(l))
			}
		}
	}
}

// TestParseJoined: a program behind another gives the items of both, or the first that is too many.
func TestParseJoined(t *testing.T) {
	next := scatter(1503)
	gap := func(last bool) string { return scatteredGap(next, false) }
	over := 0
	for range 1500 {
		p, q := scatteredProgram(next, 16, 24), scatteredProgram(next, 16, 24)
		a, _ := laid(mixedTokens(p, next), gap)
		b, _ := laid(mixedTokens(q, next), gap)
		both := joined(p, q)
		if len(a+b) > 6000 {
			continue
		}
		if len(both.Decls) <= 16 && len(both.Rules) <= 24 {
			wantParse(t, a+b, both, 0, 0)
			continue
		}
		over++
		if code := checkParse(t, a+b); code != 7 {
			t.Errorf("too many items have the code %d", code)
		}
	}
	if over < 30 {
		t.Errorf("only %d had too many items", over)
	}
}

// TestParseCutAheadOfAFault: a text cut ahead of the place that is told has no fault ahead of its end.
func TestParseCutAheadOfAFault(t *testing.T) {
	next := scatter(1504)
	cuts := map[int]int{}
	for range 4000 {
		text, placed := laid(scatteredText(t, next), func(last bool) string { return scatteredGap(next, last) })
		_, code, at := impl.Parse(text)
		if code != 6 && code != 7 {
			continue
		}
		cuts[code]++
		for _, k := range append(placed[:tokenAt(placed, at)], impl.Token{At: at}) {
			got, gotCode, gotAt := impl.Parse(text[:k.At])
			if gotCode != 0 && (gotCode != 6 || gotAt != k.At) {
				t.Errorf("%.300q has the code %d at %d, and cut at %d it is %s", text, code, at, k.At, parseShown(got, gotCode, gotAt))
			}
		}
	}
	if cuts[6] < 500 || cuts[7] < 50 {
		t.Errorf("only %v cut", cuts)
	}
}

// TestParseBehindAFaultNothingCounts: whatever stands behind the first fault, it is told.
func TestParseBehindAFaultNothingCounts(t *testing.T) {
	next := scatter(1505)
	for range 1500 {
		text, _ := laid(scatteredText(t, next), spaced)
		_, code, at := impl.Parse(text)
		if code == 0 || at == len(text) {
			continue
		}
		more, _ := laid(scatteredText(t, next), spaced)
		wantParse(t, text+"\n"+more, impl.Program{}, code, at)
	}
}

func TestParseScatteredBytes(t *testing.T) {
	next := scatter(1506)
	pieces := []string{"a", "X", "1", "(", ")", ",", ".", "/", "+", "-", ":-", "=", "<", "!=", "<=", " ", "\n", "#", "state ", "view ", "event ", "not ", "a(", "a(X)", "a():-", "b(1),", "X=1", "state a/1.", "a().", "7", "01", "?", "é", "\xff", "aB"}
	codes := map[int]int{}
	for range 20000 {
		text := ""
		for range next() % 14 {
			text += pieces[next()%(len(pieces)-4*(next()%2))]
		}
		codes[checkParse(t, text)]++
	}
	for _, code := range []int{0, 2, 3, 4, 6} {
		if codes[code] < 100 {
			t.Errorf("only %d texts with the code %d", codes[code], code)
		}
	}
}

// TestParseChangedByte: one byte of a text changed, taken out, doubled, or the text cut there.
func TestParseChangedByte(t *testing.T) {
	next := scatter(1507)
	texts := append(someTexts(), "a ( X ) :- b ( X ) , not c ( 1 ) . # end", "state a/1.\n\n+a(X) :- packet(S, I, X, B), X != 3.\n")
	for _, text := range texts {
		for at := range len(text) {
			checkParse(t, text[:at]+text[at+1:])
			checkParse(t, text[:at]+text[at:at+1]+text[at:])
			checkParse(t, text[:at])
			checkParse(t, text[at:])
			for _, x := range "aX1( ),./+-:=<!#?\n0\x00" {
				checkParse(t, text[:at]+string(x)+text[at+1:])
				checkParse(t, text[:at]+string(x)+text[at:])
			}
			checkParse(t, text[:at]+string([]byte{byte(next())})+text[at+1:])
		}
	}
}

// TestParseLongTexts: texts just below, at and just above the limit of bytes.
func TestParseLongTexts(t *testing.T) {
	next := scatter(1508)
	for range 30 {
		p := scatteredProgram(next, 16, 4)
		text, _ := laid(mixedTokens(p, next), func(last bool) string { return scatteredGap(next, false) })
		if len(text) > 5990 {
			continue
		}
		for _, size := range []int{5999, 6000} {
			wantParse(t, text+strings.Repeat(" ", size-len(text)), p, 0, 0)
			wantParse(t, strings.Repeat("\n", size-len(text))+text, p, 0, 0)
			wantParse(t, text+"#"+strings.Repeat("x", size-1-len(text)), p, 0, 0)
			givesFault(t, text+strings.Repeat(" ", size-1-len(text))+")", 6, size-1)
		}
		givesFault(t, text+strings.Repeat(" ", 6001-len(text)), 1, 0)
	}
}

// spoilRule writes over all that a rule's lists hold, spare room too.
func spoilRule(r impl.Rule) {
	for _, l := range r.Body[:cap(r.Body)] {
		spoilTerms(l.Atom.Args)
	}
	spoilTerms(r.Head.Args)
	for i := range r.Body[:cap(r.Body)] {
		r.Body[:cap(r.Body)][i] = compareLit(varTerm("Spoiled"), 9, numTerm(-9))
	}
}

func spoilTerms(l []impl.Term) {
	for i := range l[:cap(l)] {
		l[:cap(l)][i] = varTerm("Spoiled")
	}
}

// TestParseAnswersApart: no two lists of an answer, and no two answers, share memory, and what is written into one is seen in no other.
func TestParseAnswersApart(t *testing.T) {
	next := scatter(1509)
	for range 300 {
		p := scatteredProgram(next, 16, 5)
		text, _ := laid(mixedTokens(p, next), spaced)
		first, _, _ := impl.Parse(text)
		second, _, _ := impl.Parse(text)
		checkApart(t, programSpots(second), programSpots(first))
		for _, r := range first.Rules[:cap(first.Rules)] {
			spoilRule(r)
		}
		for i := range first.Decls[:cap(first.Decls)] {
			first.Decls[:cap(first.Decls)][i] = declOf(9, "Spoiled", -9)
		}
		if len(text) <= 6000 && !sameProgram(second, p) {
			t.Errorf("an answer was changed through another: %s", programShown(second))
		}
		checkParse(t, text)
	}
}

// TestParseKeepsNothingOfTheText: the text stands in bytes that are changed behind the call.
func TestParseKeepsNothingOfTheText(t *testing.T) {
	text := "state linked/2. +at(Packet,77,away) :- Xyz!=abcdefghijkl, not gone(ABCDEFGHIJKL), some(other)."
	want, _, _ := parseSpelled(strings.Clone(text))
	b := []byte(text)
	got, code, _ := impl.Parse(unsafe.String(&b[0], len(b)))
	for i := range b {
		b[i] = '?'
	}
	if code != 0 || !sameProgram(got, want) {
		t.Errorf("the program shares memory with the text: %s", programShown(got))
	}
}

func roomyAtom(a impl.Atom) impl.Atom {
	a.Args, _ = roomyList(a.Args, varTerm("Mark"))
	return a
}

// roomyProgram is a copy of a program with three places of spare room behind each of its lists.
func roomyProgram(p impl.Program) impl.Program {
	out := copyProgram(p)
	mark := ruleOf(77, atomOf("mark", varTerm("Mark")))
	for i, r := range out.Rules {
		for j, l := range r.Body {
			r.Body[j].Atom = roomyAtom(l.Atom)
		}
		out.Rules[i].Head = roomyAtom(r.Head)
		out.Rules[i].Body, _ = roomyList(r.Body, isLit(atomOf("mark")))
	}
	out.Rules, _ = roomyList(out.Rules, mark)
	out.Decls, _ = roomyList(out.Decls, declOf(77, "mark", 77))
	return out
}

func wholeAtom(a impl.Atom) impl.Atom {
	a.Args = slices.Clone(a.Args[:cap(a.Args)])
	return a
}

// wholeProgram is a copy of a program together with what stands in the spare room of its lists.
func wholeProgram(p impl.Program) impl.Program {
	out := impl.Program{Decls: slices.Clone(p.Decls[:cap(p.Decls)]), Rules: slices.Clone(p.Rules[:cap(p.Rules)])}
	for i, r := range out.Rules {
		body := slices.Clone(r.Body[:cap(r.Body)])
		for j, l := range body {
			body[j].Atom = wholeAtom(l.Atom)
		}
		out.Rules[i] = ruleOf(r.Kind, wholeAtom(r.Head), body...)
	}
	return out
}

// checkProgramOk hands a program over with spare room, asks for the answer twice, and that nothing was changed.
func checkProgramOk(t *testing.T, p impl.Program, want bool) {
	t.Helper()
	arg := roomyProgram(p)
	before := wholeProgram(arg)
	first := impl.ProgramOk(arg)
	second := impl.ProgramOk(arg)
	if !sameProgram(wholeProgram(arg), before) {
		t.Errorf("a program that was given was changed: %s", programShown(p))
	}
	if first != want || second != want || programRight(p) != want {
		t.Errorf("ProgramOk of %s: %v, then %v", programShown(p), first, second)
	}
}

func rightTerms() []impl.Term {
	l := []impl.Term{{}, varTerm("A"), varTerm("Z9"), varTerm("Not"), varTerm("State"), varTerm("ABCDEFGHIJKL"), varTerm("Abcdefghijk0")}
	for _, v := range rightValues() {
		if v.S != "not" {
			l = append(l, impl.Term{Val: v})
		}
	}
	return append(l, wordTerm("packet"), wordTerm("forward"), wordTerm("states"), wordTerm("not0"))
}

// wrongTerms: wrong variables, wrong values, kept words, and what is a variable and a value at once.
func wrongTerms() []impl.Term {
	l := []impl.Term{
		{Var: "X", Val: num(1)}, {Var: "X", Val: word("a")}, {Var: "X", Val: num(-1)}, {Var: "X", Val: impl.Value{N: 1, S: "a"}},
		{Var: "x", Val: num(1)}, {Var: "x", Val: word("a")}, {Var: "X", Val: word("X")}, {Var: "X", Val: num(impl.MaxNum)},
	}
	for _, s := range []string{"a", "x", "not", "aB", "1", "9A", "_", "_X", "X_", "X ", " X", "X\x00", "\x00", "É", "Xé", "X-Y", "\xff", "ABCDEFGHIJKLM", "A000000000000", strings.Repeat("X", 1000), strings.Repeat("X", 1<<20)} {
		l = append(l, varTerm(s))
	}
	for _, v := range wrongValues() {
		l = append(l, impl.Term{Val: v})
	}
	for _, s := range keptWords() {
		l = append(l, wordTerm(s), impl.Term{Val: impl.Value{N: 1, S: s}}, impl.Term{Var: "X", Val: word(s)}, varTerm(s))
	}
	return l
}

func rightNames() []string {
	return []string{"a", "z", "a0", "packet", "forward", "states", "not1", "vie", "abcdefghijkl", "a00000000000", "zzzzzzzzzzzz"}
}

func wrongNameTexts() []string {
	return slices.Concat([]string{"", "X", "State", "sTate", "abcdefghijkL", "NOT"}, wrongTexts(), keptWords())
}

func rightAtoms() []impl.Atom {
	l := []impl.Atom{{Name: "a", Args: []impl.Term{}}}
	for _, s := range rightNames() {
		l = append(l, atomOf(s), atomOf(s, varTerm("X"), wordTerm(s)))
	}
	for _, x := range rightTerms() {
		l = append(l, atomOf("a", x), atomOf("a", numTerm(0), x, varTerm("X"), x))
	}
	return append(l, atomOf("a", slices.Repeat(rightTerms()[:1], 6)...), atomOf("a", slices.Repeat(rightTerms()[1:2], 6)...))
}

func wrongAtoms() []impl.Atom {
	l := []impl.Atom{{}, {Args: []impl.Term{varTerm("X")}}}
	for _, s := range wrongNameTexts() {
		l = append(l, atomOf(s), atomOf(s, varTerm("X")))
	}
	for _, x := range wrongTerms() {
		l = append(l, atomOf("a", x), atomOf("a", numTerm(1), x), atomOf("a", x, numTerm(1)), atomOf("a", numTerm(1), numTerm(2), numTerm(3), numTerm(4), numTerm(5), x))
	}
	for _, n := range []int{7, 8, 12, 60, 1000, 100000} {
		l = append(l, atomOf("a", slices.Repeat([]impl.Term{varTerm("X")}, n)...), atomOf("a", make([]impl.Term, n)...))
	}
	return l
}

func rightLits() []impl.Lit {
	l := []impl.Lit{{Kind: 3, Op: 1}, {Kind: 3, Op: 4, Atom: impl.Atom{Args: []impl.Term{}}}}
	for _, a := range rightAtoms() {
		l = append(l, isLit(a), notLit(a))
	}
	for op := 1; op <= 4; op++ {
		for _, x := range rightTerms() {
			l = append(l, compareLit(x, op, varTerm("Y")), compareLit(numTerm(1), op, x), compareLit(x, op, x))
		}
	}
	return l
}

func wrongLits() []impl.Lit {
	l := []impl.Lit{{}, {Kind: 1}, {Kind: 2}, {Kind: 3}}
	a := atomOf("a", varTerm("X"))
	for _, kind := range append(farNums(), -1, 0, 4, 5, 256+1, 1<<32+1) {
		l = append(l, impl.Lit{Kind: kind, Atom: a}, impl.Lit{Kind: kind, Op: 1, A: varTerm("X"), B: numTerm(1)}, impl.Lit{Kind: kind})
	}
	for _, a := range wrongAtoms() {
		l = append(l, isLit(a), notLit(a))
	}
	for _, kind := range []int{1, 2} {
		for _, op := range append(farNums(), -1, 1, 2, 3, 4, 5) {
			l = append(l, impl.Lit{Kind: kind, Atom: a, Op: op})
		}
		for _, x := range slices.Concat(rightTerms()[1:], wrongTerms()) {
			if x != (impl.Term{}) {
				l = append(l, impl.Lit{Kind: kind, Atom: a, A: x}, impl.Lit{Kind: kind, Atom: a, B: x}, impl.Lit{Kind: kind, A: x, Op: 1, B: x})
			}
		}
	}
	return append(l, wrongCompares()...)
}

func wrongCompares() []impl.Lit {
	l := []impl.Lit{}
	for _, op := range append(farNums(), -1, 0, 5, 6, 256+1, 1<<32+1) {
		l = append(l, compareLit(varTerm("X"), op, numTerm(1)), compareLit(impl.Term{}, op, impl.Term{}))
	}
	for op := 1; op <= 4; op++ {
		for _, x := range wrongTerms() {
			l = append(l, compareLit(x, op, numTerm(1)), compareLit(varTerm("X"), op, x))
		}
		for _, a := range []impl.Atom{atomOf("a"), atomOf("a", varTerm("X")), atomOf("", varTerm("X")), atomOf("", impl.Term{}), atomOf("not"), atomOf("X"), atomOf("", make([]impl.Term, 7)...)} {
			wrong := compareLit(varTerm("X"), op, numTerm(1))
			wrong.Atom = a
			l = append(l, wrong)
		}
	}
	return l
}

func rightRules() []impl.Rule {
	l := []impl.Rule{}
	for kind := 1; kind <= 3; kind++ {
		l = append(l, ruleOf(kind, atomOf("a")), impl.Rule{Kind: kind, Head: atomOf("a"), Body: []impl.Lit{}})
		for _, a := range rightAtoms() {
			l = append(l, ruleOf(kind, a), ruleOf(kind, a, isLit(a)))
		}
	}
	for _, x := range rightLits() {
		l = append(l, ruleOf(1, atomOf("a"), x), ruleOf(2, atomOf("b"), isLit(atomOf("c")), x), ruleOf(3, atomOf("b"), slices.Repeat([]impl.Lit{x}, 8)...))
	}
	return l
}

func wrongRules() []impl.Rule {
	l := []impl.Rule{{}, {Kind: 1}, {Kind: 1, Body: []impl.Lit{isLit(atomOf("a"))}}}
	for _, kind := range append(farNums(), -1, 0, 4, 5, 256+1, 1<<32+1) {
		l = append(l, ruleOf(kind, atomOf("a")), ruleOf(kind, atomOf("a"), isLit(atomOf("b"))))
	}
	for i, a := range wrongAtoms() {
		l = append(l, ruleOf(1+i%3, a), ruleOf(1+i%3, a, isLit(atomOf("b"))))
	}
	for i, x := range wrongLits() {
		l = append(l, ruleOf(1+i%3, atomOf("a"), x), ruleOf(1+i%3, atomOf("a"), isLit(atomOf("b")), x, notLit(atomOf("b"))))
	}
	for _, n := range []int{9, 10, 16, 24, 1000, 50000} {
		l = append(l, ruleOf(1, atomOf("a"), slices.Repeat([]impl.Lit{isLit(atomOf("b"))}, n)...), ruleOf(2, atomOf("a"), slices.Repeat([]impl.Lit{compareLit(impl.Term{}, 1, impl.Term{})}, n)...))
	}
	return l
}

func rightDecls() []impl.Decl {
	l := []impl.Decl{}
	for kind := 1; kind <= 3; kind++ {
		for arity := range 7 {
			l = append(l, declOf(kind, "a", arity))
		}
		for _, s := range rightNames() {
			l = append(l, declOf(kind, s, 1))
		}
	}
	return l
}

func wrongDecls() []impl.Decl {
	l := []impl.Decl{{}, {Kind: 1}, {Name: "a"}}
	for _, n := range farNums() {
		l = append(l, declOf(n, "a", 1), declOf(1, "a", n))
	}
	for _, n := range []int{-1, 0, 4, 5, 256 + 1, 1<<32 + 1} {
		l = append(l, declOf(n, "a", 1))
	}
	for kind := 1; kind <= 3; kind++ {
		for _, n := range []int{-1, -6, 7, 8, 60, 256, 256 + 6, 1<<32 + 6} {
			l = append(l, declOf(kind, "a", n))
		}
		for _, s := range wrongNameTexts() {
			l = append(l, declOf(kind, s, 1))
		}
	}
	return l
}

func plainProgram() impl.Program {
	return impl.Program{
		Decls: []impl.Decl{declOf(1, "link", 2), declOf(2, "up", 1), declOf(3, "way", 2)},
		Rules: []impl.Rule{
			ruleOf(1, atomOf("way", varTerm("X"), varTerm("Y")), isLit(atomOf("link", varTerm("X"), varTerm("Y"))), notLit(atomOf("shut")), compareLit(varTerm("X"), 2, numTerm(3))),
			ruleOf(2, atomOf("link", numTerm(1), varTerm("X")), isLit(atomOf("up", varTerm("X")))),
			ruleOf(3, atomOf("link", wordTerm("a"), wordTerm("b"))),
		},
	}
}

// withDecl and withRule put one more in at each place of a program, and in the place of each that it has.
func withDecl(d impl.Decl, call func(p impl.Program)) {
	call(declsOf(d))
	base := plainProgram()
	for i := range len(base.Decls) + 1 {
		p := plainProgram()
		p.Decls = slices.Insert(p.Decls, i, d)
		call(p)
		if i < len(base.Decls) {
			p = plainProgram()
			p.Decls[i] = d
			call(p)
		}
	}
}

func withRule(r impl.Rule, call func(p impl.Program)) {
	call(rulesOf(r))
	p := plainProgram()
	p.Rules = slices.Insert(p.Rules, len(r.Body)%4, r)
	call(p)
	p = plainProgram()
	p.Rules[len(r.Head.Args)%3] = r
	call(p)
}

func TestProgramOkOfWhatIsRight(t *testing.T) {
	checkProgramOk(t, impl.Program{}, true)
	checkProgramOk(t, impl.Program{Decls: []impl.Decl{}, Rules: []impl.Rule{}}, true)
	checkProgramOk(t, plainProgram(), true)
	for _, d := range rightDecls() {
		withDecl(d, func(p impl.Program) { checkProgramOk(t, p, true) })
	}
	for _, r := range rightRules() {
		withRule(r, func(p impl.Program) { checkProgramOk(t, p, true) })
	}
}

func TestProgramOkOfWhatIsWrong(t *testing.T) {
	for _, d := range wrongDecls() {
		withDecl(d, func(p impl.Program) { checkProgramOk(t, p, false) })
	}
	for _, r := range wrongRules() {
		withRule(r, func(p impl.Program) { checkProgramOk(t, p, false) })
	}
}

func TestProgramOkByHand(t *testing.T) {
	a := atomOf("a", varTerm("X"))
	for _, c := range []struct {
		p    impl.Program
		want bool
	}{
		{declsOf(declOf(1, "not", 0)), false},
		{declsOf(declOf(3, "packet", 0)), true},
		{declsOf(declOf(3, "a", 6)), true},
		{declsOf(declOf(3, "a", 7)), false},
		{declsOf(declOf(3, "a", -1)), false},
		{declsOf(declOf(4, "a", 1)), false},
		{declsOf(declOf(0, "a", 1)), false},
		{declsOf(declOf(1, "a", 1), declOf(1, "a", 1)), true},
		{rulesOf(ruleOf(0, a)), false},
		{rulesOf(ruleOf(4, a)), false},
		{rulesOf(ruleOf(3, a)), true},
		{rulesOf(ruleOf(1, impl.Atom{})), false},
		{rulesOf(ruleOf(1, atomOf("a", impl.Term{}))), true},
		{rulesOf(ruleOf(1, atomOf("a", impl.Term{Var: "X", Val: num(1)}))), false},
		{rulesOf(ruleOf(1, atomOf("a", varTerm("x")))), false},
		{rulesOf(ruleOf(1, atomOf("a", wordTerm("view")))), false},
		{rulesOf(ruleOf(1, a, impl.Lit{Kind: 3, Op: 1})), true},
		{rulesOf(ruleOf(1, a, impl.Lit{Kind: 3, Op: 5})), false},
		{rulesOf(ruleOf(1, a, impl.Lit{Kind: 3, Op: 0})), false},
		{rulesOf(ruleOf(1, a, impl.Lit{Kind: 3, Op: 1, Atom: a})), false},
		{rulesOf(ruleOf(1, a, impl.Lit{Kind: 1, Op: 1, Atom: a})), false},
		{rulesOf(ruleOf(1, a, impl.Lit{Kind: 2, Atom: a, A: varTerm("X")})), false},
		{rulesOf(ruleOf(1, a, impl.Lit{Kind: 2, Atom: a, B: numTerm(1)})), false},
		{rulesOf(ruleOf(1, a, impl.Lit{Kind: 2, Atom: a, B: numTerm(0)})), true},
		{rulesOf(ruleOf(1, a, impl.Lit{Kind: 4, Atom: a})), false},
	} {
		checkProgramOk(t, c.p, c.want)
	}
}

// TestProgramOkHowMany: each list at its limit and beyond it, the others being full or not.
func TestProgramOkHowMany(t *testing.T) {
	full := ruleOf(1, atomOf("a", make([]impl.Term, 6)...), slices.Repeat([]impl.Lit{notLit(atomOf("b", make([]impl.Term, 6)...))}, 8)...)
	for _, decls := range []int{0, 1, 15, 16, 17, 18, 24, 25, 1000, 100000} {
		for _, rules := range []int{0, 1, 16, 17, 23, 24, 25, 26, 1000} {
			p := impl.Program{Decls: slices.Repeat([]impl.Decl{declOf(1, "a", 6)}, decls), Rules: slices.Repeat([]impl.Rule{full}, rules)}
			checkProgramOk(t, p, decls <= 16 && rules <= 24)
		}
	}
	for n := range 20 {
		checkProgramOk(t, rulesOf(ruleOf(1, atomOf("a"), slices.Repeat([]impl.Lit{isLit(atomOf("b"))}, n)...)), n <= 8)
		checkProgramOk(t, rulesOf(ruleOf(1, atomOf("a", make([]impl.Term, n)...))), n <= 6)
		checkProgramOk(t, rulesOf(ruleOf(1, atomOf("a"), isLit(atomOf("b", make([]impl.Term, n)...)))), n <= 6)
		checkProgramOk(t, rulesOf(ruleOf(1, atomOf("a"), notLit(atomOf("b", make([]impl.Term, n)...)))), n <= 6)
	}
	if full.Body[7].Atom.Args[5] = wordTerm("not"); impl.ProgramOk(rulesOf(full)) {
		t.Error("the last term isn't looked at")
	}
}

// TestProgramOkOfKindsAndOps has all small kinds and ops together.
func TestProgramOkOfKindsAndOps(t *testing.T) {
	for kind := -3; kind <= 7; kind++ {
		checkProgramOk(t, declsOf(declOf(kind, "a", 1)), kind >= 1 && kind <= 3)
		checkProgramOk(t, rulesOf(ruleOf(kind, atomOf("a"))), kind >= 1 && kind <= 3)
		for op := -3; op <= 7; op++ {
			bare := impl.Lit{Kind: kind, Op: op}
			checkProgramOk(t, rulesOf(ruleOf(1, atomOf("a"), bare)), kind == 3 && op >= 1 && op <= 4)
			bare.Atom = atomOf("b")
			checkProgramOk(t, rulesOf(ruleOf(1, atomOf("a"), bare)), (kind == 1 || kind == 2) && op == 0)
		}
	}
}

// TestProgramOkAsksForNoDeclarations: names that are declared nowhere, twice, or with another arity are none of its business.
func TestProgramOkAsksForNoDeclarations(t *testing.T) {
	a := atomOf("a", varTerm("X"))
	checkProgramOk(t, rulesOf(ruleOf(1, a, isLit(atomOf("b")), notLit(atomOf("c", numTerm(1))))), true)
	checkProgramOk(t, impl.Program{Decls: []impl.Decl{declOf(1, "a", 2), declOf(3, "a", 2), declOf(2, "forward", 0)}, Rules: []impl.Rule{ruleOf(2, a), ruleOf(1, atomOf("forward"))}}, true)
}

// spoiledTerm makes a term of another, right or wrong.
func spoiledTerm(x impl.Term, next func() int) impl.Term {
	switch next() % 5 {
	case 0:
		x.Val = append(bothValues(), word("view"))[next()%(len(bothValues())+1)]
	case 1:
		x.Var = []string{"", "X", "x", "X-", "not", "ABCDEFGHIJKLM"}[next()%6]
	case 2:
		return rightTerms()[next()%len(rightTerms())]
	case 3:
		return wrongTerms()[next()%len(wrongTerms())]
	}
	return x
}

func spoiledAtom(a impl.Atom, next func() int) impl.Atom {
	a = copyAtom(a)
	switch {
	case next()%4 == 0:
		a.Name = append(wrongNameTexts(), rightNames()...)[next()%(len(wrongNameTexts())+len(rightNames()))]
	case next()%4 == 0:
		a.Args = append(a.Args, scatteredTerm(next))
	case len(a.Args) > 0:
		at := next() % len(a.Args)
		a.Args[at] = spoiledTerm(a.Args[at], next)
	}
	return a
}

func spoiledLit(x impl.Lit, next func() int) impl.Lit {
	switch next() % 6 {
	case 0:
		x.Kind = next()%6 - 1
	case 1:
		x.Op = next()%7 - 1
	case 2:
		x.A = spoiledTerm(x.A, next)
	case 3:
		x.B = spoiledTerm(x.B, next)
	default:
		x.Atom = spoiledAtom(x.Atom, next)
	}
	return x
}

func spoiledRule(r impl.Rule, next func() int) impl.Rule {
	r = copyRule(r)
	switch {
	case next()%6 == 0:
		r.Kind = next()%6 - 1
	case next()%5 == 0:
		r.Head = spoiledAtom(r.Head, next)
	case next()%6 == 0:
		r.Body = append(r.Body, scatteredLit(next))
	case len(r.Body) > 0:
		at := next() % len(r.Body)
		r.Body[at] = spoiledLit(r.Body[at], next)
	}
	return r
}

func TestManyProgramsSpoiled(t *testing.T) {
	next := scatter(1510)
	seen := map[bool]int{}
	for range 6000 {
		p := scatteredProgram(next, 16, 5)
		checkProgramOk(t, p, true)
		for range 1 + next()%2 {
			if len(p.Rules) > 0 {
				at := next() % len(p.Rules)
				p.Rules[at] = spoiledRule(p.Rules[at], next)
			}
			if len(p.Decls) > 0 && next()%4 == 0 {
				p.Decls[next()%len(p.Decls)].Arity += next()%9 - 4
			}
		}
		want := programRight(p)
		seen[want]++
		checkProgramOk(t, p, want)
	}
	if seen[true] < 500 || seen[false] < 500 {
		t.Errorf("only %v", seen)
	}
}

// TestProgramOkIsWhatIsRead: a right program, laid out, is read as it is, where it is short enough; one that isn't right is read from no text of its own.
func TestProgramOkIsWhatIsRead(t *testing.T) {
	next := scatter(1511)
	for range 1500 {
		p := scatteredProgram(next, 4, 4)
		if len(p.Rules) > 0 {
			at := next() % len(p.Rules)
			p.Rules[at] = spoiledRule(p.Rules[at], next)
		}
		if !impl.ProgramOk(p) {
			continue
		}
		text, _ := laid(mixedTokens(p, next), spaced)
		wantParse(t, text, p, 0, 0)
	}
}

func TestProgramOkFarNumbers(t *testing.T) {
	for _, n := range append(farNums(), math.MaxInt32, math.MinInt32) {
		p := plainProgram()
		p.Decls[1].Arity = n
		checkProgramOk(t, p, false)
		p = plainProgram()
		p.Rules[0].Body[2].B = numTerm(n)
		checkProgramOk(t, p, n >= 0 && n <= impl.MaxNum)
		p = plainProgram()
		p.Rules[2].Head.Args[1] = impl.Term{Val: impl.Value{N: n, S: "b"}}
		checkProgramOk(t, p, false)
		p = plainProgram()
		p.Rules[0].Body[2].Op = n
		checkProgramOk(t, p, false)
		p = plainProgram()
		p.Rules[0].Body[0].Kind = n
		checkProgramOk(t, p, false)
	}
}
