package tests

import (
	"fmt"
	"regexp"
	"slices"
	"strconv"
	"strings"
	"testing"
	"unsafe"

	"loop.example/g00391/impl"
)

func nameAt(at int, s string) impl.Token { return impl.Token{Kind: 1, S: s, At: at} }

func varAt(at int, s string) impl.Token { return impl.Token{Kind: 2, S: s, At: at} }

func numAt(at int, n int) impl.Token { return impl.Token{Kind: 3, N: n, At: at} }

func signAt(at int, s string) impl.Token { return impl.Token{Kind: 4, S: s, At: at} }

func tokens(l ...impl.Token) []impl.Token { return l }

// allSigns are those of the document, in its order.
func allSigns() []string {
	return []string{":-", "!=", "<=", "(", ")", ",", ".", "=", "<", "+", "-", "/"}
}

func blanks() []string { return []string{"\t", "\n", "\r", " "} }

var gapForm = regexp.MustCompile(`\A([\t\n\r ]|#[^\n]*)*`)

var letteredForm = regexp.MustCompile(`\A[A-Za-z0-9]+`)

var signForm = regexp.MustCompile(`\A(:-|!=|<=|[(),.=<+/-])`)

var varForm = regexp.MustCompile(`\A[A-Z][A-Za-z0-9]{0,11}\z`)

// lexSpelled is Lex by the document's words.
func lexSpelled(text string) ([]impl.Token, int, int) {
	if len(text) > 6000 {
		return nil, 1, 0
	}
	l := []impl.Token{}
	for at := 0; ; {
		at += len(gapForm.FindString(text[at:]))
		if at == len(text) {
			return l, 0, 0
		}
		s := letteredForm.FindString(text[at:])
		if s == "" {
			s = signForm.FindString(text[at:])
		}
		token, code := tokenSpelled(s, at)
		if code != 0 {
			return nil, code, at
		}
		l = append(l, token)
		at += len(s)
	}
}

func tokenSpelled(s string, at int) (impl.Token, int) {
	switch {
	case s == "":
		return impl.Token{}, 2
	case s[0] >= '0' && s[0] <= '9':
		if v, ok := textValueSpelled(s); ok {
			return numAt(at, v.N), 0
		}
		return impl.Token{}, 3
	case wordForm.MatchString(s):
		return nameAt(at, s), 0
	case varForm.MatchString(s):
		return varAt(at, s), 0
	case letteredForm.MatchString(s):
		return impl.Token{}, 4
	}
	return signAt(at, s), 0
}

// tokenText is the text that a token was read from: no two texts give one token.
func tokenText(k impl.Token) string {
	if k.Kind == 3 {
		return strconv.Itoa(k.N)
	}
	return k.S
}

func lexShown(l []impl.Token, code int, at int) string {
	s := fmt.Sprintf("%.200q", fmt.Sprint(l))
	return fmt.Sprintf("%d tokens %s, code %d at %d", len(l), s, code, at)
}

// checkLex holds Lex against the document's words.
func checkLex(t *testing.T, text string) ([]impl.Token, int) {
	t.Helper()
	want, wantCode, wantAt := lexSpelled(text)
	wantLex(t, text, want, wantCode, wantAt)
	return want, wantCode
}

func wantLex(t *testing.T, text string, want []impl.Token, wantCode int, wantAt int) {
	t.Helper()
	got, code, at := impl.Lex(text)
	if !slices.Equal(got, want) || code != wantCode || at != wantAt {
		t.Errorf("Lex of %d bytes %.60q: %s, not %s", len(text), text, lexShown(got, code, at), lexShown(want, wantCode, wantAt))
	}
	checkTokenPlaces(t, text, got)
	again, againCode, againAt := impl.Lex(text)
	if !slices.Equal(again, got) || againCode != code || againAt != at {
		t.Errorf("Lex of %d bytes %.60q answers %s, then %s", len(text), text, lexShown(got, code, at), lexShown(again, againCode, againAt))
	}
}

// checkTokenPlaces: the bytes from a token's place on begin with it, and no two tokens overlap.
func checkTokenPlaces(t *testing.T, text string, l []impl.Token) {
	t.Helper()
	free := 0
	for _, k := range l {
		if k.At < free || k.At > len(text) || !strings.HasPrefix(text[k.At:], tokenText(k)) {
			t.Errorf("%.60q doesn't have the token %v at its place, behind %d", text, k, free)
			return
		}
		free = k.At + len(tokenText(k))
	}
}

func reads(t *testing.T, text string, want ...impl.Token) {
	t.Helper()
	wantLex(t, text, want, 0, 0)
}

func faults(t *testing.T, text string, code int, at int) {
	t.Helper()
	wantLex(t, text, nil, code, at)
}

func TestLexConstants(t *testing.T) {
	for _, c := range [][2]int{{impl.MaxText, 6000}, {impl.TokName, 1}, {impl.TokVar, 2}, {impl.TokNum, 3}, {impl.TokSign, 4}} {
		if c[0] != c[1] {
			t.Errorf("a constant is %d, not %d", c[0], c[1])
		}
	}
}

func TestLexByHand(t *testing.T) {
	reads(t, "state link/2.", nameAt(0, "state"), nameAt(6, "link"), signAt(10, "/"), numAt(11, 2), signAt(12, "."))
	reads(t, "a(X) :- b(1). # c",
		nameAt(0, "a"), signAt(1, "("), varAt(2, "X"), signAt(3, ")"), signAt(5, ":-"),
		nameAt(8, "b"), signAt(9, "("), numAt(10, 1), signAt(11, ")"), signAt(12, "."))
	reads(t, "+at(P,7):-not packet(P),P!=3.",
		signAt(0, "+"), nameAt(1, "at"), signAt(3, "("), varAt(4, "P"), signAt(5, ","), numAt(6, 7), signAt(7, ")"), signAt(8, ":-"),
		nameAt(10, "not"), nameAt(14, "packet"), signAt(20, "("), varAt(21, "P"), signAt(22, ")"), signAt(23, ","),
		varAt(24, "P"), signAt(25, "!="), numAt(27, 3), signAt(28, "."))
	reads(t, "-x() :- 1 < Y, Y <= z9",
		signAt(0, "-"), nameAt(1, "x"), signAt(2, "("), signAt(3, ")"), signAt(5, ":-"),
		numAt(8, 1), signAt(10, "<"), varAt(12, "Y"), signAt(13, ","), varAt(15, "Y"), signAt(17, "<="), nameAt(20, "z9"))
	faults(t, "-x() :- 1 < Y, Y <= zZ9", 4, 20)
	faults(t, "state link/02.", 3, 11)
	faults(t, "state link%2.", 2, 10)
}

// TestLexTakesKeptWords: they are names as others are.
func TestLexTakesKeptWords(t *testing.T) {
	reads(t, "state event view not", nameAt(0, "state"), nameAt(6, "event"), nameAt(12, "view"), nameAt(17, "not"))
	reads(t, "not1 notstate State", nameAt(0, "not1"), nameAt(5, "notstate"), varAt(14, "State"))
}

func TestLexOfNothing(t *testing.T) {
	for _, text := range []string{"", " ", "\t", "\n", "\r", " \t\r\n \n\r\t ", strings.Repeat(" ", 6000), strings.Repeat("\n", 6000), strings.Repeat("\r\t", 3000)} {
		reads(t, text)
	}
	for _, text := range []string{"#", "##", "#\n", "#a(X).", "#a\n#b\n#c", " #? \n\t#!\r\n", "#" + strings.Repeat("x", 5999), strings.Repeat("#\n", 3000)} {
		reads(t, text)
	}
}

// TestLexOfMostBytes: MaxText bytes are taken, one more isn't, whatever stands in them.
func TestLexOfMostBytes(t *testing.T) {
	for _, fill := range []string{" ", "a ", "(", "<=", "Xy.", "1 ", "#\n", "? ", "01 ", "aB ", "#", "a", "9", "A", "\x00", "\xff", "é"} {
		most := strings.Repeat(fill, 6000)[:6000]
		if _, code := checkLex(t, most); code == 1 {
			t.Errorf("6000 bytes of %q are too many", fill)
		}
		for _, more := range []string{" ", "a", "?", "\n", ".", "\x00", "\xff", "é", "#", " 01"} {
			faults(t, most+more, 1, 0)
			faults(t, more+most, 1, 0)
		}
	}
	for _, size := range []int{5998, 5999, 6000} {
		gap := strings.Repeat(" ", size-1)
		reads(t, gap+"z", nameAt(size-1, "z"))
		reads(t, gap+".", signAt(size-1, "."))
		faults(t, gap+"?", 2, size-1)
		reads(t, "#"+gap)
	}
	reads(t, strings.Repeat(" ", 5985)+"281474976710655", numAt(5985, 281474976710655))
	reads(t, strings.Repeat(" ", 5998)+":-", signAt(5998, ":-"))
	faults(t, strings.Repeat(" ", 5999)+":", 2, 5999)
	faults(t, strings.Repeat(" ", 5999)+":-", 1, 0)
	all := make([]impl.Token, 6000)
	for i := range all {
		all[i] = signAt(i, "<")
	}
	reads(t, strings.Repeat("<", 6000), all...)
}

func TestLexTooLongBehindAFault(t *testing.T) {
	for _, fault := range []string{"?", "01", "aB", ":", "!", "abcdefghijklm", "ABCDEFGHIJKLM", "281474976710656", "\x80", "é"} {
		full := fault + strings.Repeat(" ", 6000-len(fault))
		if _, code, at := impl.Lex(full); code < 2 || at != 0 {
			t.Errorf("%q ahead of blanks up to the limit: code %d at %d", fault, code, at)
		}
		faults(t, full+" ", 1, 0)
		faults(t, full+"?", 1, 0)
		faults(t, strings.Repeat(" ", 6000)+fault, 1, 0)
		faults(t, strings.Repeat(" ", 3000)+fault+strings.Repeat(" ", 3001), 1, 0)
	}
	for _, size := range []int{6001, 6002, 12000, 65536, 100000, 1 << 26} {
		for _, fill := range []string{" ", "a", "1", "A", "(", "#", "?", "\xff", "\n"} {
			faults(t, strings.Repeat(fill, size), 1, 0)
		}
	}
}

// TestLexBlanks has each blank ahead of the first token, between two, and behind the last.
func TestLexBlanks(t *testing.T) {
	for _, x := range blanks() {
		reads(t, x+"a", nameAt(1, "a"))
		reads(t, "a"+x, nameAt(0, "a"))
		reads(t, "a"+x+"b", nameAt(0, "a"), nameAt(2, "b"))
		reads(t, "1"+x+"2", numAt(0, 1), numAt(2, 2))
		reads(t, "A"+x+"B", varAt(0, "A"), varAt(2, "B"))
		reads(t, "a"+x+"B"+x+"0"+x+"c", nameAt(0, "a"), varAt(2, "B"), numAt(4, 0), nameAt(6, "c"))
		reads(t, "<"+x+"=", signAt(0, "<"), signAt(2, "="))
		reads(t, "-"+x+"-", signAt(0, "-"), signAt(2, "-"))
		faults(t, ":"+x+"-", 2, 0)
		faults(t, "!"+x+"=", 2, 0)
		for _, y := range blanks() {
			reads(t, x+y+"a"+y+x+"."+x+x+y, nameAt(2, "a"), signAt(5, "."))
		}
	}
}

// TestLexOtherBlanks: what looks like a blank elsewhere begins no token here.
func TestLexOtherBlanks(t *testing.T) {
	for _, x := range []string{"\v", "\f", "\x00", "\x1c", "\x85", "\xa0", "\u0085", "\u00a0", "\u2003", "\u2028", "\u3000", "\ufeff"} {
		faults(t, x, 2, 0)
		faults(t, "a"+x+"b", 2, 1)
		faults(t, x+" a", 2, 0)
		faults(t, " "+x, 2, 1)
		reads(t, "a #"+x+"\nb", nameAt(0, "a"), nameAt(4+len(x), "b"))
	}
}

func TestLexRemarks(t *testing.T) {
	reads(t, "#x\na", nameAt(3, "a"))
	reads(t, "#x\na#y", nameAt(3, "a"))
	reads(t, "a#b", nameAt(0, "a"))
	reads(t, "a#b\nc", nameAt(0, "a"), nameAt(4, "c"))
	reads(t, "1#2\n3", numAt(0, 1), numAt(4, 3))
	reads(t, "A#B\nC", varAt(0, "A"), varAt(4, "C"))
	reads(t, "<#\n=", signAt(0, "<"), signAt(3, "="))
	reads(t, "a #", nameAt(0, "a"))
	reads(t, "a #\n", nameAt(0, "a"))
	reads(t, "a # b # c\nd # e", nameAt(0, "a"), nameAt(10, "d"))
	reads(t, "##a\n##\nb", nameAt(7, "b"))
	reads(t, "#\n\n#\n.", signAt(5, "."))
	reads(t, "# a \r b \t c \v\n.", signAt(14, "."))
	reads(t, "#a\rb")
	reads(t, "#a\rb\nc", nameAt(5, "c"))
	reads(t, "#a\r\nc", nameAt(4, "c"))
	reads(t, "#? ! : 01 aB \x00\x80\xff é\na", nameAt(20, "a"))
	reads(t, "a. #? ! : 01 aB \xc3", nameAt(0, "a"), signAt(1, "."))
	faults(t, "#a\n?", 2, 3)
	faults(t, "?#a\n", 2, 0)
	faults(t, "#\n01#", 3, 2)
	faults(t, "#\naB#\n?", 4, 2)
	faults(t, ":#\n-", 2, 0)
	faults(t, "!#\n=", 2, 0)
}

// TestLexRemarkEveryByte: of all bytes only 10 ends a remark.
func TestLexRemarkEveryByte(t *testing.T) {
	for x := range 256 {
		s := string([]byte{byte(x)})
		if x == 10 {
			reads(t, "#"+s+"a", nameAt(2, "a"))
			continue
		}
		reads(t, "#"+s+"a")
		reads(t, "#"+s+s+"\na", nameAt(4, "a"))
		reads(t, "b#"+s+"?\na", nameAt(0, "b"), nameAt(5, "a"))
		reads(t, "b#"+s, nameAt(0, "b"))
	}
}

// oneByte is what a byte alone is read as, told by hand.
func oneByte(x byte) ([]impl.Token, int) {
	s := string([]byte{x})
	switch {
	case strings.Contains("\t\n\r #", s):
		return nil, 0
	case x >= '0' && x <= '9':
		return tokens(numAt(0, int(x)-48)), 0
	case x >= 'a' && x <= 'z':
		return tokens(nameAt(0, s)), 0
	case x >= 'A' && x <= 'Z':
		return tokens(varAt(0, s)), 0
	case strings.Contains("(),.=<+-/", s):
		return tokens(signAt(0, s)), 0
	}
	return nil, 2
}

func TestLexEveryByteAlone(t *testing.T) {
	counts := map[int]int{}
	for x := range 256 {
		want, code := oneByte(byte(x))
		wantLex(t, string([]byte{byte(x)}), want, code, 0)
		switch {
		case code == 2:
			counts[-1]++
		case len(want) == 0:
			counts[0]++
		default:
			counts[want[0].Kind]++
		}
	}
	for kind, want := range map[int]int{-1: 180, 0: 5, 1: 26, 2: 26, 3: 10, 4: 9} {
		if counts[kind] != want {
			t.Errorf("%d bytes of the kind %d, not %d", counts[kind], kind, want)
		}
	}
}

// TestLexEveryByteBehindAToken: with a blank between, it is read as it is alone.
func TestLexEveryByteBehindAToken(t *testing.T) {
	for _, first := range append(allSigns(), "a", "zz9", "A", "Zz9", "0", "7", "281474976710655", "abcdefghijkl", "ABCDEFGHIJKL") {
		ahead, code := checkLex(t, first)
		if len(ahead) != 1 || code != 0 {
			t.Fatalf("%q is no token", first)
		}
		for x := range 256 {
			s := string([]byte{byte(x)})
			checkLex(t, first+s)
			checkLex(t, s+first)
			checkLex(t, first+s+first)
			one, code := oneByte(byte(x))
			if code != 0 {
				faults(t, first+" "+s, code, len(first)+1)
				continue
			}
			reads(t, first+" "+s, append(slices.Clone(ahead), moved(one, len(first)+1)...)...)
		}
	}
}

// moved is l with places that are further on.
func moved(l []impl.Token, by int) []impl.Token {
	out := slices.Clone(l)
	for i := range out {
		out[i].At += by
	}
	return out
}

func TestLexByteBehindATokenByHand(t *testing.T) {
	for x := range 256 {
		s := string([]byte{byte(x)})
		if _, code := oneByte(byte(x)); code == 2 {
			faults(t, "a"+s, 2, 1)
			faults(t, "A"+s, 2, 1)
			faults(t, "0"+s, 2, 1)
			faults(t, "("+s, 2, 1)
			faults(t, "a1 "+s+"b", 2, 3)
		}
	}
	reads(t, "a0", nameAt(0, "a0"))
	reads(t, "A0a", varAt(0, "A0a"))
	reads(t, "10", numAt(0, 10))
	faults(t, "aA", 4, 0)
	faults(t, "0a", 3, 0)
	faults(t, "0A", 3, 0)
	faults(t, "00", 3, 0)
}

func TestLexSignsAlone(t *testing.T) {
	for _, s := range allSigns() {
		reads(t, s, signAt(0, s))
		reads(t, " "+s+" ", signAt(1, s))
		reads(t, "a"+s+"b", nameAt(0, "a"), signAt(1, s), nameAt(1+len(s), "b"))
		reads(t, "A"+s+"1", varAt(0, "A"), signAt(1, s), numAt(1+len(s), 1))
		reads(t, s+"#"+s+"\n"+s, signAt(0, s), signAt(2*len(s)+2, s))
	}
}

// TestLexSignPairs: with nothing between, only < and a sign that begins with = become another one.
func TestLexSignPairs(t *testing.T) {
	for _, a := range allSigns() {
		for _, b := range allSigns() {
			reads(t, a+" "+b, signAt(0, a), signAt(len(a)+1, b))
			if a == "<" && b == "=" {
				reads(t, a+b, signAt(0, "<="))
				continue
			}
			reads(t, a+b, signAt(0, a), signAt(len(a), b))
		}
	}
}

func TestLexSignsByHand(t *testing.T) {
	reads(t, "<=", signAt(0, "<="))
	reads(t, "=<", signAt(0, "="), signAt(1, "<"))
	reads(t, "<==", signAt(0, "<="), signAt(2, "="))
	reads(t, "<<=", signAt(0, "<"), signAt(1, "<="))
	reads(t, "=<=", signAt(0, "="), signAt(1, "<="))
	reads(t, "==", signAt(0, "="), signAt(1, "="))
	reads(t, "< =", signAt(0, "<"), signAt(2, "="))
	reads(t, "<=!=<", signAt(0, "<="), signAt(2, "!="), signAt(4, "<"))
	reads(t, ":-", signAt(0, ":-"))
	reads(t, ":--", signAt(0, ":-"), signAt(2, "-"))
	reads(t, ":-:-", signAt(0, ":-"), signAt(2, ":-"))
	reads(t, "-:-", signAt(0, "-"), signAt(1, ":-"))
	reads(t, "!==", signAt(0, "!="), signAt(2, "="))
	reads(t, "=!=", signAt(0, "="), signAt(1, "!="))
	reads(t, "<!=", signAt(0, "<"), signAt(1, "!="))
	reads(t, "+-", signAt(0, "+"), signAt(1, "-"))
	reads(t, "-1", signAt(0, "-"), numAt(1, 1))
	reads(t, "1-1", numAt(0, 1), signAt(1, "-"), numAt(2, 1))
	reads(t, "1.5", numAt(0, 1), signAt(1, "."), numAt(2, 5))
	reads(t, "()", signAt(0, "("), signAt(1, ")"))
	reads(t, "//", signAt(0, "/"), signAt(1, "/"))
	for _, s := range []string{":", ":=", ":a", "::-", ": -", "!", "!a", "!!=", "! =", "!<", "!-", ":!=", ">", ">=", "<>"} {
		at := 0
		if s == "<>" {
			at = 1
		}
		faults(t, s, 2, at)
		faults(t, "a "+s, 2, at+2)
	}
	faults(t, "=:", 2, 1)
	faults(t, "-:", 2, 1)
	faults(t, "<!", 2, 1)
	faults(t, ":-:", 2, 2)
	faults(t, "!=!", 2, 2)
	faults(t, "=>", 2, 1)
}

// eachText calls with every text of at most n pieces.
func eachText(pieces []string, n int, call func(text string)) {
	eachList(pieces, n, func(l []string) { call(strings.Join(l, "")) })
}

func TestLexEveryShortText(t *testing.T) {
	eachText(strings.Split(":-!=<", ""), 6, func(text string) { checkLex(t, text) })
	eachText(strings.Split("aB01(:-<=#\n ?", ""), 4, func(text string) { checkLex(t, text) })
	eachText(strings.Split("#\n\r a", ""), 6, func(text string) { checkLex(t, text) })
	for x := range 256 {
		for y := range 256 {
			checkLex(t, string([]byte{byte(x), byte(y)}))
		}
	}
}

func TestLexNumbers(t *testing.T) {
	for _, n := range []int{0, 1, 9, 10, 42, 99, 100, 65535, 1 << 31, 1 << 32, 281474976710654, 281474976710655} {
		s := strconv.Itoa(n)
		reads(t, s, numAt(0, n))
		reads(t, " "+s+" ", numAt(1, n))
		reads(t, "("+s+")", signAt(0, "("), numAt(1, n), signAt(1+len(s), ")"))
		reads(t, "a "+s+"#"+s, nameAt(0, "a"), numAt(2, n))
		for _, more := range []string{"a", "z", "A", "Z", "x1", "e3", "abcdefghijkl"} {
			faults(t, s+more, 3, 0)
			faults(t, "a "+s+more, 3, 2)
		}
		for _, ahead := range []string{"0", "00", strings.Repeat("0", 40)} {
			faults(t, ahead+s, 3, 0)
			faults(t, "("+ahead+s+")", 3, 1)
		}
	}
	for _, s := range []string{
		"00", "01", "007", "0a", "1a", "9Z", "1x", "0x1", "1e3", "281474976710656", "281474976710660", "999999999999999", "1000000000000000", "9223372036854775807",
		"9223372036854775808", "18446744073709551616", "18446744073709551617", strings.Repeat("9", 5999), strings.Repeat("0", 5999), "1" + strings.Repeat("0", 48), "0b1", "0o7",
	} {
		faults(t, s, 3, 0)
		faults(t, " "+s[:min(len(s), 5998)]+" ", 3, 1)
	}
	faults(t, "1_0", 2, 1)
	reads(t, "+1", signAt(0, "+"), numAt(1, 1))
}

func TestLexNames(t *testing.T) {
	for _, s := range []string{"a", "z", "ab", "a0", "z9", "a1b2c3", "not", "state", "abcdefghijkl", "a00000000000", "zzzzzzzzzzzz", "mnopqrstuvwx"} {
		reads(t, s, nameAt(0, s))
		reads(t, "\n"+s+"\n", nameAt(1, s))
		reads(t, "("+s+")", signAt(0, "("), nameAt(1, s), signAt(1+len(s), ")"))
	}
	for _, s := range []string{
		"abcdefghijklm", "a000000000000", "aB", "aBc", "abC", "zZ", "a1B", "aA1", "abcdefghijkL", "abcdefghijklM", "stateS",
		strings.Repeat("a", 5998), "a" + strings.Repeat("0", 5990), "a" + strings.Repeat("B", 5990),
	} {
		faults(t, s, 4, 0)
		faults(t, "\n"+s+"\n", 4, 1)
		faults(t, "("+s[:min(len(s), 5990)]+"?)", 4, 1)
	}
	for size := 1; size <= 14; size++ {
		checkLex(t, strings.Repeat("k", size))
		for at := range size {
			s := []byte(strings.Repeat("k", size))
			for _, x := range []byte("kK9_ \x80") {
				s[at] = x
				checkLex(t, string(s))
			}
		}
	}
}

func TestLexVariables(t *testing.T) {
	for _, s := range []string{"A", "Z", "AB", "Ab", "A0", "Z9", "A1b2C3", "Not", "ABCDEFGHIJKL", "A00000000000", "Abcdefghijkl", "ZZZZZZZZZZZZ", "NopqRSTu9vwX"} {
		reads(t, s, varAt(0, s))
		reads(t, "\r"+s+"\r", varAt(1, s))
		reads(t, "("+s+")", signAt(0, "("), varAt(1, s), signAt(1+len(s), ")"))
	}
	for _, s := range []string{"ABCDEFGHIJKLM", "A000000000000", "Abcdefghijklm", strings.Repeat("A", 5998), "A" + strings.Repeat("b", 5990), "Z" + strings.Repeat("9", 5990)} {
		faults(t, s, 4, 0)
		faults(t, "\r"+s+"\r", 4, 1)
		faults(t, "("+s[:min(len(s), 5990)]+"?)", 4, 1)
	}
}

type fault struct {
	text string
	code int
}

// allFaults are texts that are a fault at their first byte.
func allFaults() []fault {
	return []fault{
		{"?", 2}, {":", 2}, {"!", 2}, {">", 2}, {"_", 2}, {"\x00", 2}, {"\x7f", 2}, {"\x80", 2}, {"\xff", 2}, {"é", 2}, {"'", 2}, {"_a", 2}, {"?01", 2},
		{"01", 3}, {"00", 3}, {"1a", 3}, {"9Z", 3}, {"281474976710656", 3}, {"0000000000000000000", 3}, {"7abcdefghijklm", 3},
		{"aB", 4}, {"abcdefghijklm", 4}, {"a0Z", 4}, {"ABCDEFGHIJKLM", 4}, {"A0000000000000", 4},
	}
}

// goodTexts have no fault, and a sign or nothing at their end.
func goodTexts() []string {
	return []string{"", " ", "\n", "(", "a(", "a(X) :-", "1 A b <=", "#?\n", "a#01\n", "\t\t9,", "state a/2.\r\n", "#\r01\n.", strings.Repeat("-", 500)}
}

// TestLexFirstFault: whatever stands behind it, the first fault counts, where it begins.
func TestLexFirstFault(t *testing.T) {
	for _, good := range goodTexts() {
		if _, code := checkLex(t, good); code != 0 {
			t.Fatalf("%q has a fault", good)
		}
		for _, a := range allFaults() {
			faults(t, good+a.text, a.code, len(good))
			for _, gap := range []string{" ", "\n", "#\n", "(", " a "} {
				faults(t, good+a.text+gap, a.code, len(good))
				for _, b := range allFaults() {
					faults(t, good+a.text+gap+b.text, a.code, len(good))
				}
			}
		}
	}
}

func TestLexFaultsByHand(t *testing.T) {
	faults(t, "a ? b", 2, 2)
	faults(t, "a? 01 bB", 2, 1)
	faults(t, "01? bB", 3, 0)
	faults(t, "bB? 01", 4, 0)
	faults(t, "1é", 2, 1)
	faults(t, "1aé", 3, 0)
	faults(t, "aé", 2, 1)
	faults(t, "aBé", 4, 0)
	faults(t, "Aé", 2, 1)
	faults(t, "a:b", 2, 1)
	faults(t, "a!b", 2, 1)
	faults(t, "a(1,02)", 3, 4)
	faults(t, "a(1,2x)", 3, 4)
	faults(t, "a(1,xY)", 4, 4)
	faults(t, "a(1,XY) : - b", 2, 8)
	faults(t, "a \"b\"", 2, 2)
	faults(t, "a_b", 2, 1)
	faults(t, "a;b", 2, 1)
}

// strangeTexts are letters, digits and blanks beyond ASCII in one to four bytes, and what is no UTF-8.
func strangeTexts() []string {
	return []string{
		"\xe9", "\xc9", "\xaa", "\xb2", "é", "É", "ß", "\u017f", "Ж", "٣", "\u0085", "\u00a0", "ａ", "Ａ", "１", "\u212a", "\u212b", "的", "\u2028", "\ufeff", "\ufffd", "𝐀", "𝐚", "𝟏", "😀", "𐐀",
		"\x80", "\xbf", "\xc0", "\xc1\x81", "\xc1\xa1", "\xc0\xb0", "\xe0\x81\x81", "\xf0\x80\x81\x81", "\xc3", "\xe2\x82", "\xf0\x9f\x98", "\xed\xa0\x80", "\xf4\x90\x80\x80", "\xff\xfe", "\xfe",
	}
}

func TestLexStrangeTexts(t *testing.T) {
	for _, s := range strangeTexts() {
		faults(t, s, 2, 0)
		faults(t, s+"a", 2, 0)
		faults(t, "a"+s, 2, 1)
		faults(t, "A"+s+"b", 2, 1)
		faults(t, "12"+s+"3", 2, 2)
		faults(t, "abcdefghijkl"+s, 2, 12)
		faults(t, "abcdefghijklm"+s, 4, 0)
		faults(t, "01"+s, 3, 0)
		faults(t, "a "+s+" b", 2, 2)
		faults(t, "<"+s, 2, 1)
		reads(t, "#"+s)
		reads(t, "a#"+s+s+"\nb", nameAt(0, "a"), nameAt(3+2*len(s), "b"))
		faults(t, strings.Repeat(s, 6001), 1, 0)
	}
}

func checkKept(t *testing.T, s string, want bool) {
	t.Helper()
	if got := impl.Kept(s); got != want {
		t.Errorf("Kept of %d bytes %.30q: %v", len(s), s, got)
	}
}

func keptWords() []string { return []string{"state", "event", "view", "not"} }

func TestKept(t *testing.T) {
	for _, s := range keptWords() {
		checkKept(t, s, true)
		for x := range 256 {
			more := string([]byte{byte(x)})
			checkKept(t, s+more, false)
			checkKept(t, more+s, false)
		}
		for at := range len(s) {
			checkKept(t, s[:at]+s[at+1:], false)
			checkKept(t, s[:at]+strings.ToUpper(s[at:at+1])+s[at+1:], false)
			checkKept(t, s[:at], false)
			checkKept(t, s[at:], at == 0)
			for x := range 256 {
				changed := []byte(s)
				changed[at] = byte(x)
				checkKept(t, string(changed), byte(x) == s[at])
			}
		}
		checkKept(t, strings.ToUpper(s), false)
		for _, other := range keptWords() {
			checkKept(t, s+other, false)
			checkKept(t, s+" "+other, false)
		}
	}
	for _, s := range []string{
		"", " ", "packet", "send", "state1", "states", "stat", "views", "nots", "events", "on", "ton", "weiv", "etats", "no", "rule", "and", "or", "true", ":-", "1", "X",
		"\u017ftate", "n\u043et", "\xff", "not\x00", strings.Repeat("not", 1000), strings.Repeat("state", 100000),
	} {
		checkKept(t, s, false)
	}
	for _, s := range append(wrongTexts(), strangeTexts()...) {
		checkKept(t, s, false)
	}
}

// TestKeptOfAllShortWords has all texts of the kept words' letters, up to the longest of them.
func TestKeptOfAllShortWords(t *testing.T) {
	kept := 0
	eachText(strings.Split("notviewsa", ""), 5, func(s string) {
		if impl.Kept(s) {
			kept++
			if !slices.Contains(keptWords(), s) {
				t.Errorf("%q is kept", s)
			}
		}
	})
	if kept != 4 {
		t.Errorf("%d words are kept", kept)
	}
}

func checkVarOk(t *testing.T, s string, want bool) {
	t.Helper()
	if got := impl.VarOk(s); got != want {
		t.Errorf("VarOk of %d bytes %.30q: %v", len(s), s, got)
	}
}

func TestVarOk(t *testing.T) {
	for _, s := range []string{"A", "Z", "M", "AZ", "Az", "A0", "A9", "Za09", "XYZ", "Switch1", "State", "NOT", "ABCDEFGHIJKL", "Abcdefghijkl", "A12345678901", "ZzZzZzZzZzZz"} {
		checkVarOk(t, s, true)
	}
	for _, s := range []string{
		"", "a", "z", "aA", "aBC", "0", "9", "9A", "0A", "1", "_", "_A", "A_", "A-", "A-B", "-A", "+A", "A.", "A(", "A B", " A", "A ", "A\n", "\tA", "\x00", "A\x00", "\x00A", "A#", "#A",
		"ABCDEFGHIJKLM", "Abcdefghijklm", "A123456789012", "A@", "@A", "[A", "A[", "A\x60", "A{", "A/", "A:", "A\x7f", "A\x80", "A\xff", "\x80", "\xff", "\xc1", "AÉ", "É", "Éa", "AbcdefghijÉ", "Abcdefghijké",
		strings.Repeat("A", 13), strings.Repeat("A", 1000), strings.Repeat("A", 1<<24), strings.Repeat("A", 11) + "é", "A" + strings.Repeat("b", 100000),
	} {
		checkVarOk(t, s, false)
	}
	for _, s := range strangeTexts() {
		checkVarOk(t, s, false)
		checkVarOk(t, "A"+s, false)
		checkVarOk(t, "A"+s+"b", false)
		checkVarOk(t, s+"A", false)
	}
	for _, s := range wrongTexts() {
		checkVarOk(t, s, s == "A" || s == "Ab")
	}
}

func TestVarOkEveryByte(t *testing.T) {
	for x := range 256 {
		for size := 1; size <= 13; size++ {
			for at := range size {
				s := []byte("Q" + strings.Repeat("k", size-1))
				s[at] = byte(x)
				checkVarOk(t, string(s), varForm.MatchString(string(s)))
			}
		}
	}
	good := 0
	eachText(strings.Split("aZ0.", ""), 5, func(s string) {
		checkVarOk(t, s, varForm.MatchString(s))
		if impl.VarOk(s) {
			good++
		}
	})
	// Behind the capital each of up to four places has three choices.
	if good != 1+3+9+27+81 {
		t.Errorf("%d variables", good)
	}
}

// checkOneToken: a text is one token of a kind just where that kind's own function takes it.
func checkOneToken(t *testing.T, s string) int {
	t.Helper()
	l, code, _ := impl.Lex(s)
	one := code == 0 && len(l) == 1 && l[0].At == 0 && tokenText(l[0]) == s
	n, isNum := impl.TextNum(s)
	for _, c := range []struct {
		takes bool
		token impl.Token
	}{{impl.WordOk(s), nameAt(0, s)}, {impl.VarOk(s), varAt(0, s)}, {isNum, numAt(0, n)}} {
		if c.takes != (one && l[0] == c.token) {
			t.Errorf("%.40q: taken %v, and read as %.100s with code %d", s, c.takes, fmt.Sprint(l), code)
		}
	}
	if one {
		return l[0].Kind
	}
	return 0
}

func TestLexAgreesWithTheKinds(t *testing.T) {
	seen := map[int]int{}
	next := scatter(1401)
	letters := "abzABZ0019_ é"
	for range 30000 {
		s := make([]byte, next()%15)
		for i := range s {
			s[i] = letters[next()%len(letters)]
		}
		seen[checkOneToken(t, string(s))]++
	}
	for _, s := range slices.Concat(wrongTexts(), strangeTexts(), keptWords()) {
		checkOneToken(t, s)
	}
	for kind := range 4 {
		if seen[kind] < 50 {
			t.Errorf("only %d of the kind %d", seen[kind], kind)
		}
	}
}

// scatteredToken draws a token, of all lengths that its kind has.
func scatteredToken(next func() int) impl.Token {
	switch next() % 6 {
	case 0:
		return nameAt(0, scatteredWord(next, "abz019"))
	case 1:
		s := scatteredWord(next, "abzABZ019")
		return varAt(0, strings.ToUpper(s[:1])+s[1:])
	case 2:
		return numAt(0, next()>>(next()%48))
	}
	return signAt(0, allSigns()[next()%12])
}

func scatteredTokens(next func() int, most int) []impl.Token {
	l := make([]impl.Token, next()%(most+1))
	for i := range l {
		l[i] = scatteredToken(next)
	}
	return l
}

// scatteredGap draws blanks and remarks; only the last remark of a text may have no end.
func scatteredGap(next func() int, last bool) string {
	s := ""
	for range next() % 4 {
		switch next() % 3 {
		case 0:
			s += "#" + scatteredRemark(next) + "\n"
		default:
			s += blanks()[next()%4]
		}
	}
	if last && next()%3 == 0 {
		s += "#" + scatteredRemark(next)
	}
	return s
}

func scatteredRemark(next func() int) string {
	s := []byte{}
	for range next() % 6 {
		x := byte(next())
		if next()%2 == 0 {
			x = "#? aB01:-\r\t"[next()%11]
		}
		if x != 10 {
			s = append(s, x)
		}
	}
	return string(s)
}

// apart: without anything between them the two would be read as something else.
func apart(a impl.Token, b impl.Token) bool {
	return a.Kind != 4 && b.Kind != 4 || a.S == "<" && b.S == "="
}

// laid writes tokens with gaps ahead of each and behind all, and gives them with the places that they got.
func laid(l []impl.Token, gap func(last bool) string) (string, []impl.Token) {
	text := gap(false)
	out := []impl.Token{}
	for i, k := range l {
		if i > 0 {
			between := gap(false)
			if between == "" && apart(l[i-1], k) {
				between = " "
			}
			text += between
		}
		k.At = len(text)
		out = append(out, k)
		text += tokenText(k)
	}
	return text + gap(true), out
}

func tight(last bool) string { return "" }

// TestLexReadsWhatIsLaid: with blanks and remarks between, a text has the same tokens but for their places.
func TestLexReadsWhatIsLaid(t *testing.T) {
	next := scatter(1402)
	for range 6000 {
		l := scatteredTokens(next, 20)
		bare, placed := laid(l, tight)
		reads(t, bare, placed...)
		for range 3 {
			text, placed := laid(l, func(last bool) string { return scatteredGap(next, last) })
			reads(t, text, placed...)
			checkLex(t, text)
		}
	}
}

// TestLexGapAnywhere puts each blank and some remarks at each place between tokens of a text, one place at a time.
func TestLexGapAnywhere(t *testing.T) {
	gaps := append(blanks(), "\r\n", "  ", "#\n", "# ? \n", "#a(X) :- 01.\n", "#\r#\n\t", "\n#\xff\xc3\n")
	next := scatter(1403)
	for range 300 {
		text, placed := laid(scatteredTokens(next, 12), func(last bool) string { return scatteredGap(next, false) })
		for i, at := range endsAndStarts(text, placed) {
			for _, gap := range gaps {
				behind := placed[i/2:]
				want := append(slices.Clone(placed[:i/2]), moved(behind, len(gap))...)
				reads(t, text[:at]+gap+text[at:], want...)
			}
		}
	}
}

// endsAndStarts are two places between tokens for each of them and for the end: behind the token ahead, and where it begins.
func endsAndStarts(text string, l []impl.Token) []int {
	out := []int{0}
	for _, k := range l {
		out = append(out, k.At, k.At+len(tokenText(k)))
	}
	return append(out, len(text))
}

// TestLexCut: a text cut between two tokens gives the tokens of its parts.
func TestLexCut(t *testing.T) {
	next := scatter(1404)
	for range 2000 {
		text, placed := laid(scatteredTokens(next, 12), func(last bool) string { return scatteredGap(next, last) })
		for i, at := range endsAndStarts(text, placed) {
			reads(t, text[:at], placed[:i/2]...)
			reads(t, text[at:], moved(placed[i/2:], -at)...)
		}
	}
}

// TestLexJoined: two texts put behind one another, the first ended by a byte 10, have the tokens of both.
func TestLexJoined(t *testing.T) {
	next := scatter(1405)
	gap := func(last bool) string { return scatteredGap(next, last) }
	for range 4000 {
		a, first := laid(scatteredTokens(next, 10), gap)
		b, second := laid(scatteredTokens(next, 10), gap)
		reads(t, a+"\n"+b, append(first, moved(second, len(a)+1)...)...)
	}
}

// TestLexFaultAnywhere: a fault put between two tokens is told at its place, and the text ahead of it has none.
func TestLexFaultAnywhere(t *testing.T) {
	next := scatter(1406)
	for range 4000 {
		text, placed := laid(scatteredTokens(next, 12), func(last bool) string { return scatteredGap(next, false) })
		places := endsAndStarts(text, placed)
		i := next() % len(places)
		wrong := allFaults()[next()%len(allFaults())]
		ahead := text[:places[i]] + " "
		faults(t, ahead+wrong.text+" "+text[places[i]:], wrong.code, len(ahead))
		reads(t, ahead, placed[:i/2]...)
	}
}

// TestLexScatteredBytes: texts of all bytes, and of those that tokens are made of, right ones and wrong ones.
func TestLexScatteredBytes(t *testing.T) {
	next := scatter(1407)
	letters := "aaabzAAZ01129  \t\r\n\n##(),.==<<+--/:!:-!=?\xc3\xa9"
	codes := map[int]int{}
	for range 60000 {
		text := make([]byte, next()%24)
		for i := range text {
			text[i] = letters[next()%len(letters)]
		}
		if next()%10 == 0 && len(text) > 0 {
			text[next()%len(text)] = byte(next())
		}
		_, code := checkLex(t, string(text))
		codes[code]++
	}
	for _, code := range []int{0, 2, 3, 4} {
		if codes[code] < 500 {
			t.Errorf("only %d texts with the code %d", codes[code], code)
		}
	}
}

// TestLexChangedByte: one byte of a text without a fault changed, taken out or doubled.
func TestLexChangedByte(t *testing.T) {
	next := scatter(1408)
	for range 800 {
		text, _ := laid(scatteredTokens(next, 8), func(last bool) string { return scatteredGap(next, last) })
		for at := range len(text) {
			checkLex(t, text[:at]+text[at+1:])
			checkLex(t, text[:at]+text[at:at+1]+text[at:])
			checkLex(t, text[:at]+string([]byte{byte(next())})+text[at+1:])
			checkLex(t, text[:at])
			checkLex(t, text[at:])
		}
	}
}

// TestLexLongTexts: texts just below, at and just above the limit.
func TestLexLongTexts(t *testing.T) {
	next := scatter(1409)
	for range 60 {
		text := ""
		for len(text) < 6100 {
			part, _ := laid(scatteredTokens(next, 40), func(last bool) string { return scatteredGap(next, false) })
			text += part + "\n"
		}
		for _, size := range []int{5990, 5999, 6000, 6001, 6002, len(text)} {
			_, code := checkLex(t, text[:size])
			if (code == 1) != (size > 6000) {
				t.Errorf("code %d of %d bytes", code, size)
			}
		}
	}
}

// TestLexAnswersApart: what is written into an answer is seen in no other.
func TestLexAnswersApart(t *testing.T) {
	for _, text := range []string{"a", "a(X) :- b(1).", "<=!=<", "state a/1.\n+b(X,Y):-c(Y,X),X!=Y.", strings.Repeat("a ", 3000)} {
		first, _, _ := impl.Lex(text)
		second, _, _ := impl.Lex(text)
		checkApart(t, spots(first), spots(second))
		want, _, _ := lexSpelled(text)
		for i := range first[:cap(first)] {
			first[:cap(first)][i] = impl.Token{Kind: 9, N: 9, S: "spoiled", At: 9}
		}
		if !slices.Equal(second, want) {
			t.Errorf("an answer to %.20q was changed through another", text)
		}
		reads(t, text, want...)
	}
}

// TestLexKeepsNothingOfTheText: the text stands in bytes that are changed behind the call.
func TestLexKeepsNothingOfTheText(t *testing.T) {
	text := "state linked/2. +at(Packet,77) :- X!=Y1, abcdefghijkl(ABCDEFGHIJKL)."
	want, _, _ := lexSpelled(strings.Clone(text))
	b := []byte(text)
	got, code, _ := impl.Lex(unsafe.String(&b[0], len(b)))
	for i := range b {
		b[i] = '?'
	}
	if code != 0 || !slices.Equal(got, want) {
		t.Errorf("the tokens share memory with the text: %v", got)
	}
	faults(t, string(b), 2, 0)
}

// TestLexNothingBesideACode: no tokens come with a code, and no place with the code 0.
func TestLexNothingBesideACode(t *testing.T) {
	for _, good := range goodTexts() {
		if l, code, at := impl.Lex(good); code != 0 || at != 0 {
			t.Errorf("%q: %s", good, lexShown(l, code, at))
		}
		for _, wrong := range allFaults() {
			if l, code, at := impl.Lex(good + "a b c." + wrong.text); len(l) != 0 || code != wrong.code || at != len(good)+6 {
				t.Errorf("%q behind %q: %s", wrong.text, good, lexShown(l, code, at))
			}
		}
	}
	if l, code, at := impl.Lex("a " + strings.Repeat(" ", 5999)); len(l) != 0 || code != 1 || at != 0 {
		t.Errorf("a text too long: %s", lexShown(l, code, at))
	}
}
