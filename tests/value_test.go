package tests

import (
	"cmp"
	"fmt"
	"math"
	"math/big"
	"regexp"
	"slices"
	"strings"
	"testing"

	"loop.example/g00391/impl"
)

func num(n int) impl.Value { return impl.Value{N: n} }

func word(s string) impl.Value { return impl.Value{S: s} }

func rowOf(l ...impl.Value) impl.Row { return impl.Row{V: l} }

func sameRow(a impl.Row, b impl.Row) bool { return slices.Equal(a.V, b.V) }

// shown tells a value or a row whatever its bytes and its length.
func shown(l ...impl.Value) string {
	s := ""
	for _, v := range l[:min(len(l), 8)] {
		s += fmt.Sprintf("{%d %.20q}", v.N, v.S)
	}
	if len(l) > 8 {
		s += fmt.Sprintf(" and %d more", len(l)-8)
	}
	return "[" + s + "]"
}

var wordForm = regexp.MustCompile(`\A[a-z][a-z0-9]{0,11}\z`)

var numberForm = regexp.MustCompile(`\A(0|[1-9][0-9]*)\z`)

// valueRight is ValueOk by the document's words.
func valueRight(v impl.Value) bool {
	if v.S == "" {
		return v.N >= 0 && v.N <= 281474976710655
	}
	return v.N == 0 && wordForm.MatchString(v.S)
}

// lessSpelled is ValueLess by the document's words, all four cases of two kinds.
func lessSpelled(a impl.Value, b impl.Value) bool {
	if !valueRight(a) || !valueRight(b) {
		return false
	}
	switch aWord, bWord := a.S != "", b.S != ""; {
	case aWord && bWord:
		return bytesBefore(a.S, b.S)
	case aWord:
		return false
	case bWord:
		return true
	}
	return a.N < b.N
}

// bytesBefore: byte by byte, a text being less than a longer one that begins with it.
func bytesBefore(a string, b string) bool {
	for i := 0; i < len(a) && i < len(b); i++ {
		if a[i] != b[i] {
			return a[i] < b[i]
		}
	}
	return len(a) < len(b)
}

func valueTextSpelled(v impl.Value) string {
	switch {
	case !valueRight(v):
		return ""
	case v.S != "":
		return v.S
	}
	return big.NewInt(int64(v.N)).String()
}

func textValueSpelled(s string) (impl.Value, bool) {
	if wordForm.MatchString(s) {
		return word(s), true
	}
	if !numberForm.MatchString(s) || len(s) > 15 {
		return impl.Value{}, false
	}
	n, _ := new(big.Int).SetString(s, 10)
	if n.Cmp(big.NewInt(281474976710655)) > 0 {
		return impl.Value{}, false
	}
	return num(int(n.Int64())), true
}

func rowRight(r impl.Row) bool {
	for _, v := range r.V {
		if !valueRight(v) {
			return false
		}
	}
	return len(r.V) <= 6
}

func rowOrderSpelled(a impl.Row, b impl.Row) int {
	if !rowRight(a) || !rowRight(b) {
		return 2
	}
	for i := 0; i < len(a.V) && i < len(b.V); i++ {
		if lessSpelled(a.V[i], b.V[i]) {
			return -1
		}
		if lessSpelled(b.V[i], a.V[i]) {
			return 1
		}
	}
	return cmp.Compare(len(a.V), len(b.V))
}

func rowTextSpelled(r impl.Row) string {
	if !rowRight(r) {
		return ""
	}
	s := "("
	for i, v := range r.V {
		if i > 0 {
			s += ","
		}
		s += valueTextSpelled(v)
	}
	return s + ")"
}

// rightValues has the edges of numbers and words, and words that part late, early and not at all.
func rightValues() []impl.Value {
	l := []impl.Value{}
	for _, n := range []int{0, 1, 2, 9, 10, 11, 99, 100, 255, 256, 65536, 1 << 31, 1 << 32, 1<<48 - 2, 1<<48 - 1} {
		l = append(l, num(n))
	}
	for _, s := range []string{
		"a", "b", "z", "a0", "a00", "a1", "a10", "a2", "a9", "aa", "ab", "aba", "az", "z9", "zz", "n9", "n10", "x", "xyz", "port", "ports", "not",
		"aaaaaaaaaaaa", "aaaaaaaaaaab", "aaaaaaaaaaa", "zzzzzzzzzzzz", "z99999999999", "a00000000000", "nopqrstuvwxy",
	} {
		l = append(l, word(s))
	}
	return l
}

func wrongTexts() []string {
	return []string{
		"9a", "0a", "A", "aB", "Ab", "a b", " a", "a ", "a_b", "a-b", "a,b", "(a)", "a\n", "\x00", "a\x00", "é", "aé", "a\x80", "\xff",
		"abcdefghijklm", "a000000000000", "abcdefghijk\xff", strings.Repeat("a", 1000), strings.Repeat("z", 100000),
		" ", ",", "-1", "+1", "00", "07", "-0", "+0", " 1", "1 ", "1\n", "1.0", "1e3", "1_0", "0x1", "١",
		"281474976710656", "999999999999999", "0281474976710655", "9223372036854775807", "9223372036854775808", "18446744073709551617",
		strings.Repeat("9", 100000), strings.Repeat("0", 100000), strings.Repeat("0", 50) + "1", "1" + strings.Repeat("0", 48),
	}
}

// wrongValues: numbers that are none, texts that are no words, and what is a number and a word at once.
func wrongValues() []impl.Value {
	l := []impl.Value{}
	for _, n := range []int{-1, -2, -255, 1 << 48, 1<<48 + 1, 1 << 62, math.MaxInt, math.MinInt, math.MinInt + 1, -(1<<48 - 1)} {
		l = append(l, num(n), impl.Value{N: n, S: "a"})
	}
	for _, s := range wrongTexts() {
		l = append(l, word(s))
	}
	for _, n := range []int{1, 2, 1<<48 - 1} {
		l = append(l, impl.Value{N: n, S: "a"}, impl.Value{N: n, S: "abcdefghijkl"}, impl.Value{N: n, S: "A"}, impl.Value{N: n, S: "1"})
	}
	// A text that tells a number is no word, and no number in its place either.
	return append(l, word("0"), word("1"), word("281474976710655"))
}

func bothValues() []impl.Value { return append(rightValues(), wrongValues()...) }

func TestValueConstants(t *testing.T) {
	if impl.MaxArity != 6 {
		t.Errorf("MaxArity is %d", impl.MaxArity)
	}
}

func TestValueOk(t *testing.T) {
	for _, v := range rightValues() {
		if !impl.ValueOk(v) {
			t.Errorf("%s isn't taken for a value", shown(v))
		}
	}
	for _, v := range wrongValues() {
		if impl.ValueOk(v) {
			t.Errorf("%s is taken for a value", shown(v))
		}
	}
	if !impl.ValueOk(impl.Value{}) {
		t.Error("the zero value is the number 0")
	}
}

func TestValueOkEdges(t *testing.T) {
	for _, c := range []struct {
		v    impl.Value
		want bool
	}{
		{num(-1), false}, {num(0), true}, {num(impl.MaxNum), true}, {num(impl.MaxNum + 1), false},
		{word("a"), true}, {word(strings.Repeat("w", impl.MaxWord)), true}, {word(strings.Repeat("w", impl.MaxWord+1)), false},
		{word("7up"), false}, {word("uP"), false}, {word("u p"), false}, {word("u\x80"), false},
		{impl.Value{N: 1, S: "up"}, false}, {impl.Value{N: -1, S: "up"}, false}, {impl.Value{N: 0, S: "up"}, true},
	} {
		if got := impl.ValueOk(c.v); got != c.want {
			t.Errorf("ValueOk of %s: %v", shown(c.v), got)
		}
	}
}

func TestValueOkEveryByte(t *testing.T) {
	for x := range 256 {
		for size := 1; size <= impl.MaxWord+1; size++ {
			for at := range size {
				s := []byte(strings.Repeat("k", size))
				s[at] = byte(x)
				v := word(string(s))
				if got := impl.ValueOk(v); got != valueRight(v) {
					t.Errorf("ValueOk with the byte %d at place %d of %d: %v", x, at, size, got)
				}
			}
		}
	}
}

func TestValueOkEveryBit(t *testing.T) {
	for bit := range 63 {
		for _, n := range []int{1<<bit - 1, 1 << bit, 1<<bit + 1, -1 << bit} {
			for _, v := range []impl.Value{num(n), {N: n, S: "a"}} {
				if got := impl.ValueOk(v); got != valueRight(v) {
					t.Errorf("ValueOk of %s: %v", shown(v), got)
				}
			}
		}
	}
}

func TestValueLessByHand(t *testing.T) {
	for _, c := range []struct {
		a, b impl.Value
	}{
		{num(0), num(1)}, {num(9), num(10)}, {num(99), num(100)}, {num(2), num(11)}, {num(0), num(impl.MaxNum)}, {num(impl.MaxNum - 1), num(impl.MaxNum)},
		{num(0), word("a")}, {num(impl.MaxNum), word("a")}, {num(5), word("zzzzzzzzzzzz")}, {num(9), word("a9")},
		{word("a"), word("b")}, {word("a"), word("ab")}, {word("a"), word("a0")}, {word("n10"), word("n9")}, {word("a0"), word("aa")},
		{word("a9"), word("aa")}, {word("az"), word("b")}, {word("a9999"), word("b")}, {word("x1"), word("x1a")}, {word("x19"), word("x2")},
		{word("aaaaaaaaaaa"), word("aaaaaaaaaaaa")}, {word("aaaaaaaaaaaa"), word("aaaaaaaaaaab")}, {word("zzzzzzzzzzzy"), word("zzzzzzzzzzzz")},
	} {
		if !impl.ValueLess(c.a, c.b) {
			t.Errorf("%s isn't less than %s", shown(c.a), shown(c.b))
		}
		if impl.ValueLess(c.b, c.a) {
			t.Errorf("%s is less than %s", shown(c.b), shown(c.a))
		}
	}
	for _, v := range bothValues() {
		if impl.ValueLess(v, v) {
			t.Errorf("%s is less than itself", shown(v))
		}
	}
}

func TestValueLessWhereOneIsWrong(t *testing.T) {
	for _, w := range wrongValues() {
		for _, v := range bothValues() {
			if impl.ValueLess(w, v) || impl.ValueLess(v, w) {
				t.Errorf("%s and %s have an order", shown(w), shown(v))
			}
		}
	}
}

func TestValueLessEveryPair(t *testing.T) {
	for _, a := range rightValues() {
		for _, b := range rightValues() {
			if got := impl.ValueLess(a, b); got != lessSpelled(a, b) {
				t.Errorf("ValueLess(%v, %v): %v", a, b, got)
			}
		}
	}
}

// TestValuesInOrder has all values written down from the least on.
func TestValuesInOrder(t *testing.T) {
	l := []impl.Value{
		num(0), num(1), num(9), num(10), num(99), num(100), num(1 << 31), num(1 << 32), num(1<<48 - 1),
		word("a"), word("a0"), word("a00"), word("a1"), word("a10"), word("a2"), word("a9"), word("aa"), word("aaaaaaaaaaaa"), word("aaaaaaaaaaab"),
		word("ab"), word("b"), word("b0"), word("z"), word("z9"), word("za"), word("zz"), word("zzzzzzzzzzzz"),
	}
	for i, a := range l {
		for j, b := range l {
			if got := impl.ValueLess(a, b); got != (i < j) {
				t.Errorf("ValueLess(%v, %v): %v", a, b, got)
			}
			if got := impl.RowOrder(rowOf(a), rowOf(b)); got != cmp.Compare(i, j) {
				t.Errorf("RowOrder of %v and %v alone: %d", a, b, got)
			}
		}
	}
}

// scatteredValue draws numbers and words of all lengths, from few letters so that many begin alike.
func scatteredValue(next func() int) impl.Value {
	switch next() % 4 {
	case 0:
		return num(next() >> (next() % 48))
	case 1:
		return num(next() % 4)
	}
	return word(scatteredWord(next, "abz019"))
}

func scatteredWord(next func() int, letters string) string {
	s := []byte{"abz"[next()%3]}
	for range next() % impl.MaxWord {
		s = append(s, letters[next()%len(letters)])
	}
	return string(s)
}

// checkThree asks of a right order: of two one is less or they are the same, and what is less than a lesser one is less.
func checkThree(t *testing.T, a impl.Value, b impl.Value, c impl.Value) {
	t.Helper()
	times := 0
	for _, holds := range []bool{impl.ValueLess(a, b), impl.ValueLess(b, a), a == b} {
		if holds {
			times++
		}
	}
	if times != 1 {
		t.Errorf("%v and %v: %d of less, greater and the same", a, b, times)
	}
	if impl.ValueLess(a, b) && impl.ValueLess(b, c) && !impl.ValueLess(a, c) {
		t.Errorf("%v, %v and %v don't rise", a, b, c)
	}
}

func TestValuesAreOrdered(t *testing.T) {
	l := rightValues()
	for _, a := range l {
		for _, b := range l {
			for _, c := range l {
				checkThree(t, a, b, c)
			}
		}
	}
	next := scatter(901)
	for range 20000 {
		checkThree(t, scatteredValue(next), scatteredValue(next), scatteredValue(next))
	}
}

func TestValueText(t *testing.T) {
	for _, c := range []struct {
		v    impl.Value
		want string
	}{
		{num(0), "0"}, {num(7), "7"}, {num(10), "10"}, {num(impl.MaxNum), "281474976710655"}, {num(impl.MaxNum + 1), ""}, {num(-1), ""},
		{num(math.MinInt), ""}, {num(math.MaxInt), ""}, {word("a"), "a"}, {word("n10"), "n10"}, {word("abcdefghijkl"), "abcdefghijkl"},
		{word("abcdefghijklm"), ""}, {word("A"), ""}, {word("1"), ""}, {word("9a"), ""}, {word("a b"), ""}, {word("a\x80"), ""},
		{impl.Value{N: 3, S: "a"}, ""}, {impl.Value{N: -3, S: "a"}, ""}, {impl.Value{N: 3, S: "A"}, ""},
	} {
		if got := impl.ValueText(c.v); got != c.want {
			t.Errorf("ValueText of %s: %q", shown(c.v), got)
		}
	}
	for _, v := range bothValues() {
		if got := impl.ValueText(v); got != valueTextSpelled(v) {
			t.Errorf("ValueText of %s: %q", shown(v), got)
		}
	}
}

func checkTextValue(t *testing.T, s string) bool {
	t.Helper()
	got, ok := impl.TextValue(s)
	want, wantOk := textValueSpelled(s)
	if got != want || ok != wantOk {
		t.Errorf("TextValue of %d bytes that begin %.20q: %s %v, not %s %v", len(s), s, shown(got), ok, shown(want), wantOk)
	}
	if ok && (impl.ValueText(got) != s || !impl.ValueOk(got)) {
		t.Errorf("%q is read as %s, whose text it isn't", s, shown(got))
	}
	return ok
}

func TestTextValueByHand(t *testing.T) {
	most := strings.Repeat("w", impl.MaxWord)
	for _, c := range []struct {
		s    string
		want impl.Value
	}{
		{"0", num(0)}, {"1", num(1)}, {"42", num(42)}, {"100", num(100)}, {"281474976710655", num(impl.MaxNum)},
		{"a", word("a")}, {"z9", word("z9")}, {"a0", word("a0")}, {"not", word("not")}, {most, word(most)},
	} {
		if got, ok := impl.TextValue(c.s); !ok || got != c.want {
			t.Errorf("TextValue(%q): %s %v", c.s, shown(got), ok)
		}
	}
	for _, s := range append(wrongTexts(), "", most+"w", "281474976710656", "07", "7a", " a", "a ", "Aa", "aA") {
		if got, ok := impl.TextValue(s); ok || got != (impl.Value{}) {
			t.Errorf("TextValue of %d bytes that begin %.20q: %s %v", len(s), s, shown(got), ok)
		}
	}
}

func TestTextValueEveryShortText(t *testing.T) {
	texts := []string{""}
	read := 0
	for at := 0; at < len(texts); at++ {
		s := texts[at]
		if checkTextValue(t, s) {
			read++
		}
		for x := 0; len(s) < 2 && x < 256; x++ {
			texts = append(texts, s+string([]byte{byte(x)}))
		}
		for _, c := range []byte("0129az+- A,") {
			if len(s) == 2 {
				texts = append(texts, s+string(c))
			}
		}
	}
	if read < 1000 {
		t.Errorf("of %d texts only %d are read", len(texts), read)
	}
}

func TestTextValueEveryLength(t *testing.T) {
	for size := range 60 {
		for _, c := range []string{"a", "z", "0", "1", "9", "2", "A", " "} {
			for _, front := range []string{"", "a", "1", "0", "2814749767106", "-", "+", " "} {
				checkTextValue(t, front+strings.Repeat(c, size))
			}
		}
	}
	for n := 1<<48 - 500; n < 1<<48+500; n++ {
		checkTextValue(t, big.NewInt(int64(n)).String())
	}
}

func TestValuesAreReadAsWritten(t *testing.T) {
	check := func(v impl.Value) {
		t.Helper()
		if got, ok := impl.TextValue(impl.ValueText(v)); !ok || got != v {
			t.Errorf("%s is read as %s %v", shown(v), shown(got), ok)
		}
	}
	for _, v := range rightValues() {
		check(v)
	}
	for n := range 3000 {
		check(num(n))
		check(num(impl.MaxNum - n))
	}
	next := scatter(902)
	for range 20000 {
		check(scatteredValue(next))
		check(word(scatteredWord(next, "abcdefghijklmnopqrstuvwxyz0123456789")))
	}
	// The text of what isn't right is no value's.
	for _, v := range wrongValues() {
		if got, ok := impl.TextValue(impl.ValueText(v)); ok || got != (impl.Value{}) {
			t.Errorf("%s is written as %s", shown(v), shown(got))
		}
	}
}

func TestManyTextsAreWrittenAsRead(t *testing.T) {
	next := scatter(903)
	const letters = "aaabz0012789 -+A_\xc3"
	read := 0
	for range 60000 {
		var s []byte
		for range next() % 16 {
			s = append(s, letters[next()%(1+next()%len(letters))])
		}
		if checkTextValue(t, string(s)) {
			read++
		}
	}
	if read < 5000 || read > 55000 {
		t.Errorf("of 60000 texts %d are read", read)
	}
}

// underRow hands a row with spare room behind its values to a call, and asks that the call changed nothing of it.
func underRow(t *testing.T, given impl.Row, call func(arg impl.Row)) {
	t.Helper()
	mark := impl.Value{N: 77, S: "mark"}
	l, whole := roomyList(given.V, mark)
	call(impl.Row{V: l})
	if !slices.Equal(whole, append(slices.Clone(given.V), mark, mark, mark)) {
		t.Errorf("a row of %d values that was given was changed", len(given.V))
	}
}

func checkRowOk(t *testing.T, r impl.Row) {
	t.Helper()
	underRow(t, r, func(arg impl.Row) {
		if got := impl.RowOk(arg); got != rowRight(r) {
			t.Errorf("RowOk of %s: %v", shown(r.V...), got)
		}
	})
}

func checkRowText(t *testing.T, r impl.Row) {
	t.Helper()
	underRow(t, r, func(arg impl.Row) {
		if got := impl.RowText(arg); got != rowTextSpelled(r) {
			t.Errorf("RowText of %s: %q", shown(r.V...), got)
		}
	})
}

func checkRowOrder(t *testing.T, a impl.Row, b impl.Row) int {
	t.Helper()
	got := 0
	underRow(t, a, func(x impl.Row) {
		underRow(t, b, func(y impl.Row) {
			got = impl.RowOrder(x, y)
		})
	})
	if want := rowOrderSpelled(a, b); got != want {
		t.Errorf("RowOrder of %s and %s: %d, not %d", shown(a.V...), shown(b.V...), got, want)
	}
	return got
}

// mixedRow has n right values, numbers and words by turns.
func mixedRow(n int) impl.Row {
	r := impl.Row{}
	for i := range n {
		if i%2 == 0 {
			r.V = append(r.V, num(i+10))
		} else {
			r.V = append(r.V, word("w"+string(byte('0'+i%10))))
		}
	}
	return r
}

func rowWith(r impl.Row, at int, v impl.Value) impl.Row {
	out := rowOf(slices.Clone(r.V)...)
	out.V[at] = v
	return out
}

func rightRows() []impl.Row {
	l := []impl.Row{{}, {V: []impl.Value{}}}
	for n := 1; n <= impl.MaxArity; n++ {
		l = append(l, mixedRow(n), rowOf(make([]impl.Value, n)...), rowOf(slices.Repeat([]impl.Value{word("a")}, n)...), rowOf(slices.Repeat([]impl.Value{num(impl.MaxNum)}, n)...))
		for _, v := range []impl.Value{num(0), num(11), word("a"), word("w10"), word("zzzzzzzzzzzz")} {
			l = append(l, rowWith(mixedRow(n), 0, v), rowWith(mixedRow(n), n-1, v))
		}
	}
	return l
}

// wrongRows: a wrong value at every place of right rows, and rows that are too long.
func wrongRows() []impl.Row {
	l := []impl.Row{}
	for n := 1; n <= impl.MaxArity; n++ {
		for at := range n {
			for _, v := range []impl.Value{num(-1), num(impl.MaxNum + 1), word("A"), word("1"), word("abcdefghijklm"), {N: 1, S: "a"}} {
				l = append(l, rowWith(mixedRow(n), at, v))
			}
		}
	}
	for _, n := range []int{impl.MaxArity + 1, impl.MaxArity + 2, 100, 5000} {
		l = append(l, mixedRow(n), rowOf(make([]impl.Value, n)...), rowWith(mixedRow(n), n-1, num(-1)))
	}
	return l
}

func TestRowOk(t *testing.T) {
	for _, r := range rightRows() {
		checkRowOk(t, r)
		if !impl.RowOk(r) {
			t.Errorf("%s isn't taken for a row", shown(r.V...))
		}
	}
	for _, r := range wrongRows() {
		checkRowOk(t, r)
		if impl.RowOk(r) {
			t.Errorf("%s is taken for a row", shown(r.V...))
		}
	}
}

func TestRowOkEdges(t *testing.T) {
	for n, want := range map[int]bool{0: true, 1: true, impl.MaxArity: true, impl.MaxArity + 1: false, 1000: false} {
		if got := impl.RowOk(mixedRow(n)); got != want {
			t.Errorf("RowOk with %d values: %v", n, got)
		}
	}
	for _, w := range wrongValues() {
		for n := 1; n <= impl.MaxArity; n++ {
			if impl.RowOk(rowWith(mixedRow(n), 0, w)) || impl.RowOk(rowWith(mixedRow(n), n-1, w)) {
				t.Errorf("a row of %d values with %s is right", n, shown(w))
			}
		}
	}
	for _, v := range rightValues() {
		for n := 1; n <= impl.MaxArity; n++ {
			if !impl.RowOk(rowWith(mixedRow(n), 0, v)) || !impl.RowOk(rowWith(mixedRow(n), n-1, v)) {
				t.Errorf("a row of %d values with %s isn't right", n, shown(v))
			}
		}
	}
}

func TestRowOrderByHand(t *testing.T) {
	x, wrong := mixedRow(6), rowOf(num(5), num(-1))
	for _, c := range []struct {
		a, b impl.Row
		want int
	}{
		{impl.Row{}, impl.Row{}, 0}, {impl.Row{}, rowOf([]impl.Value{}...), 0}, {impl.Row{}, rowOf(num(0)), -1}, {impl.Row{}, x, -1},
		{rowOf(num(5)), rowOf(num(5)), 0}, {rowOf(num(5)), rowOf(num(5), num(0)), -1}, {rowOf(num(5)), rowOf(num(5), word("a")), -1},
		{rowOf(num(9)), rowOf(num(10)), -1}, {rowOf(num(9), num(0)), rowOf(num(10)), -1}, {rowOf(num(9)), rowOf(word("a")), -1},
		{rowOf(num(1), word("b")), rowOf(num(1), word("c")), -1}, {rowOf(num(1), word("b"), num(3)), rowOf(num(1), word("ba")), -1},
		{rowOf(num(1), num(2), num(9)), rowOf(num(1), word("a"), num(0)), -1}, {rowOf(word("a")), rowOf(word("a0")), -1},
		{rowOf(word("a"), word("z")), rowOf(word("aa"), word("a")), -1}, {rowOf(num(0), num(9), num(9)), rowOf(num(1), num(0)), -1},
		{rowOf(word("n10")), rowOf(word("n9")), -1}, {x, x, 0}, {mixedRow(5), x, -1}, {rowWith(x, 0, num(9)), x, -1}, {x, rowWith(x, 5, word("w6")), -1},
		{x, mixedRow(7), 2}, {mixedRow(7), mixedRow(7), 2}, {wrong, wrong, 2}, {rowOf(num(5)), wrong, 2}, {impl.Row{}, wrong, 2},
		{rowOf(num(4)), wrong, 2}, {rowOf(num(6), num(1)), wrong, 2}, {rowOf(word("a")), rowOf(num(1), num(1), num(1), impl.Value{N: 1, S: "a"}), 2},
		{rowOf(num(-2)), rowOf(num(-1)), 2}, {rowOf(word("A")), rowOf(word("B")), 2}, {impl.Row{}, mixedRow(7), 2}, {rowOf(num(3)), mixedRow(1000), 2},
	} {
		back := -c.want
		if c.want == 2 {
			back = 2
		}
		if got := impl.RowOrder(c.a, c.b); got != c.want {
			t.Errorf("RowOrder of %s and %s: %d, not %d", shown(c.a.V...), shown(c.b.V...), got, c.want)
		}
		if got := impl.RowOrder(c.b, c.a); got != back {
			t.Errorf("RowOrder of %s and %s: %d, not %d", shown(c.b.V...), shown(c.a.V...), got, back)
		}
	}
}

func TestRowOrderWhereRowsPart(t *testing.T) {
	for n := 1; n <= impl.MaxArity; n++ {
		for at := range n {
			for _, a := range rightValues() {
				checkRowOrder(t, mixedRow(n), rowWith(mixedRow(n), at, a))
				checkRowOrder(t, rowWith(mixedRow(n), at, a), mixedRow(n))
				checkRowOrder(t, rowWith(rowWith(mixedRow(n), n-1, num(3)), at, a), rowWith(mixedRow(n), at, word("m")))
			}
		}
	}
}

func TestRowOrderWrongBehindWhereRowsPart(t *testing.T) {
	for n := 2; n <= impl.MaxArity; n++ {
		for at := range n {
			for _, w := range wrongValues() {
				part := rowWith(mixedRow(n), 0, word("x"))
				wrong := rowWith(mixedRow(n), at, w)
				for _, c := range [][2]impl.Row{{part, wrong}, {wrong, part}, {wrong, wrong}, {wrong, {}}, {mixedRow(at), wrong}, {wrong, mixedRow(at)}} {
					if got := impl.RowOrder(c[0], c[1]); got != 2 {
						t.Errorf("RowOrder with %s at place %d of %d: %d", shown(w), at, n, got)
					}
				}
			}
		}
	}
}

func TestRowOrderEveryPair(t *testing.T) {
	l := append(rightRows(), wrongRows()...)
	for _, a := range l {
		for _, b := range l {
			checkRowOrder(t, a, b)
		}
	}
}

// TestRowOrderSharedValues has rows that are pieces of one list.
func TestRowOrderSharedValues(t *testing.T) {
	l := mixedRow(6).V
	for i := range 7 {
		for j := range 7 {
			if got := impl.RowOrder(rowOf(l[:i]...), rowOf(l[:j]...)); got != cmp.Compare(i, j) {
				t.Errorf("RowOrder of the first %d and the first %d values: %d", i, j, got)
			}
		}
	}
}

// scatteredRow draws from few values, so that many rows begin alike or are the same.
func scatteredRow(next func() int) impl.Row {
	pool := []impl.Value{num(0), num(1), num(10), word("a"), word("a1"), word("b")}
	r := impl.Row{V: []impl.Value{}}
	for range next() % (impl.MaxArity + 1) {
		r.V = append(r.V, pool[next()%(1+next()%len(pool))])
	}
	if len(r.V) > 0 && next()%4 == 0 {
		r.V[next()%len(r.V)] = scatteredValue(next)
	}
	return r
}

// checkOrders asks of all pairs and threes of right rows what an order is, of their answers alone.
func checkOrders(t *testing.T, l []impl.Row) {
	t.Helper()
	order := make([][]int, len(l))
	for i, a := range l {
		order[i] = make([]int, len(l))
		for j, b := range l {
			order[i][j] = impl.RowOrder(a, b)
			if (order[i][j] == 0) != sameRow(a, b) {
				t.Errorf("RowOrder of %s and %s: %d", shown(a.V...), shown(b.V...), order[i][j])
			}
		}
	}
	for i := range l {
		for j := range l {
			if order[i][j] != -order[j][i] || order[i][j] < -1 {
				t.Errorf("RowOrder of %s and %s: %d, the other way round %d", shown(l[i].V...), shown(l[j].V...), order[i][j], order[j][i])
			}
			for k := range l {
				if order[i][j] == -1 && order[j][k] <= 0 && order[i][k] != -1 {
					t.Errorf("%v, %v and %v don't rise", l[i], l[j], l[k])
				}
			}
		}
	}
}

func TestRowsAreOrdered(t *testing.T) {
	checkOrders(t, rightRows())
	next := scatter(904)
	for range 20 {
		l := make([]impl.Row, 60)
		for i := range l {
			l[i] = scatteredRow(next)
		}
		checkOrders(t, l)
	}
}

func TestManyRowsInOrder(t *testing.T) {
	next := scatter(905)
	seen := map[int]int{}
	wrong := wrongValues()
	for range 20000 {
		a, b := scatteredRow(next), scatteredRow(next)
		if len(b.V) > 0 && next()%8 == 0 {
			b.V[next()%len(b.V)] = wrong[next()%len(wrong)]
		}
		seen[checkRowOrder(t, a, b)]++
		checkRowOrder(t, b, a)
		checkRowOk(t, b)
		checkRowText(t, b)
	}
	for _, order := range []int{-1, 0, 1, 2} {
		if seen[order] < 300 {
			t.Errorf("the order %d came up %d times", order, seen[order])
		}
	}
}

func TestRowText(t *testing.T) {
	for _, c := range []struct {
		r    impl.Row
		want string
	}{
		{impl.Row{}, "()"}, {rowOf([]impl.Value{}...), "()"}, {rowOf(num(0)), "(0)"}, {rowOf(word("a")), "(a)"},
		{rowOf(num(5), word("a")), "(5,a)"}, {rowOf(word("a"), num(5)), "(a,5)"}, {rowOf(num(1), num(2)), "(1,2)"},
		{rowOf(num(impl.MaxNum), word("abcdefghijkl"), num(0)), "(281474976710655,abcdefghijkl,0)"},
		{rowOf(num(1), word("b"), num(2), word("c"), num(3), word("d")), "(1,b,2,c,3,d)"},
		{rowOf(make([]impl.Value, 6)...), "(0,0,0,0,0,0)"}, {rowOf(make([]impl.Value, 7)...), ""}, {rowOf(make([]impl.Value, 5000)...), ""},
		{rowOf(num(-1)), ""}, {rowOf(num(1), num(impl.MaxNum+1)), ""}, {rowOf(word("A"), num(1)), ""}, {rowOf(impl.Value{N: 1, S: "a"}), ""},
	} {
		if got := impl.RowText(c.r); got != c.want {
			t.Errorf("RowText of %s: %q, not %q", shown(c.r.V...), got, c.want)
		}
	}
	for _, r := range append(rightRows(), wrongRows()...) {
		checkRowText(t, r)
	}
}

// TestRowTextsDiffer: two rows have one text only where they are the same.
func TestRowTextsDiffer(t *testing.T) {
	next := scatter(906)
	seen := map[string]impl.Row{}
	l := rightRows()
	for range 5000 {
		l = append(l, scatteredRow(next))
	}
	for _, r := range l {
		s := impl.RowText(r)
		if before, ok := seen[s]; ok && !sameRow(before, r) {
			t.Errorf("%v and %v are both %q", before, r, s)
		}
		seen[s] = r
	}
}
