package tests

import (
	"bytes"
	"encoding/binary"
	"fmt"
	"maps"
	"math"
	"slices"
	"strings"
	"testing"

	"loop.example/g00391/impl"
)

func named(name string, r impl.Rel) impl.Named { return impl.Named{Name: name, Rel: r} }

func storeOf(l ...impl.Named) impl.Store { return impl.Store{Rels: l} }

// bareStore has relations without columns and rows under these names.
func bareStore(names ...string) impl.Store {
	s := impl.Store{}
	for _, name := range names {
		s.Rels = append(s.Rels, named(name, impl.Rel{}))
	}
	return s
}

// oneStore has one relation, under a name that is a word.
func oneStore(r impl.Rel) impl.Store { return storeOf(named("a", r)) }

// nthName rises with i from 0 to 99.
func nthName(i int) string { return fmt.Sprintf("n%02d", i) }

// manyStore has n relations with one row each, and room for names ahead of, between and behind them.
func manyStore(n int) impl.Store {
	s := impl.Store{}
	for i := range n {
		s.Rels = append(s.Rels, named(nthName(2*i+1), numRel(i)))
	}
	return s
}

func copyStore(s impl.Store) impl.Store {
	out := impl.Store{}
	for _, x := range s.Rels {
		out.Rels = append(out.Rels, named(x.Name, copyRel(x.Rel)))
	}
	return out
}

func sameNamed(a impl.Named, b impl.Named) bool { return a.Name == b.Name && sameRel(a.Rel, b.Rel) }

func sameStore(a impl.Store, b impl.Store) bool { return slices.EqualFunc(a.Rels, b.Rels, sameNamed) }

func noStore(s impl.Store) bool { return len(s.Rels) == 0 }

func storeShown(s impl.Store) string {
	out := fmt.Sprintf("%d relations", len(s.Rels))
	for _, x := range s.Rels[:min(len(s.Rels), 6)] {
		out += fmt.Sprintf("; %.20q %s", x.Name, relShown(x.Rel))
	}
	return out
}

// storeRight is StoreOk by the document's words.
func storeRight(s impl.Store) bool {
	for i, x := range s.Rels {
		if !wordForm.MatchString(x.Name) || !relRight(x.Rel) || i > 0 && !bytesBefore(s.Rels[i-1].Name, x.Name) {
			return false
		}
	}
	return len(s.Rels) <= 24
}

func storeRelSpelled(s impl.Store, name string) (impl.Rel, bool) {
	if storeRight(s) {
		for _, x := range s.Rels {
			if x.Name == name {
				return copyRel(x.Rel), true
			}
		}
	}
	return impl.Rel{}, false
}

func storePutSpelled(s impl.Store, name string, r impl.Rel) (impl.Store, bool) {
	if !storeRight(s) || !relRight(r) || !wordForm.MatchString(name) {
		return impl.Store{}, false
	}
	out := copyStore(s)
	at := 0
	for at < len(s.Rels) && bytesBefore(s.Rels[at].Name, name) {
		at++
	}
	if at < len(s.Rels) && s.Rels[at].Name == name {
		out.Rels[at].Rel = copyRel(r)
	} else {
		out.Rels = slices.Insert(out.Rels, at, named(name, copyRel(r)))
	}
	if len(out.Rels) > 24 {
		return impl.Store{}, false
	}
	return out, true
}

// relWritten is a relation's bytes, and storeWritten a store's, right or not; of what doesn't fit only low bits come through.
func relWritten(r impl.Rel) []byte {
	b := binary.BigEndian.AppendUint16([]byte{byte(r.Arity)}, uint16(len(r.Rows)))
	for _, row := range r.Rows {
		for _, v := range row.V {
			if v.S == "" {
				b = append(append(b, 0), sixBytes(v.N)...)
			} else {
				b = append(append(b, byte(len(v.S))), v.S...)
			}
		}
	}
	return b
}

func storeWritten(s impl.Store) []byte {
	b := []byte{byte(len(s.Rels))}
	for _, x := range s.Rels {
		b = slices.Concat(b, []byte{byte(len(x.Name))}, []byte(x.Name), relWritten(x.Rel))
	}
	return b
}

func storeBytesSpelled(s impl.Store) ([]byte, bool) {
	if !storeRight(s) {
		return nil, false
	}
	b := storeWritten(s)
	if len(b) > 60000 {
		return nil, false
	}
	return b, true
}

// storeText is read from the front; what was to be read and isn't there makes it short.
type storeText struct {
	b     []byte
	short bool
}

func (x *storeText) piece(n int) []byte {
	if x.short || n > len(x.b) {
		x.short = true
		return nil
	}
	out := x.b[:n]
	x.b = x.b[n:]
	return out
}

func (x *storeText) rel() impl.Rel {
	r := relOf(spelledNum(x.piece(1)))
	rows := spelledNum(x.piece(2))
	if r.Arity > 6 || rows > 300 {
		x.short = true
		return r
	}
	for range rows {
		row := impl.Row{}
		for range r.Arity {
			if n := spelledNum(x.piece(1)); n == 0 {
				row.V = append(row.V, num(spelledNum(x.piece(6))))
			} else {
				row.V = append(row.V, word(string(x.piece(n))))
			}
		}
		r.Rows = append(r.Rows, row)
	}
	return r
}

// storeReadSpelled is StoreRead by the document's words: a store is taken from its places, and it must be right and all there is.
func storeReadSpelled(b []byte) (impl.Store, bool) {
	x, s := storeText{b: b}, impl.Store{}
	for range spelledNum(x.piece(1)) {
		name := string(x.piece(spelledNum(x.piece(1))))
		s.Rels = append(s.Rels, named(name, x.rel()))
		if x.short {
			break
		}
	}
	if x.short || len(x.b) > 0 || len(b) > 60000 || !storeRight(s) {
		return impl.Store{}, false
	}
	return s, true
}

func storeSpots(s impl.Store) []any {
	out := spots(s.Rels)
	for _, x := range s.Rels[:cap(s.Rels)] {
		out = append(out, relSpots(x.Rel)...)
	}
	return out
}

// roomyRel is a copy of a relation with three places of spare room behind each of its lists.
func roomyRel(r impl.Rel) impl.Rel {
	out := copyRel(r)
	for i, row := range out.Rows {
		out.Rows[i].V, _ = roomyList(row.V, num(77))
	}
	out.Rows, _ = roomyList(out.Rows, rowOf(num(77)))
	return out
}

// wholeRel is a copy of a roomy relation with its spare room.
func wholeRel(r impl.Rel) impl.Rel {
	out := relOf(r.Arity, slices.Clone(r.Rows[:len(r.Rows)+3])...)
	for i, row := range r.Rows {
		out.Rows[i] = copyRow(impl.Row{V: row.V[:len(row.V)+3]})
	}
	return out
}

// wholeStore is a copy of a store with the three places of spare room behind each of its lists.
func wholeStore(s impl.Store) impl.Store {
	out := storeOf(slices.Clone(s.Rels[:len(s.Rels)+3])...)
	for i, x := range s.Rels {
		out.Rels[i].Rel = wholeRel(x.Rel)
	}
	return out
}

// underStore hands a store with spare room behind each of its lists to a call, and asks that the call changed nothing of it.
func underStore(t *testing.T, given impl.Store, call func(arg impl.Store)) {
	t.Helper()
	arg := impl.Store{}
	for _, x := range given.Rels {
		arg.Rels = append(arg.Rels, named(x.Name, roomyRel(x.Rel)))
	}
	arg.Rels, _ = roomyList(arg.Rels, named("mark", numRel(7, 7)))
	before := wholeStore(arg)
	call(arg)
	if !sameStore(wholeStore(arg), before) {
		t.Errorf("a store that was given was changed: %s", storeShown(given))
	}
}

func checkStoreOk(t *testing.T, s impl.Store) bool {
	t.Helper()
	got := false
	underStore(t, s, func(arg impl.Store) { got = impl.StoreOk(arg) })
	if got != storeRight(s) {
		t.Errorf("StoreOk of %s: %v", storeShown(s), got)
	}
	return got
}

func checkStoreRel(t *testing.T, s impl.Store, name string) (impl.Rel, bool) {
	t.Helper()
	var got impl.Rel
	ok := false
	underStore(t, s, func(arg impl.Store) {
		got, ok = impl.StoreRel(arg, name)
		checkAnswer(t, got, ok, storeSpots(arg))
	})
	if want, wantOk := storeRelSpelled(s, name); ok != wantOk || !sameRel(got, want) {
		t.Errorf("StoreRel of %.20q in %s: %s %v, not %s %v", name, storeShown(s), relShown(got), ok, relShown(want), wantOk)
	}
	return got, ok
}

// checkStoreAnswer asks that a store that is answered is right where ok is, else nothing, and new memory all through.
func checkStoreAnswer(t *testing.T, got impl.Store, ok bool, given ...[]any) {
	t.Helper()
	if ok && !impl.StoreOk(got) || !ok && !noStore(got) {
		t.Errorf("beside %v stands %s", ok, storeShown(got))
	}
	checkApart(t, slices.Concat(given...), storeSpots(got))
}

func checkStorePut(t *testing.T, s impl.Store, name string, r impl.Rel) (impl.Store, bool) {
	t.Helper()
	var got impl.Store
	ok := false
	underStore(t, s, func(x impl.Store) {
		underRel(t, r, func(y impl.Rel) {
			got, ok = impl.StorePut(x, name, y)
			checkStoreAnswer(t, got, ok, storeSpots(x), relSpots(y))
		})
	})
	if want, wantOk := storePutSpelled(s, name, r); ok != wantOk || !sameStore(got, want) {
		t.Errorf("StorePut of %s as %.20q into %s: %s %v, not %s %v", relShown(r), name, storeShown(s), storeShown(got), ok, storeShown(want), wantOk)
	}
	return got, ok
}

func checkStoreBytes(t *testing.T, s impl.Store) ([]byte, bool) {
	t.Helper()
	var got []byte
	ok := false
	underStore(t, s, func(arg impl.Store) {
		got, ok = impl.StoreBytes(arg)
		again, _ := impl.StoreBytes(arg)
		checkApart(t, spots(got), spots(again))
	})
	if want, wantOk := storeBytesSpelled(s); ok != wantOk || !bytes.Equal(got, want) {
		t.Errorf("StoreBytes of %s: %d bytes % .40x %v, not %d bytes % .40x %v", storeShown(s), len(got), got, ok, len(want), want, wantOk)
	}
	return got, ok
}

// checkStoreRead asks also that the bytes are those of what was read, and that what was read doesn't hang on them.
func checkStoreRead(t *testing.T, b []byte) (impl.Store, bool) {
	t.Helper()
	given, whole := roomy(b, 3)
	before := bytes.Clone(whole)
	got, ok := impl.StoreRead(given)
	checkStoreAnswer(t, got, ok)
	if !bytes.Equal(whole, before) {
		t.Errorf("StoreRead changed % .40x", b)
	}
	clear(whole)
	if want, wantOk := storeReadSpelled(b); ok != wantOk || !sameStore(got, want) {
		t.Errorf("StoreRead of %d bytes % .60x: %s %v, not %s %v", len(b), b, storeShown(got), ok, storeShown(want), wantOk)
	}
	again, written := impl.StoreBytes(got)
	if ok && (!written || !bytes.Equal(again, b)) {
		t.Errorf("StoreRead takes % .60x, and StoreBytes of that is % .60x", b, again)
	}
	return got, ok
}

func checkSameStore(t *testing.T, a impl.Store, b impl.Store) bool {
	t.Helper()
	got := false
	underStore(t, a, func(x impl.Store) {
		underStore(t, b, func(y impl.Store) { got = impl.SameStore(x, y) })
	})
	if want := storeRight(a) && storeRight(b) && sameStore(a, b); got != want {
		t.Errorf("SameStore of %s and %s: %v", storeShown(a), storeShown(b), got)
	}
	return got
}

// plainStore has a bit of all: no columns with and without the row, no rows, numbers, words, several columns.
func plainStore() impl.Store {
	return storeOf(
		named("a", relOf(0, impl.Row{})), named("a0", relOf(0)), named("ab", relOf(3)),
		named("abcdefghijkl", relOf(1, rowOf(num(0)), rowOf(num(5)), rowOf(num(impl.MaxNum)), rowOf(word("b")), rowOf(word("zzzzzzzzzzzz")))),
		named("b", relOf(2, rowOf(num(258), word("x1")), rowOf(word("x"), num(1)))), named("z", relOf(6, mixedRow(6))))
}

func rightStores() []impl.Store {
	l := []impl.Store{
		{}, {Rels: []impl.Named{}}, bareStore("a"), bareStore("a", "ab"), bareStore("a", "b"), bareStore("a9", "aa"), bareStore("n10", "n9"), bareStore("abcdefghijkl"),
		bareStore("zzzzzzzzzzzz"), bareStore("a", "aa", "aaa", "aaaa", "aaaaaaaaaaaa", "aaaaaaaaaaab", "ab"), plainStore(), manyStore(1), manyStore(2), manyStore(23), manyStore(24),
		storeOf(named("x", numRel(1, 2)), named("y", numRel(1, 2))), storeOf(named("state", relOf(0))), storeOf(named("not", relOf(0, impl.Row{}))),
	}
	for _, r := range rightRels() {
		l = append(l, oneStore(r), storeOf(named("a", relOf(1)), named("b", r)), storeOf(named("b", r), named("c", numRel(3))))
	}
	return l
}

// noNames are texts that are no words, however near.
func noNames() []string {
	return append(wrongTexts(), "", "7", "0", "1a", "A", "Abc", "aBc", "abC", "\x00", "a\x00", "\x00a", "a\x00b", "\x80", "a\x7f", "a\x80", "a\xff", "abcdefghijklm", "a b", "a\n", "É")
}

func wrongStores() []impl.Store {
	l := []impl.Store{
		bareStore("a", "a"), bareStore("b", "a"), bareStore("ab", "a"), bareStore("a", "b", "b"), bareStore("a", "a", "b"), bareStore("a", "c", "b"), bareStore("b", "a", "c"),
		bareStore("n9", "n10"), bareStore("aa", "a9"), manyStore(25), manyStore(26), manyStore(40), bareStore(slices.Repeat([]string{"a"}, 24)...), {Rels: make([]impl.Named, 1)}, {Rels: make([]impl.Named, 3000)},
	}
	for _, name := range noNames() {
		l = append(l, bareStore(name), storeOf(named(name, numRel(1))), bareStore("a", name), bareStore(name, "zz"))
	}
	for _, r := range append(fewWrongRels(), numRel(make([]int, 2)...), countedRel(1, 301), countedRel(6, 301)) {
		l = append(l, oneStore(r), storeOf(named("a", r), named("b", numRel(1))), storeOf(named("a", numRel(1)), named("b", r)), storeOf(named("a", relOf(0)), named("b", r), named("c", relOf(0))))
	}
	return l
}

// fewWrongStores has one of each kind.
func fewWrongStores() []impl.Store {
	return []impl.Store{
		bareStore("a", "a"), bareStore("b", "a"), bareStore("ab", "a"), bareStore(""), bareStore("A"), bareStore("a", "7"), bareStore("abcdefghijklm"), bareStore("a\xff"), manyStore(25),
		oneStore(relOf(-1)), oneStore(relOf(7)), oneStore(numRel(2, 1)), storeOf(named("a", numRel(1, 1)), named("b", numRel(1))), storeOf(named("a", numRel(1)), named("b", numRel(-1))),
	}
}

// sizedStore has just n bytes, where n is at least some thousands: words are made shorter until they fit.
func sizedStore(n int) impl.Store {
	s := impl.Store{}
	size := 1
	for i := 0; size < n; i++ {
		if i%300 == 0 {
			s.Rels = append(s.Rels, named(nthName(i/300), relOf(6)))
			size += 1 + 3 + 3
		}
		long := word("abcdefghijkl")
		r := &s.Rels[len(s.Rels)-1].Rel
		r.Rows = append(r.Rows, rowOf(num(i), long, long, long, long, long))
		size += 7 + 5*13
	}
	for _, row := range s.Rels[0].Rel.Rows {
		for j := 1; j < 6 && size > n; j++ {
			cut := min(11, size-n)
			row.V[j].S = row.V[j].S[:12-cut]
			size -= cut
		}
	}
	return s
}

func TestStoreConstants(t *testing.T) {
	if impl.MaxRels != 24 {
		t.Errorf("MaxRels is %d", impl.MaxRels)
	}
}

func TestStoreOk(t *testing.T) {
	for _, s := range rightStores() {
		if !checkStoreOk(t, s) {
			t.Errorf("%s isn't taken for a store", storeShown(s))
		}
	}
	for _, s := range wrongStores() {
		if checkStoreOk(t, s) {
			t.Errorf("%s is taken for a store", storeShown(s))
		}
	}
}

func TestStoreOkHowMany(t *testing.T) {
	for n := range 50 {
		if got := checkStoreOk(t, manyStore(n)); got != (n <= 24) {
			t.Errorf("StoreOk with %d relations: %v", n, got)
		}
	}
}

func risingNames() []string {
	return []string{"a", "a0", "a00", "a9", "aa", "aaaaaaaaaaaa", "aaaaaaaaaaab", "ab", "b", "n10", "n9", "z", "z9", "zz", "zzzzzzzzzzzz"}
}

func TestStoreOkEveryPairOfNames(t *testing.T) {
	for i, a := range risingNames() {
		for j, b := range risingNames() {
			if got := checkStoreOk(t, bareStore(a, b)); got != (i < j) {
				t.Errorf("StoreOk of %s and %s: %v", a, b, got)
			}
		}
	}
}

func TestStoreOkEveryByteOfANameAndLength(t *testing.T) {
	for x := range 256 {
		small, digit := x >= 'a' && x <= 'z', x >= '0' && x <= '9'
		if got := impl.StoreOk(bareStore(string([]byte{byte(x)}))); got != small {
			t.Errorf("StoreOk with the name of byte %d: %v", x, got)
		}
		for _, name := range []string{"a" + string([]byte{byte(x)}), "ab" + string([]byte{byte(x)}) + "c"} {
			if got := impl.StoreOk(bareStore(name)); got != (small || digit) {
				t.Errorf("StoreOk with the name %q: %v", name, got)
			}
		}
	}
	for n := range 30 {
		if got := impl.StoreOk(bareStore(strings.Repeat("q", n))); got != (n >= 1 && n <= 12) {
			t.Errorf("StoreOk with a name of %d bytes: %v", n, got)
		}
	}
}

// TestStoreOkSpoiledAnywhere spoils a full store at each place, in each way.
func TestStoreOkSpoiledAnywhere(t *testing.T) {
	full := manyStore(24)
	for at, keep := range full.Rels {
		spoiled := []impl.Named{named("", keep.Rel), named("N", keep.Rel), named(keep.Name+"_", keep.Rel), named(keep.Name+"0123456789", keep.Rel)}
		for _, r := range fewWrongRels() {
			spoiled = append(spoiled, named(keep.Name, r))
		}
		if at > 0 {
			spoiled = append(spoiled, named(full.Rels[at-1].Name, keep.Rel), named("a", keep.Rel))
		}
		if at < 23 {
			spoiled = append(spoiled, named(full.Rels[at+1].Name, keep.Rel), named("z", keep.Rel))
		}
		for _, x := range spoiled {
			full.Rels[at] = x
			if impl.StoreOk(full) {
				t.Errorf("StoreOk with %.20q %s at place %d", x.Name, relShown(x.Rel), at)
			}
		}
		full.Rels[at] = keep
		if !impl.StoreOk(full) {
			t.Fatalf("StoreOk of the whole behind place %d", at)
		}
	}
}

func TestStoreRel(t *testing.T) {
	for _, s := range rightStores() {
		for _, x := range s.Rels {
			if got, ok := checkStoreRel(t, s, x.Name); !ok || !sameRel(got, x.Rel) {
				t.Errorf("StoreRel of %s in %s: %s %v", x.Name, storeShown(s), relShown(got), ok)
			}
			for _, name := range []string{x.Name + "q", x.Name[:len(x.Name)-1], strings.ToUpper(x.Name), x.Name + "\x00", " " + x.Name} {
				checkStoreRel(t, s, name)
			}
		}
		for _, name := range []string{"", "q", "zzzzz", "n00", "7"} {
			if got, ok := checkStoreRel(t, s, name); ok || !noRel(got) {
				t.Errorf("StoreRel of %q in %s: %s %v", name, storeShown(s), relShown(got), ok)
			}
		}
	}
	for _, name := range noNames() {
		checkStoreRel(t, plainStore(), name)
		checkStoreRel(t, impl.Store{}, name)
	}
}

// A store that isn't right has none, not even under a name that is there with a right relation.
func TestStoreRelOfWhatIsWrong(t *testing.T) {
	for _, s := range wrongStores() {
		for _, name := range []string{"a", "b", "c", "q", "", "n01", "n49"} {
			if got, ok := checkStoreRel(t, s, name); ok || !noRel(got) {
				t.Errorf("StoreRel of %q in %s: %s %v", name, storeShown(s), relShown(got), ok)
			}
		}
		if len(s.Rels) > 0 && len(s.Rels) < 30 {
			checkStoreRel(t, s, s.Rels[0].Name)
			checkStoreRel(t, s, s.Rels[len(s.Rels)-1].Name)
		}
	}
}

func TestStorePutByHand(t *testing.T) {
	s := storeOf(named("b", numRel(1)), named("d", numRel(2)))
	for _, c := range []struct {
		name string
		want []string
	}{
		{"a", []string{"a", "b", "d"}}, {"c", []string{"b", "c", "d"}}, {"e", []string{"b", "d", "e"}}, {"b", []string{"b", "d"}}, {"d", []string{"b", "d"}},
		{"b0", []string{"b", "b0", "d"}}, {"bz", []string{"b", "bz", "d"}}, {"zzzzzzzzzzzz", []string{"b", "d", "zzzzzzzzzzzz"}}, {"a99999999999", []string{"a99999999999", "b", "d"}},
	} {
		got, ok := checkStorePut(t, s, c.name, relOf(2, rowOf(num(3), word("x"))))
		var names []string
		for _, x := range got.Rels {
			names = append(names, x.Name)
			if x.Name == c.name && !sameRel(x.Rel, relOf(2, rowOf(num(3), word("x")))) {
				t.Errorf("StorePut of %s: %s", c.name, relShown(x.Rel))
			}
		}
		if !ok || !slices.Equal(names, c.want) {
			t.Errorf("StorePut of %s: %v %v, not %v", c.name, names, ok, c.want)
		}
	}
	if got, ok := checkStorePut(t, impl.Store{}, "a", impl.Rel{}); !ok || !sameStore(got, bareStore("a")) {
		t.Errorf("StorePut into nothing: %s %v", storeShown(got), ok)
	}
}

func TestStorePut(t *testing.T) {
	for _, s := range append(rightStores(), fewWrongStores()...) {
		for _, name := range []string{"a", "a0", "ab", "abcdefghijkl", "b", "n", "n00", "n01", "n02", "n03", "n47", "n48", "zzzzzzzzzzzz", "", "A", "1", "abcdefghijklm"} {
			for _, r := range []impl.Rel{{}, relOf(0, impl.Row{}), numRel(4, 9), relOf(6, mixedRow(6)), relOf(7), numRel(9, 4)} {
				checkStorePut(t, s, name, r)
			}
		}
	}
	for _, r := range rightRels() {
		for _, name := range []string{"a", "aa", "b", "q", "zz"} {
			if _, ok := checkStorePut(t, plainStore(), name, r); !ok {
				t.Errorf("StorePut refuses %s", relShown(r))
			}
		}
	}
}

// What counts is how many there would be: a known name has room in a full store, a new one hasn't.
func TestStorePutWhereFull(t *testing.T) {
	for n := 20; n <= 24; n++ {
		s := manyStore(n)
		for i := range 2*n + 2 {
			there := i%2 == 1 && i < 2*n
			got, ok := checkStorePut(t, s, nthName(i), numRel(100))
			if want := there || n < 24; ok != want {
				t.Errorf("StorePut of %s into %d relations: %v", nthName(i), n, ok)
			}
			size := n
			if !there {
				size++
			}
			if ok && len(got.Rels) != size || !ok && !noStore(got) {
				t.Errorf("StorePut of %s into %d relations: %d", nthName(i), n, len(got.Rels))
			}
		}
	}
}

func TestStorePutRefuses(t *testing.T) {
	for _, name := range noNames() {
		for _, s := range []impl.Store{{}, bareStore("a"), plainStore(), manyStore(24)} {
			if got, ok := checkStorePut(t, s, name, numRel(1)); ok || !noStore(got) {
				t.Errorf("StorePut under %.20q: %s %v", name, storeShown(got), ok)
			}
		}
	}
	for _, r := range append(wrongRels(), countedRel(1, 301), countedRel(3, 2000)) {
		for _, name := range []string{"a", "q"} {
			if got, ok := checkStorePut(t, plainStore(), name, r); ok || !noStore(got) {
				t.Errorf("StorePut of %s: %s %v", relShown(r), storeShown(got), ok)
			}
		}
	}
	// Not even where what is put would stand in the place of what is wrong.
	for _, s := range wrongStores() {
		for _, name := range []string{"a", "b", "c", "q", "n01", "n49"} {
			if got, ok := checkStorePut(t, s, name, numRel(1)); ok || !noStore(got) {
				t.Errorf("StorePut into %s: %s %v", storeShown(s), storeShown(got), ok)
			}
		}
	}
}

func TestStoreBytesByHand(t *testing.T) {
	six := "\xff\xff\xff\xff\xff\xff"
	for _, c := range []struct {
		what string
		s    impl.Store
		want string
	}{
		{"no relations", impl.Store{}, "\x00"},
		{"no relations, not nil", impl.Store{Rels: []impl.Named{}}, "\x00"},
		{"no columns and rows", bareStore("a"), "\x01\x01a\x00\x00\x00"},
		{"no columns, and a row", oneStore(relOf(0, impl.Row{})), "\x01\x01a\x00\x00\x01"},
		{"no columns, and a row that isn't nil", oneStore(relOf(0, rowOf([]impl.Value{}...))), "\x01\x01a\x00\x00\x01"},
		{"columns without rows", oneStore(relOf(6)), "\x01\x01a\x06\x00\x00"},
		{"rows that aren't nil", oneStore(impl.Rel{Arity: 5, Rows: []impl.Row{}}), "\x01\x01a\x05\x00\x00"},
		{"two without rows", storeOf(named("a", relOf(1)), named("ab", relOf(2))), "\x02\x01a\x01\x00\x00\x02ab\x02\x00\x00"},
		{"the longest name", bareStore("abcdefghijkl"), "\x01\x0cabcdefghijkl\x00\x00\x00"},
		{"the number 0", oneStore(numRel(0)), "\x01\x01a\x01\x00\x01\x00\x00\x00\x00\x00\x00\x00"},
		{"the number MaxNum", oneStore(numRel(impl.MaxNum)), "\x01\x01a\x01\x00\x01\x00" + six},
		{"bytes from the highest on", oneStore(numRel(0x010203040506)), "\x01\x01a\x01\x00\x01\x00\x01\x02\x03\x04\x05\x06"},
		{"a word of one byte", oneStore(relOf(1, rowOf(word("q")))), "\x01\x01a\x01\x00\x01\x01q"},
		{"the longest word", oneStore(relOf(1, rowOf(word("q23456789012")))), "\x01\x01a\x01\x00\x01\x0cq23456789012"},
		{"a number and a word", oneStore(relOf(2, rowOf(num(5), word("b7")))), "\x01\x01a\x02\x00\x01\x00\x00\x00\x00\x00\x00\x05\x02b7"},
		{"two rows", oneStore(relOf(1, rowOf(num(5)), rowOf(word("b")))), "\x01\x01a\x01\x00\x02\x00\x00\x00\x00\x00\x00\x05\x01b"},
		{"two with rows", storeOf(named("a", relOf(1, rowOf(word("x")))), named("b", relOf(2, rowOf(word("y"), word("z"))))), "\x02\x01a\x01\x00\x01\x01x\x01b\x02\x00\x01\x01y\x01z"},
	} {
		got, ok := checkStoreBytes(t, c.s)
		if !ok || string(got) != c.want {
			t.Errorf("%s: % x %v, not % x", c.what, got, ok, c.want)
		}
		if read, ok := checkStoreRead(t, []byte(c.want)); !ok || !sameStore(read, c.s) {
			t.Errorf("%s is read as %s %v", c.what, storeShown(read), ok)
		}
	}
}

func TestStoreBytes(t *testing.T) {
	for _, s := range rightStores() {
		if _, ok := checkStoreBytes(t, s); !ok {
			t.Errorf("StoreBytes refuses %s", storeShown(s))
		}
	}
	for _, s := range wrongStores() {
		if got, ok := checkStoreBytes(t, s); ok || len(got) != 0 {
			t.Errorf("StoreBytes of %s: % .40x %v", storeShown(s), got, ok)
		}
	}
}

func TestStoreBytesHowManyRows(t *testing.T) {
	for _, n := range []int{0, 1, 255, 256, 257, 299, 300} {
		got, ok := checkStoreBytes(t, oneStore(countedRel(1, n)))
		if !ok || len(got) != 6+7*n || int(got[4])<<8|int(got[5]) != n {
			t.Errorf("StoreBytes with %d rows: %d bytes % .10x %v", n, len(got), got, ok)
		}
		if read, ok := checkStoreRead(t, got); !ok || !sameStore(read, oneStore(countedRel(1, n))) {
			t.Errorf("%d rows are read as %s %v", n, storeShown(read), ok)
		}
	}
}

func TestStoreBytesMaxBytes(t *testing.T) {
	for n := impl.MaxBytes - 80; n <= impl.MaxBytes+80; n++ {
		s := sizedStore(n)
		if len(storeWritten(s)) != n || !storeRight(s) {
			t.Fatalf("a store of %d bytes, not %d", len(storeWritten(s)), n)
		}
		got, ok := impl.StoreBytes(s)
		if ok != (n <= 60000) || ok && len(got) != n || !ok && len(got) != 0 {
			t.Errorf("StoreBytes where %d bytes would come: %d %v", n, len(got), ok)
		}
		if read, also := impl.StoreRead(storeWritten(s)); also != ok || ok && !sameStore(read, s) || !ok && !noStore(read) {
			t.Errorf("StoreRead of %d bytes: %s %v", n, storeShown(read), also)
		}
	}
	for _, n := range []int{impl.MaxBytes - 1, impl.MaxBytes, impl.MaxBytes + 1} {
		checkStoreBytes(t, sizedStore(n))
		checkStoreRead(t, storeWritten(sizedStore(n)))
	}
}

// The greatest store there is is right, and is kept and found, but has too many bytes.
func TestGreatestStore(t *testing.T) {
	s := impl.Store{}
	for i := range 24 {
		s.Rels = append(s.Rels, named("abcdefghi"+nthName(i), relOf(6)))
		for j := range 300 {
			row := rowOf(slices.Repeat([]impl.Value{word("abcdefghijkl")}, 6)...)
			row.V[i%6] = word(fmt.Sprintf("abcdefghi%03d", j))
			s.Rels[i].Rel.Rows = append(s.Rels[i].Rel.Rows, row)
		}
	}
	if !impl.StoreOk(s) || !impl.SameStore(s, copyStore(s)) {
		t.Error("the greatest store isn't one")
	}
	if got, ok := impl.StoreBytes(s); ok || len(got) != 0 {
		t.Errorf("StoreBytes of the greatest store: %d bytes %v", len(got), ok)
	}
	if got, ok := impl.StoreRead(storeWritten(s)); ok || !noStore(got) {
		t.Errorf("StoreRead of the greatest store: %s %v", storeShown(got), ok)
	}
	for _, x := range s.Rels {
		if got, ok := impl.StoreRel(s, x.Name); !ok || !sameRel(got, x.Rel) {
			t.Errorf("StoreRel of %s in the greatest store: %s %v", x.Name, relShown(got), ok)
		}
		if got, ok := impl.StorePut(s, x.Name, numRel(1)); !ok || impl.SameStore(got, s) {
			t.Errorf("StorePut of %s into the greatest store: %s %v", x.Name, storeShown(got), ok)
		}
	}
}

func TestStoresAreReadAsWritten(t *testing.T) {
	for _, s := range rightStores() {
		b, _ := impl.StoreBytes(s)
		if got, ok := checkStoreRead(t, b); !ok || !sameStore(got, s) || !impl.SameStore(got, s) {
			t.Errorf("%s is read as %s %v", storeShown(s), storeShown(got), ok)
		}
	}
}

// Of stores that aren't right bytes can be written by hand, as far as bytes can tell them; they are read as nothing.
func TestWrongStoresAreNotRead(t *testing.T) {
	for _, s := range wrongStores() {
		if got, ok := checkStoreRead(t, storeWritten(s)); ok && sameStore(got, s) {
			t.Errorf("%s is read", storeShown(s))
		}
	}
}

func TestStoreReadByHand(t *testing.T) {
	row := "\x00\x00\x00\x00\x00\x00"
	full, _ := impl.StoreBytes(manyStore(24))
	many := storeWritten(manyStore(25))
	for _, c := range []struct {
		what string
		b    string
		want bool
	}{
		{"no bytes", "", false},
		{"no relations", "\x00", true},
		{"no relations and a byte", "\x00\x00", false},
		{"a relation told, and none there", "\x01", false},
		{"no relation told, and one there", "\x00\x01a\x00\x00\x00", false},
		{"one told, and two there", "\x01\x01a\x00\x00\x00\x01b\x00\x00\x00", false},
		{"two told, and one there", "\x02\x01a\x00\x00\x00", false},
		{"two", "\x02\x01a\x00\x00\x00\x01b\x00\x00\x00", true},
		{"two names alike", "\x02\x01a\x00\x00\x00\x01a\x00\x00\x00", false},
		{"two names alike, and one told", "\x01\x01a\x00\x00\x00\x01a\x00\x00\x00", false},
		{"names that fall", "\x02\x01b\x00\x00\x00\x01a\x00\x00\x00", false},
		{"a name and its beginning", "\x02\x02ab\x00\x00\x00\x01a\x00\x00\x00", false},
		{"a beginning and its name", "\x02\x01a\x00\x00\x00\x02ab\x00\x00\x00", true},
		{"24 relations", string(full), true},
		{"25 relations", string(many), false},
		{"24 told, and 25 there", "\x18" + string(many[1:]), false},
		{"25 told, and 24 there", "\x19" + string(full[1:]), false},
		{"255 told, and 24 there", "\xff" + string(full[1:]), false},
		{"an empty name", "\x01\x00\x00\x00\x00", false},
		{"a capital", "\x01\x01A\x00\x00\x00", false},
		{"a digit in front", "\x01\x011\x00\x00\x00", false},
		{"a byte of 0 in a name", "\x01\x02a\x00\x00\x00\x00", false},
		{"a byte above 127 in a name", "\x01\x02a\xe9\x00\x00\x00", false},
		{"a name of 12 bytes", "\x01\x0cabcdefghijkl\x00\x00\x00", true},
		{"a name of 13 bytes", "\x01\x0dabcdefghijklm\x00\x00\x00", false},
		{"a name longer than all there is", "\x01\x0cab", false},
		{"an arity of 6", "\x01\x01a\x06\x00\x00", true},
		{"an arity of 7", "\x01\x01a\x07\x00\x00", false},
		{"an arity of 255", "\x01\x01a\xff\x00\x00", false},
		{"an arity of 7 with a row", "\x01\x01a\x07\x00\x01\x01a\x01a\x01a\x01a\x01a\x01a\x01a", false},
		{"no columns and two rows", "\x01\x01a\x00\x00\x02", false},
		{"no columns and 65535 rows", "\x01\x01a\x00\xff\xff", false},
		{"a row told, and none there", "\x01\x01a\x01\x00\x01", false},
		{"a row, and none told", "\x01\x01a\x01\x00\x00\x01a", false},
		{"the greatest number", "\x01\x01a\x01\x00\x01\x00\xff\xff\xff\xff\xff\xff", true},
		{"a number of five bytes", "\x01\x01a\x01\x00\x01\x00\xff\xff\xff\xff\xff", false},
		{"a number of seven bytes", "\x01\x01a\x01\x00\x01\x00\x01\xff\xff\xff\xff\xff\xff", false},
		{"rows that rise", "\x01\x01a\x01\x00\x02\x00" + row + "\x01a", true},
		{"rows that fall", "\x01\x01a\x01\x00\x02\x01a\x00" + row, false},
		{"rows alike", "\x01\x01a\x01\x00\x02\x00" + row + "\x00" + row, false},
		{"words that fall", "\x01\x01a\x01\x00\x02\x01b\x01a", false},
		{"a word of 12 bytes", "\x01\x01a\x01\x00\x01\x0cabcdefghijkl", true},
		{"a word of 13 bytes", "\x01\x01a\x01\x00\x01\x0dabcdefghijklm", false},
		{"a word of 255 bytes", "\x01\x01a\x01\x00\x01\xff" + strings.Repeat("a", 255), false},
		{"a word with a capital", "\x01\x01a\x01\x00\x01\x02aB", false},
		{"a word that is a number", "\x01\x01a\x01\x00\x01\x0112", false},
		{"a word of one digit", "\x01\x01a\x01\x00\x01\x017", false},
		{"a word with a byte of 0", "\x01\x01a\x01\x00\x01\x02a\x00", false},
		{"a word with a byte above 127", "\x01\x01a\x01\x00\x01\x02a\xff", false},
		{"a word longer than all there is", "\x01\x01a\x01\x00\x01\x03ab", false},
	} {
		if got, ok := checkStoreRead(t, []byte(c.b)); ok != c.want || !ok && !noStore(got) {
			t.Errorf("%s: %s %v", c.what, storeShown(got), ok)
		}
	}
	if got, ok := impl.StoreRead(nil); ok || !noStore(got) {
		t.Errorf("nil is read as %s", storeShown(got))
	}
}

func TestStoreReadHowManyRows(t *testing.T) {
	for _, n := range []int{299, 300, 301, 302, 512, 65535} {
		got, ok := checkStoreRead(t, storeWritten(oneStore(countedRel(1, n))))
		if ok != (n <= 300) || len(got.Rels) > 0 && len(got.Rels[0].Rel.Rows) != n {
			t.Errorf("StoreRead of %d rows: %s %v", n, storeShown(got), ok)
		}
	}
	full := storeWritten(oneStore(countedRel(1, 300)))
	for _, told := range []uint16{0, 44, 256, 299, 301, 556, 65535} {
		b := bytes.Clone(full)
		binary.BigEndian.PutUint16(b[4:], told)
		if got, ok := checkStoreRead(t, b); ok || !noStore(got) {
			t.Errorf("%d rows told, and 300 there: %s %v", told, storeShown(got), ok)
		}
	}
}

// Few bytes may tell of very many rows; long ones may tell of few. Neither is a store, and both are soon told.
func TestStoreReadMuchTold(t *testing.T) {
	for _, piece := range []string{"\x01a\x00\xff\xff", "\x01a\xff\xff\xff", "\xff", "\x00", "\x01a\x06\x01\x2c", "\x01\x01", "a"} {
		for _, lead := range []byte{0, 1, 24, 25, 255} {
			for _, n := range []int{1, 24, 255, 12000, 60000, 200000} {
				b := append([]byte{lead}, strings.Repeat(piece, n)...)
				if len(b) > 1000000 {
					continue
				}
				if got, ok := checkStoreRead(t, b); ok && (n > 24 || len(b) > 60000) {
					t.Errorf("%d times %q is read as %s", n, piece, storeShown(got))
				}
			}
		}
	}
	b := storeWritten(sizedStore(impl.MaxBytes))
	for _, more := range []int{1, 2, 100, 1000000} {
		if got, ok := impl.StoreRead(append(bytes.Clone(b), make([]byte, more)...)); ok || !noStore(got) {
			t.Errorf("MaxBytes bytes and %d more are read", more)
		}
	}
}

// tornStores are small, and have all kinds of places.
func tornStores() []impl.Store {
	return []impl.Store{
		{}, bareStore("a"), bareStore("abcdefghijkl"), bareStore("a", "ab", "b"), oneStore(relOf(0, impl.Row{})), oneStore(numRel(0, 5, impl.MaxNum)), plainStore(),
		oneStore(relOf(1, rowOf(word("a")), rowOf(word("ab")), rowOf(word("abcdefghijkl")))), storeOf(named("x", relOf(2, rowOf(num(1), num(2)))), named("y", relOf(2, rowOf(num(1), num(2))))),
	}
}

// Every place takes every byte.
func TestStoreReadEveryByte(t *testing.T) {
	read := 0
	for _, s := range tornStores() {
		b := storeWritten(s)
		for at := range b {
			for x := range 256 {
				if _, ok := checkStoreRead(t, changedAt(b, at, byte(x))); ok && byte(x) != b[at] {
					read++
				}
			}
		}
	}
	if read < 1000 {
		t.Errorf("only %d changed ones are read", read)
	}
}

func TestStoreReadByteMoreOrLess(t *testing.T) {
	for _, s := range tornStores() {
		b := storeWritten(s)
		for n := range b {
			if got, ok := checkStoreRead(t, b[:n]); ok || !noStore(got) {
				t.Errorf("the first %d bytes of %d are read as %s", n, len(b), storeShown(got))
			}
		}
		for x := range 256 {
			if got, ok := checkStoreRead(t, append(bytes.Clone(b), byte(x))); ok || !noStore(got) {
				t.Errorf("%d bytes and the byte %d are read as %s", len(b), x, storeShown(got))
			}
		}
		for at := range len(b) + 1 {
			for _, x := range []byte{0, 1, 2, 12, 13, 'a', 255} {
				checkStoreRead(t, slices.Insert(bytes.Clone(b), at, x))
			}
			if at < len(b) {
				checkStoreRead(t, slices.Delete(bytes.Clone(b), at, at+1))
				checkStoreRead(t, b[at:])
			}
		}
		checkStoreRead(t, slices.Concat(b, b))
	}
}

// Every text of at most two bytes, and of a few bytes up to six.
func TestStoreReadEveryShortText(t *testing.T) {
	read := 0
	for a := range 256 {
		checkStoreRead(t, []byte{byte(a)})
		for b := range 256 {
			checkStoreRead(t, []byte{byte(a), byte(b)})
		}
	}
	eachList([]byte{0, 1, 2, 'a', 'B'}, 6, func(l []byte) {
		if _, ok := checkStoreRead(t, l); ok {
			read++
		}
	})
	// None; under the name a: no columns with and without the row, one and two columns without rows.
	if read != 5 {
		t.Errorf("%d short texts are read", read)
	}
}

func TestSameStore(t *testing.T) {
	for _, s := range append(rightStores(), sizedStore(impl.MaxBytes), sizedStore(impl.MaxBytes+1)) {
		if !impl.SameStore(s, s) || !impl.SameStore(s, copyStore(s)) || !impl.SameStore(copyStore(s), s) {
			t.Errorf("%s isn't the same as itself", storeShown(s))
		}
	}
	for _, s := range wrongStores() {
		if impl.SameStore(s, s) || impl.SameStore(s, copyStore(s)) || impl.SameStore(s, plainStore()) || impl.SameStore(impl.Store{}, s) {
			t.Errorf("%s is the same as something, though it isn't right", storeShown(s))
		}
	}
	full, empty := storeOf(named("a", impl.Rel{Arity: 1, Rows: []impl.Row{}}), named("b", relOf(0, rowOf([]impl.Value{}...)))), storeOf(named("a", relOf(1)), named("b", relOf(0, impl.Row{})))
	if !checkSameStore(t, full, empty) || !checkSameStore(t, impl.Store{}, impl.Store{Rels: []impl.Named{}}) {
		t.Error("a nil list and an empty one are the same")
	}
}

func TestSameStoreEveryPair(t *testing.T) {
	l := append(rightStores(), fewWrongStores()...)
	for _, a := range l {
		for _, b := range l {
			checkSameStore(t, a, b)
		}
	}
}

// nearStores differ from s in one thing: a name, an arity, a row, a value, a relation more or less.
func nearStores(s impl.Store) []impl.Store {
	l := []impl.Store{}
	if len(s.Rels) < 24 {
		l = append(l, storeOf(append(copyStore(s).Rels, named("zzzzzzzzzzzz", relOf(0)))...))
	}
	for at, x := range s.Rels {
		with := func(y impl.Named) {
			other := copyStore(s)
			other.Rels[at] = y
			l = append(l, other)
		}
		with(named(x.Name[:len(x.Name)-1]+"a", x.Rel))
		with(named(x.Name[:len(x.Name)-1]+"z", x.Rel))
		with(named("a"+x.Name[1:], x.Rel))
		if len(x.Rel.Rows) == 0 {
			with(named(x.Name, relOf((x.Rel.Arity+1)%7)))
			with(named(x.Name, relOf(x.Rel.Arity, mixedRow(x.Rel.Arity))))
		}
		for i, row := range x.Rel.Rows {
			with(named(x.Name, relOf(x.Rel.Arity, slices.Delete(slices.Clone(x.Rel.Rows), i, i+1)...)))
			for j := range row.V {
				with(named(x.Name, rowPut(x.Rel, i, rowWith(row, j, num(6)))))
				with(named(x.Name, rowPut(x.Rel, i, rowWith(row, j, word("c")))))
				with(named(x.Name, rowPut(x.Rel, i, rowWith(row, j, num(row.V[j].N+1)))))
			}
		}
		less := copyStore(s)
		less.Rels = slices.Delete(less.Rels, at, at+1)
		l = append(l, less)
	}
	return l
}

// Two stores are written alike just where they are alike.
func TestSameStoreNearly(t *testing.T) {
	right := 0
	for _, s := range append(tornStores(), manyStore(3), manyStore(24)) {
		b, _ := impl.StoreBytes(s)
		for _, other := range nearStores(s) {
			same := checkSameStore(t, s, other)
			if checkSameStore(t, other, s) != same || same != sameStore(s, other) {
				t.Errorf("SameStore of %s and %s: %v", storeShown(s), storeShown(other), same)
			}
			x, ok := checkStoreBytes(t, other)
			if bytes.Equal(x, b) != same {
				t.Errorf("%s and %s are written alike: %v", storeShown(s), storeShown(other), !same)
			}
			if ok && !same {
				right++
			}
		}
	}
	if right < 200 {
		t.Errorf("only %d near stores were right and others", right)
	}
}

// scatteredStore draws from few names, so that two have many of them in common.
func scatteredStore(next func() int) impl.Store {
	rels := map[string]impl.Rel{}
	for range next() % 8 {
		rels[scatteredName(next)] = scatteredRel(next, next()%7)
	}
	s := impl.Store{}
	for _, name := range slices.Sorted(maps.Keys(rels)) {
		s.Rels = append(s.Rels, named(name, rels[name]))
	}
	return s
}

func scatteredName(next func() int) string {
	if next()%4 == 0 {
		return scatteredWord(next, "abz019")
	}
	return []string{"a", "a1", "ab", "b", "host", "hosts", "port", "z"}[next()%8]
}

func TestManyStoresAreReadAsWritten(t *testing.T) {
	next := scatter(1201)
	written := map[string]impl.Store{}
	for range 6000 {
		s := scatteredStore(next)
		b, ok := checkStoreBytes(t, s)
		got, read := checkStoreRead(t, b)
		if !ok || !read || !sameStore(got, s) || !impl.SameStore(got, s) {
			t.Errorf("%s is read as %s %v", storeShown(s), storeShown(got), read)
		}
		if x, there := written[string(b)]; there && !sameStore(x, s) {
			t.Errorf("%s and %s are written alike", storeShown(x), storeShown(s))
		}
		written[string(b)] = s
	}
	if len(written) < 4000 {
		t.Errorf("only %d different stores", len(written))
	}
}

// spoiledBytes is b with a few single bytes changed, taken out, put in and moved.
func spoiledBytes(b []byte, next func() int) []byte {
	out := bytes.Clone(b)
	for range 1 + next()%2 {
		at := next() % (len(out) + 1)
		x := []byte{0, 1, 2, 3, 12, 13, 25, 255, 'a', 'b', 'z', '0', 'A', byte(next())}[next()%14]
		switch kind := next() % 8; {
		case kind == 0:
			out = slices.Insert(out, at, x)
		case kind == 1 && at < len(out):
			out = slices.Delete(out, at, at+1)
		case kind == 2 && at > 1:
			out[at-1], out[at-2] = out[at-2], out[at-1]
		case kind == 3 && at < len(out):
			out[at] ^= 1 << (next() % 8)
		case at < len(out):
			out[at] = x
		}
	}
	return out
}

// Nothing else is read as a store: StoreRead answers with true just where StoreBytes of what it gives is just the bytes.
func TestNothingElseIsReadAsAStore(t *testing.T) {
	next := scatter(1202)
	read := 0
	for range 20000 {
		if _, ok := checkStoreRead(t, spoiledBytes(storeWritten(scatteredStore(next)), next)); ok {
			read++
		}
	}
	if read < 1500 || read > 18500 {
		t.Errorf("of 20000 spoiled ones %d are read", read)
	}
	for range 5000 {
		b := wave(next() % 80)
		for i := range b {
			b[i] = []byte{0, 0, 0, 1, 1, 2, 'a', 'b', 'c', byte(next())}[next()%10]
		}
		checkStoreRead(t, b)
	}
}

// Relations of a store put in another order are not the store.
func TestStoreReadOtherOrders(t *testing.T) {
	next := scatter(1203)
	moved := 0
	for range 2000 {
		s := scatteredStore(next)
		other := copyStore(s)
		for i := range other.Rels {
			j := next() % (i + 1)
			other.Rels[i], other.Rels[j] = other.Rels[j], other.Rels[i]
		}
		_, ok := checkStoreRead(t, storeWritten(other))
		if same := sameStore(s, other); ok != same || impl.SameStore(s, other) != same || impl.StoreOk(other) != same {
			t.Errorf("%s is taken for a store: %v", storeShown(other), ok)
		} else if !same {
			moved++
		}
		if len(s.Rels) > 0 {
			twice := storeOf(slices.Insert(copyStore(s).Rels, 0, s.Rels[next()%len(s.Rels)])...)
			if _, ok := checkStoreRead(t, storeWritten(twice)); ok {
				t.Errorf("%s has a name twice, and is read", storeShown(twice))
			}
		}
	}
	if moved < 1000 {
		t.Errorf("only %d were in another order", moved)
	}
}

// StorePut changes what StoreRel gives under that name and under no other.
func TestManyPut(t *testing.T) {
	next := scatter(1204)
	there := 0
	for range 4000 {
		s, name, r := scatteredStore(next), scatteredName(next), scatteredRel(next, next()%7)
		if _, had := impl.StoreRel(s, name); had {
			there++
		}
		got, ok := checkStorePut(t, s, name, r)
		if back, found := checkStoreRel(t, got, name); !ok || !found || !sameRel(back, r) {
			t.Errorf("%s put in as %s is %s %v", relShown(r), name, relShown(back), found)
		}
		for _, other := range []string{"a", "a1", "ab", "b", "host", "hosts", "port", "z", scatteredName(next), ""} {
			before, had := impl.StoreRel(s, other)
			after, has := impl.StoreRel(got, other)
			if other != name && (had != has || !sameRel(before, after)) {
				t.Errorf("StorePut as %s changed %q: %s %v, then %s %v", name, other, relShown(before), had, relShown(after), has)
			}
		}
		again, _ := impl.StorePut(got, name, r)
		over, _ := impl.StorePut(got, name, relOf(0))
		back, _ := impl.StorePut(over, name, r)
		if !impl.SameStore(again, got) || !impl.SameStore(back, got) {
			t.Errorf("%s put twice, or over another, is another store", name)
		}
	}
	if there < 500 || there > 3500 {
		t.Errorf("of 4000 names %d were there", there)
	}
}

// A store is the same in whatever order its relations were put in, and each time it is made.
func TestStorePutInAnyOrder(t *testing.T) {
	next := scatter(1205)
	want := manyStore(24)
	b, _ := impl.StoreBytes(want)
	for range 200 {
		l := slices.Clone(want.Rels)
		for i := range l {
			j := next() % (i + 1)
			l[i], l[j] = l[j], l[i]
		}
		s := impl.Store{}
		for _, x := range l {
			s, _ = impl.StorePut(s, x.Name, relOf(0))
			s, _ = impl.StorePut(s, x.Name, x.Rel)
		}
		got, ok := impl.StoreBytes(s)
		if !ok || !sameStore(s, want) || !bytes.Equal(got, b) || !impl.SameStore(s, want) {
			t.Fatalf("another store by another order: %s", storeShown(s))
		}
	}
}

func TestStoreAnswersTwice(t *testing.T) {
	next := scatter(1206)
	for range 300 {
		s, name, r := scatteredStore(next), scatteredName(next), scatteredRel(next, 2)
		put, ok := impl.StorePut(s, name, r)
		rel, found := impl.StoreRel(s, name)
		b, written := impl.StoreBytes(s)
		for range 10 {
			impl.StorePut(scatteredStore(next), name, r)
			put2, ok2 := impl.StorePut(s, name, r)
			rel2, found2 := impl.StoreRel(s, name)
			b2, written2 := impl.StoreBytes(s)
			read, _ := impl.StoreRead(b)
			if ok != ok2 || found != found2 || written != written2 || !sameStore(put, put2) || !sameRel(rel, rel2) || !bytes.Equal(b, b2) || !sameStore(read, s) {
				t.Fatalf("%s is answered in two ways", storeShown(s))
			}
		}
	}
}

func TestManyStoresSpoiled(t *testing.T) {
	next := scatter(1207)
	right, wrong := 0, fewWrongRels()
	for range 5000 {
		a, b := scatteredStore(next), scatteredStore(next)
		name, r := scatteredName(next), scatteredRel(next, next()%7)
		if n := len(a.Rels); n > 0 {
			at := next() % n
			switch next() % 10 {
			case 0:
				a.Rels[at].Rel = wrong[next()%len(wrong)]
			case 1:
				a.Rels[at].Name = noNames()[next()%len(noNames())]
			case 2:
				a.Rels[at].Name = scatteredName(next)
			case 3:
				a.Rels = slices.Insert(a.Rels, at, a.Rels[next()%n])
			}
		}
		switch next() % 12 {
		case 0:
			name = noNames()[next()%len(noNames())]
		case 1:
			r = wrong[next()%len(wrong)]
		}
		if checkStoreOk(t, a) {
			right++
		}
		checkStoreRel(t, a, name)
		checkStorePut(t, a, name, r)
		checkStoreBytes(t, a)
		checkSameStore(t, a, b)
		checkSameStore(t, a, copyStore(a))
		checkStoreRead(t, storeWritten(a))
	}
	if right < 2500 || right > 4800 {
		t.Errorf("of 5000 stores %d were right", right)
	}
}

// TestStoreWalk puts relations in and works on them as on sets, against plain sets of numbers under names, at the limit of names for long.
func TestStoreWalk(t *testing.T) {
	next := scatter(1208)
	s, model := impl.Store{}, map[string]map[int]bool{}
	refused := 0
	for step := range 3000 {
		name, n := nthName(next()%28), next()%12
		have, there := impl.StoreRel(s, name)
		if _, known := model[name]; there != known {
			t.Fatalf("step %d: %s is there: %v", step, name, there)
		}
		have.Arity = 1
		call := impl.RelAdd
		if next()%3 == 0 {
			call = impl.RelDrop
		}
		changed, _ := call(have, rowOf(num(n)))
		got, ok := impl.StorePut(s, name, changed)
		if ok != (there || len(model) < 24) {
			t.Fatalf("step %d with %d names: %v", step, len(model), ok)
		}
		if !ok {
			refused++
			continue
		}
		s = got
		set := map[int]bool{}
		for _, row := range changed.Rows {
			set[row.V[0].N] = true
		}
		for x := range 12 {
			if want := x == n && impl.RelHas(changed, rowOf(num(n))) || x != n && model[name][x]; set[x] != want {
				t.Fatalf("step %d: %d in %s: %v", step, x, name, set[x])
			}
		}
		model[name] = set
		checkModel(t, s, model)
	}
	if refused < 100 {
		t.Errorf("the store was full only %d times", refused)
	}
	b, _ := impl.StoreBytes(s)
	read, ok := impl.StoreRead(b)
	if !ok {
		t.Error("the store isn't read")
	}
	checkModel(t, read, model)
}

func checkModel(t *testing.T, s impl.Store, model map[string]map[int]bool) {
	t.Helper()
	if len(s.Rels) != len(model) || !impl.StoreOk(s) {
		t.Fatalf("%s, not %d names", storeShown(s), len(model))
	}
	for name, set := range model {
		r, ok := impl.StoreRel(s, name)
		if !ok || !sameRel(r, numRel(slices.Sorted(maps.Keys(set))...)) {
			t.Fatalf("%s is %s, not %v", name, relShown(r), set)
		}
	}
}

// One relation may be given under two names, or its rows lie in one list of values: the answers are apart all the same.
func TestStoreAnswersApart(t *testing.T) {
	l := []impl.Value{num(1), num(2), num(3), num(4)}
	r := relOf(2, rowOf(l[0:2]...), rowOf(l[1:3]...), rowOf(l[2:4]...))
	s := storeOf(named("a", r), named("b", r), named("c", relOf(0, impl.Row{V: l[:0]})))
	before := copyStore(s)
	given := slices.Concat(spots(l), spots(r.Rows), spots(s.Rels))
	answers := []impl.Store{}
	for _, name := range []string{"a", "aa", "b", "c", "d"} {
		got, ok := impl.StorePut(s, name, r)
		if !ok {
			t.Errorf("StorePut of %s is refused", name)
		}
		checkStoreAnswer(t, got, ok, given)
		answers = append(answers, got)
	}
	for _, name := range []string{"a", "b", "c"} {
		one, ok := impl.StoreRel(s, name)
		checkAnswer(t, one, ok, given)
		two, _ := impl.StoreRel(s, name)
		checkApart(t, relSpots(one), relSpots(two))
		answers = append(answers, oneStore(one))
	}
	b, _ := impl.StoreBytes(s)
	read, _ := impl.StoreRead(b)
	other, _ := impl.StoreRead(b)
	checkApart(t, storeSpots(read), storeSpots(other))
	answers = append(answers, read)
	for _, got := range answers {
		for _, x := range got.Rels {
			for i, row := range x.Rel.Rows {
				x.Rel.Rows[i].V = append(row.V, num(98))
				x.Rel.Rows[i].V[0] = num(99)
			}
		}
		clear(got.Rels)
	}
	clear(b)
	if !sameStore(s, before) || !sameStore(other, before) || !slices.Equal(l, []impl.Value{num(1), num(2), num(3), num(4)}) {
		t.Error("writing to an answer changed something else")
	}
}

// TestStoreSpareRoom has a store that is the front of a longer list of relations.
func TestStoreSpareRoom(t *testing.T) {
	whole := manyStore(12)
	keep := copyStore(whole)
	for n := range 13 {
		front := storeOf(whole.Rels[:n]...)
		for i := range 26 {
			impl.StorePut(front, nthName(i), numRel(99))
			impl.StoreRel(front, nthName(i))
		}
		impl.StoreBytes(front)
		impl.SameStore(front, whole)
		if !sameStore(whole, keep) {
			t.Fatalf("a call on the first %d relations changed what lies behind them", n)
		}
	}
}

// A list without elements and a nil one are the same value, in each list of a store.
func TestStoreNilAndEmptyLists(t *testing.T) {
	none, empty := []impl.Row{{V: nil}}, []impl.Row{{V: []impl.Value{}}}
	for _, pair := range [][2]impl.Store{
		{{Rels: nil}, {Rels: []impl.Named{}}},
		{oneStore(impl.Rel{Arity: 3, Rows: nil}), oneStore(impl.Rel{Arity: 3, Rows: []impl.Row{}})},
		{oneStore(impl.Rel{Rows: none}), oneStore(impl.Rel{Rows: empty})},
		{oneStore(impl.Rel{Arity: 1, Rows: none}), oneStore(impl.Rel{Arity: 1, Rows: empty})},
	} {
		a, b := pair[0], pair[1]
		if right := storeRight(a); impl.StoreOk(a) != right || impl.StoreOk(b) != right || impl.SameStore(a, b) != right || impl.SameStore(b, a) != right {
			t.Errorf("%s isn't the same with lists that are nil and that are empty", storeShown(a))
		}
		for _, name := range []string{"a", "b"} {
			x, ok := impl.StoreRel(a, name)
			y, also := impl.StoreRel(b, name)
			if ok != also || !sameRel(x, y) {
				t.Errorf("StoreRel of %s in %s: %s %v, and %s %v", name, storeShown(a), relShown(x), ok, relShown(y), also)
			}
			for _, r := range []impl.Rel{{Rows: nil}, {Rows: []impl.Row{}}, {Rows: none}, {Rows: empty}} {
				x, ok := impl.StorePut(a, name, r)
				y, also := impl.StorePut(b, name, r)
				if ok != also || ok != storeRight(a) || !sameStore(x, y) {
					t.Errorf("StorePut into %s: %s %v, and %s %v", storeShown(a), storeShown(x), ok, storeShown(y), also)
				}
			}
		}
		x, ok := impl.StoreBytes(a)
		y, also := impl.StoreBytes(b)
		if ok != also || ok != storeRight(a) || !bytes.Equal(x, y) {
			t.Errorf("StoreBytes of %s: % x %v, and % x %v", storeShown(a), x, ok, y, also)
		}
	}
	if one, ok := impl.StoreRead([]byte{}); ok || !noStore(one) {
		t.Errorf("no bytes are read as %s", storeShown(one))
	}
}

// Numbers very large and below 0, at each place of a store.
func TestStoreFarNumbers(t *testing.T) {
	for _, n := range []int{-1, -2, math.MinInt, math.MinInt + 1, math.MaxInt, math.MaxInt - 1, 1 << 48, 1<<48 + 5, 1 << 62, -256} {
		for _, s := range []impl.Store{oneStore(relOf(n)), oneStore(relOf(n, impl.Row{})), oneStore(relOf(1, rowOf(num(n)))), oneStore(relOf(2, rowOf(num(1), num(n)))), oneStore(relOf(1, rowOf(impl.Value{N: n, S: "a"})))} {
			if checkStoreOk(t, s) || checkSameStore(t, s, s) {
				t.Errorf("%s is taken for a store", storeShown(s))
			}
			checkStoreBytes(t, s)
			checkStoreRel(t, s, "a")
			checkStorePut(t, s, "a", relOf(0))
			checkStorePut(t, impl.Store{}, "a", s.Rels[0].Rel)
		}
	}
}
