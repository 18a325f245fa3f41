package tests

import (
	"fmt"
	"maps"
	"math"
	"slices"
	"strings"
	"testing"

	"loop.example/g00391/impl"
)

func change(name string, plus impl.Rel, minus impl.Rel) impl.Change {
	return impl.Change{Name: name, Plus: plus, Minus: minus}
}

func deltaOf(l ...impl.Change) impl.Delta { return impl.Delta{Changes: l} }

// oneDelta has one change, under a name that is a word.
func oneDelta(plus impl.Rel, minus impl.Rel) impl.Delta { return deltaOf(change("a", plus, minus)) }

func plusDelta(l ...int) impl.Delta { return oneDelta(numRel(l...), numRel()) }

func minusDelta(l ...int) impl.Delta { return oneDelta(numRel(), numRel(l...)) }

// manyDelta has n changes with one row each, of the names that manyStore has, which it fits.
func manyDelta(n int) impl.Delta {
	d := impl.Delta{}
	for i := range n {
		c := change(nthName(2*i+1), numRel(i+100), numRel())
		if i%2 == 1 {
			c.Plus, c.Minus = numRel(), numRel(i)
		}
		d.Changes = append(d.Changes, c)
	}
	return d
}

// namedDelta has changes of these names that are all alike.
func namedDelta(names ...string) impl.Delta {
	d := impl.Delta{}
	for _, name := range names {
		d.Changes = append(d.Changes, change(name, numRel(1), numRel()))
	}
	return d
}

// span is the relation of the numbers from at on, n of them.
func span(at int, n int) impl.Rel {
	r := numRel()
	for i := range n {
		r.Rows = append(r.Rows, rowOf(num(at+i)))
	}
	return r
}

func copyDelta(d impl.Delta) impl.Delta {
	out := impl.Delta{}
	for _, c := range d.Changes {
		out.Changes = append(out.Changes, change(c.Name, copyRel(c.Plus), copyRel(c.Minus)))
	}
	return out
}

func sameChange(a impl.Change, b impl.Change) bool {
	return a.Name == b.Name && sameRel(a.Plus, b.Plus) && sameRel(a.Minus, b.Minus)
}

func sameDelta(a impl.Delta, b impl.Delta) bool {
	return slices.EqualFunc(a.Changes, b.Changes, sameChange)
}

func noDelta(d impl.Delta) bool { return len(d.Changes) == 0 }

func deltaShown(d impl.Delta) string {
	out := fmt.Sprintf("%d changes", len(d.Changes))
	for _, c := range d.Changes[:min(len(d.Changes), 6)] {
		out += fmt.Sprintf("; %.20q + %s - %s", c.Name, relShown(c.Plus), relShown(c.Minus))
	}
	return out
}

func rowsLess(a []impl.Row, b []impl.Row) []impl.Row {
	var out []impl.Row
	for _, row := range a {
		if !oneOf(b, row) {
			out = append(out, row)
		}
	}
	return out
}

func rowsMeet(a []impl.Row, b []impl.Row) bool { return len(rowsLess(a, b)) < len(a) }

// deltaRight is DeltaOk by the document's words.
func deltaRight(d impl.Delta) bool {
	if len(d.Changes) > 24 {
		return false
	}
	for i, c := range d.Changes {
		switch {
		case !wordForm.MatchString(c.Name), i > 0 && !bytesBefore(d.Changes[i-1].Name, c.Name):
			return false
		case !relRight(c.Plus), !relRight(c.Minus), c.Plus.Arity != c.Minus.Arity:
			return false
		case rowsMeet(c.Plus.Rows, c.Minus.Rows), len(c.Plus.Rows)+len(c.Minus.Rows) == 0:
			return false
		}
	}
	return true
}

func deltaFitsSpelled(s impl.Store, d impl.Delta) bool {
	if !storeRight(s) || !deltaRight(d) {
		return false
	}
	for _, c := range d.Changes {
		r, there := storeRelSpelled(s, c.Name)
		if !there || r.Arity != c.Plus.Arity || len(rowsLess(c.Minus.Rows, r.Rows)) > 0 || rowsMeet(c.Plus.Rows, r.Rows) {
			return false
		}
	}
	return true
}

func deltaApplySpelled(s impl.Store, d impl.Delta) (impl.Store, bool) {
	if !deltaFitsSpelled(s, d) {
		return impl.Store{}, false
	}
	out := copyStore(s)
	for _, c := range d.Changes {
		for i, x := range out.Rels {
			if x.Name != c.Name {
				continue
			}
			out.Rels[i].Rel = gathered(x.Rel.Arity, append(rowsLess(x.Rel.Rows, c.Minus.Rows), c.Plus.Rows...)...)
			if len(out.Rels[i].Rel.Rows) > 300 {
				return impl.Store{}, false
			}
		}
	}
	return out, true
}

func deltaOfSpelled(a impl.Store, b impl.Store) (impl.Delta, bool) {
	if !storeRight(a) || !storeRight(b) || len(a.Rels) != len(b.Rels) {
		return impl.Delta{}, false
	}
	out := impl.Delta{}
	for _, x := range a.Rels {
		r, there := storeRelSpelled(b, x.Name)
		if !there || r.Arity != x.Rel.Arity {
			return impl.Delta{}, false
		}
		plus, minus := rowsLess(r.Rows, x.Rel.Rows), rowsLess(x.Rel.Rows, r.Rows)
		if len(plus)+len(minus) > 0 {
			out.Changes = append(out.Changes, change(x.Name, relOf(r.Arity, plus...), relOf(r.Arity, minus...)))
		}
	}
	return out, true
}

func deltaBackSpelled(d impl.Delta) impl.Delta {
	if !deltaRight(d) {
		return impl.Delta{}
	}
	out := copyDelta(d)
	for i, c := range out.Changes {
		out.Changes[i].Plus, out.Changes[i].Minus = c.Minus, c.Plus
	}
	return out
}

// namedChanges are those of a name: one where there is such a change, else none.
func namedChanges(d impl.Delta, name string) []impl.Change {
	return slices.DeleteFunc(slices.Clone(d.Changes), func(c impl.Change) bool { return c.Name != name })
}

// thenSpelled is the change of one name by the document's words; it is false where the name has two arities, or a row is in both Plus or both Minus.
func thenSpelled(name string, a impl.Delta, b impl.Delta) (impl.Change, bool) {
	x, y := namedChanges(a, name), namedChanges(b, name)
	arity := slices.Concat(x, y)[0].Plus.Arity
	none := change(name, relOf(arity), relOf(arity))
	first, second := append(x, none)[0], append(y, none)[0]
	ap, am, bp, bm := first.Plus.Rows, first.Minus.Rows, second.Plus.Rows, second.Minus.Rows
	if first.Plus.Arity != second.Plus.Arity || rowsMeet(ap, bp) || rowsMeet(am, bm) {
		return impl.Change{}, false
	}
	plus, minus := append(rowsLess(ap, bm), rowsLess(bp, am)...), append(rowsLess(am, bp), rowsLess(bm, ap)...)
	return change(name, gathered(arity, plus...), gathered(arity, minus...)), true
}

func deltaThenSpelled(a impl.Delta, b impl.Delta) (impl.Delta, bool) {
	if !deltaRight(a) || !deltaRight(b) {
		return impl.Delta{}, false
	}
	names := map[string]bool{}
	for _, c := range slices.Concat(a.Changes, b.Changes) {
		names[c.Name] = true
	}
	out := impl.Delta{}
	for _, name := range slices.Sorted(maps.Keys(names)) {
		c, ok := thenSpelled(name, a, b)
		if !ok {
			return impl.Delta{}, false
		}
		if len(c.Plus.Rows)+len(c.Minus.Rows) > 0 {
			out.Changes = append(out.Changes, c)
		}
	}
	if !deltaRight(out) {
		return impl.Delta{}, false
	}
	return out, true
}

func deltaSpots(d impl.Delta) []any {
	out := spots(d.Changes)
	for _, c := range d.Changes[:cap(d.Changes)] {
		out = append(append(out, relSpots(c.Plus)...), relSpots(c.Minus)...)
	}
	return out
}

func wholeDelta(d impl.Delta) impl.Delta {
	out := deltaOf(slices.Clone(d.Changes[:len(d.Changes)+3])...)
	for i, c := range d.Changes {
		out.Changes[i].Plus, out.Changes[i].Minus = wholeRel(c.Plus), wholeRel(c.Minus)
	}
	return out
}

// underDelta hands a change with spare room behind each of its lists to a call, and asks that the call changed nothing of it.
func underDelta(t *testing.T, given impl.Delta, call func(arg impl.Delta)) {
	t.Helper()
	arg := impl.Delta{}
	for _, c := range given.Changes {
		arg.Changes = append(arg.Changes, change(c.Name, roomyRel(c.Plus), roomyRel(c.Minus)))
	}
	arg.Changes, _ = roomyList(arg.Changes, change("mark", numRel(7), numRel(7)))
	before := wholeDelta(arg)
	call(arg)
	if !sameDelta(wholeDelta(arg), before) {
		t.Errorf("a change that was given was changed: %s", deltaShown(given))
	}
}

// checkDeltaAnswer asks that a change that is answered is right where ok is, else nothing, and new memory all through.
func checkDeltaAnswer(t *testing.T, got impl.Delta, ok bool, given ...[]any) {
	t.Helper()
	if ok && !impl.DeltaOk(got) || !ok && !noDelta(got) {
		t.Errorf("beside %v stands %s", ok, deltaShown(got))
	}
	checkApart(t, slices.Concat(given...), deltaSpots(got))
}

func checkDeltaOk(t *testing.T, d impl.Delta) bool {
	t.Helper()
	got := false
	underDelta(t, d, func(arg impl.Delta) { got = impl.DeltaOk(arg) })
	if got != deltaRight(d) {
		t.Errorf("DeltaOk of %s: %v", deltaShown(d), got)
	}
	return got
}

func checkFits(t *testing.T, s impl.Store, d impl.Delta) bool {
	t.Helper()
	got := false
	underStore(t, s, func(x impl.Store) {
		underDelta(t, d, func(y impl.Delta) { got = impl.DeltaFits(x, y) })
	})
	if got != deltaFitsSpelled(s, d) {
		t.Errorf("DeltaFits of %s to %s: %v", deltaShown(d), storeShown(s), got)
	}
	return got
}

func checkApply(t *testing.T, s impl.Store, d impl.Delta) (impl.Store, bool) {
	t.Helper()
	var got impl.Store
	ok := false
	underStore(t, s, func(x impl.Store) {
		underDelta(t, d, func(y impl.Delta) {
			got, ok = impl.DeltaApply(x, y)
			checkStoreAnswer(t, got, ok, storeSpots(x), deltaSpots(y))
		})
	})
	if want, wantOk := deltaApplySpelled(s, d); ok != wantOk || !sameStore(got, want) {
		t.Errorf("DeltaApply of %s to %s: %s %v, not %s %v", deltaShown(d), storeShown(s), storeShown(got), ok, storeShown(want), wantOk)
	}
	return got, ok
}

func checkDeltaOf(t *testing.T, a impl.Store, b impl.Store) (impl.Delta, bool) {
	t.Helper()
	var got impl.Delta
	ok := false
	underStore(t, a, func(x impl.Store) {
		underStore(t, b, func(y impl.Store) {
			got, ok = impl.DeltaOf(x, y)
			checkDeltaAnswer(t, got, ok, storeSpots(x), storeSpots(y))
		})
	})
	if want, wantOk := deltaOfSpelled(a, b); ok != wantOk || !sameDelta(got, want) {
		t.Errorf("DeltaOf of %s and %s: %s %v, not %s %v", storeShown(a), storeShown(b), deltaShown(got), ok, deltaShown(want), wantOk)
	}
	return got, ok
}

func checkBack(t *testing.T, d impl.Delta) impl.Delta {
	t.Helper()
	var got impl.Delta
	underDelta(t, d, func(arg impl.Delta) {
		got = impl.DeltaBack(arg)
		checkDeltaAnswer(t, got, deltaRight(d), deltaSpots(arg))
	})
	if want := deltaBackSpelled(d); !sameDelta(got, want) {
		t.Errorf("DeltaBack of %s: %s, not %s", deltaShown(d), deltaShown(got), deltaShown(want))
	}
	return got
}

func checkThen(t *testing.T, a impl.Delta, b impl.Delta) (impl.Delta, bool) {
	t.Helper()
	var got impl.Delta
	ok := false
	underDelta(t, a, func(x impl.Delta) {
		underDelta(t, b, func(y impl.Delta) {
			got, ok = impl.DeltaThen(x, y)
			checkDeltaAnswer(t, got, ok, deltaSpots(x), deltaSpots(y))
		})
	})
	if want, wantOk := deltaThenSpelled(a, b); ok != wantOk || !sameDelta(got, want) {
		t.Errorf("DeltaThen of %s and %s: %s %v, not %s %v", deltaShown(a), deltaShown(b), deltaShown(got), ok, deltaShown(want), wantOk)
	}
	return got, ok
}

// plainDelta fits plainStore and does a bit of all.
func plainDelta() impl.Delta {
	return deltaOf(
		change("a", relOf(0), relOf(0, impl.Row{})), change("a0", relOf(0, impl.Row{}), relOf(0)), change("ab", relOf(3, mixedRow(3)), relOf(3)),
		change("abcdefghijkl", relOf(1, rowOf(num(1)), rowOf(word("a"))), relOf(1, rowOf(num(0)), rowOf(word("b")))),
		change("b", relOf(2), relOf(2, rowOf(num(258), word("x1")), rowOf(word("x"), num(1)))), change("z", relOf(6, countedRow(6, 1)), relOf(6, mixedRow(6))))
}

func rightDeltas() []impl.Delta {
	row := relOf(0, impl.Row{})
	l := []impl.Delta{
		{}, {Changes: []impl.Change{}}, plusDelta(1), minusDelta(1), oneDelta(numRel(1), numRel(2)), oneDelta(numRel(2), numRel(1)), oneDelta(numRel(1, 3), numRel(2, 4)),
		oneDelta(row, relOf(0)), oneDelta(relOf(0), row), oneDelta(relOf(0, rowOf([]impl.Value{}...)), impl.Rel{Rows: []impl.Row{}}),
		oneDelta(relOf(1, rowOf(num(1))), relOf(1, rowOf(word("a")))), oneDelta(relOf(2, rowOf(num(1), num(2))), relOf(2, rowOf(num(2), num(1)))),
		namedDelta("a", "ab"), namedDelta("a", "b"), namedDelta("a9", "aa"), namedDelta("n10", "n9"), namedDelta("abcdefghijkl"), namedDelta("zzzzzzzzzzzz"), namedDelta("state"), namedDelta("not"),
		plainDelta(), manyDelta(1), manyDelta(2), manyDelta(23), manyDelta(24), deltaOf(change("a", numRel(1), numRel()), change("b", relOf(2), relOf(2, mixedRow(2)))),
		oneDelta(span(0, 300), numRel()), oneDelta(numRel(), span(0, 300)), oneDelta(span(0, 300), span(300, 300)),
	}
	for _, r := range rightRels() {
		if len(r.Rows) > 0 {
			l = append(l, oneDelta(r, relOf(r.Arity)), oneDelta(relOf(r.Arity), r), deltaOf(change("a", numRel(1), numRel()), change("b", r, relOf(r.Arity))))
		}
	}
	return l
}

// idleDeltas have a change that does nothing.
func idleDeltas() []impl.Delta {
	l := []impl.Delta{{Changes: make([]impl.Change, 1)}, oneDelta(impl.Rel{}, impl.Rel{}), oneDelta(impl.Rel{Rows: []impl.Row{}}, impl.Rel{})}
	for arity := range 7 {
		none := change("b", relOf(arity), relOf(arity))
		l = append(l, deltaOf(none), deltaOf(change("a", numRel(1), numRel()), none), deltaOf(none, change("c", numRel(1), numRel())))
	}
	return l
}

// meetingDeltas have a row in both Plus and Minus.
func meetingDeltas() []impl.Delta {
	row := relOf(0, impl.Row{})
	l := []impl.Delta{
		oneDelta(row, row), oneDelta(numRel(1), numRel(1)), oneDelta(numRel(1, 2), numRel(2, 3)), oneDelta(numRel(2, 3), numRel(1, 2)), oneDelta(numRel(1, 2, 3), numRel(2)), oneDelta(numRel(2), numRel(1, 2, 3)),
		oneDelta(span(0, 300), span(299, 300)), oneDelta(span(299, 300), span(0, 300)), deltaOf(change("a", numRel(1), numRel()), change("b", numRel(1), numRel(1))),
	}
	for _, r := range rightRels() {
		if len(r.Rows) > 0 {
			l = append(l, oneDelta(r, r))
		}
	}
	return l
}

// unevenDeltas have two arities in one change.
func unevenDeltas() []impl.Delta {
	l := []impl.Delta{}
	for x := range 7 {
		for y := range 7 {
			if x != y {
				l = append(l, oneDelta(relOf(x, mixedRow(x)), relOf(y)), oneDelta(relOf(x), relOf(y, mixedRow(y))), oneDelta(relOf(x, mixedRow(x)), relOf(y, mixedRow(y))), oneDelta(relOf(x), relOf(y)))
			}
		}
	}
	return l
}

func wrongDeltas() []impl.Delta {
	l := slices.Concat(idleDeltas(), meetingDeltas(), unevenDeltas())
	l = append(l,
		namedDelta("a", "a"), namedDelta("b", "a"), namedDelta("ab", "a"), namedDelta("a", "b", "b"), namedDelta("a", "a", "b"), namedDelta("a", "c", "b"), namedDelta("n9", "n10"), namedDelta("aa", "a9"),
		manyDelta(25), manyDelta(26), manyDelta(40), namedDelta(slices.Repeat([]string{"a"}, 24)...), impl.Delta{Changes: make([]impl.Change, 30)}, oneDelta(span(0, 301), numRel()), oneDelta(numRel(), span(0, 301)))
	for _, name := range noNames() {
		l = append(l, namedDelta(name), namedDelta("a", name), namedDelta(name, "zz"))
	}
	for _, r := range append(fewWrongRels(), countedRel(1, 301), countedRel(2, 302)) {
		l = append(l, oneDelta(r, relOf(r.Arity)), oneDelta(relOf(r.Arity), r), oneDelta(r, numRel(1)), oneDelta(numRel(1), r), oneDelta(r, r))
		l = append(l, deltaOf(change("a", numRel(1), numRel()), change("b", r, relOf(r.Arity))), deltaOf(change("a", r, relOf(r.Arity)), change("b", numRel(1), numRel())))
	}
	return l
}

// fewWrongDeltas has one of each kind.
func fewWrongDeltas() []impl.Delta {
	return []impl.Delta{
		namedDelta("a", "a"), namedDelta("b", "a"), namedDelta(""), namedDelta("A"), namedDelta("a", "7"), namedDelta("abcdefghijklm"), manyDelta(25), oneDelta(numRel(), numRel()), oneDelta(numRel(1), numRel(1)),
		oneDelta(numRel(1), relOf(2)), oneDelta(relOf(0), numRel(1)), oneDelta(numRel(2, 1), numRel()), oneDelta(numRel(), numRel(-1)), oneDelta(relOf(7), relOf(7)), oneDelta(relOf(-1), relOf(-1)), oneDelta(span(0, 301), numRel()),
	}
}

func TestDeltaOk(t *testing.T) {
	for _, d := range rightDeltas() {
		if !checkDeltaOk(t, d) {
			t.Errorf("%s isn't taken for a change", deltaShown(d))
		}
	}
	for _, d := range wrongDeltas() {
		if checkDeltaOk(t, d) {
			t.Errorf("%s is taken for a change", deltaShown(d))
		}
	}
}

func TestDeltaOkByHand(t *testing.T) {
	row, none := relOf(0, impl.Row{}), relOf(0)
	for _, c := range []struct {
		what string
		d    impl.Delta
		want bool
	}{
		{"no changes", impl.Delta{}, true},
		{"no changes, not nil", impl.Delta{Changes: []impl.Change{}}, true},
		{"a change of nothing", impl.Delta{Changes: []impl.Change{{}}}, false},
		{"one row put in", plusDelta(1), true},
		{"one row taken out", minusDelta(1), true},
		{"both", oneDelta(numRel(1), numRel(2)), true},
		{"a row in common", oneDelta(numRel(1), numRel(1)), false},
		{"a row in common among others", oneDelta(numRel(1, 5, 9), numRel(2, 5, 10)), false},
		{"both without rows", oneDelta(numRel(), numRel()), false},
		{"MaxRels changes", manyDelta(impl.MaxRels), true},
		{"MaxRels + 1 changes", manyDelta(impl.MaxRels + 1), false},
		{"names alike", namedDelta("a", "a"), false},
		{"names that fall", namedDelta("b", "a"), false},
		{"a capital", namedDelta("A"), false},
		{"no name", namedDelta(""), false},
		{"a Plus that falls", oneDelta(numRel(2, 1), numRel(3)), false},
		{"a Minus that falls", oneDelta(numRel(3), numRel(2, 1)), false},
		{"two arities", oneDelta(numRel(1), relOf(2, rowOf(num(1), num(1)))), false},
		{"two arities, one without rows", oneDelta(numRel(1), relOf(2)), false},
		{"arity 0, the row put in", oneDelta(row, none), true},
		{"arity 0, the row taken out", oneDelta(none, row), true},
		{"arity 0, the row on both sides", oneDelta(row, row), false},
		{"arity 0, no row", oneDelta(none, none), false},
	} {
		if got := checkDeltaOk(t, c.d); got != c.want {
			t.Errorf("%s: %v", c.what, got)
		}
	}
}

func TestDeltaOkHowMany(t *testing.T) {
	for n := range 50 {
		if got := checkDeltaOk(t, manyDelta(n)); got != (n <= 24) {
			t.Errorf("DeltaOk with %d changes: %v", n, got)
		}
	}
	for _, n := range []int{0, 1, 299, 300, 301, 302, 2000} {
		for _, d := range []impl.Delta{oneDelta(span(0, n), numRel(5000)), oneDelta(numRel(5000), span(0, n)), oneDelta(span(0, n), span(5000, n+1))} {
			if got, want := checkDeltaOk(t, d), len(d.Changes[0].Plus.Rows) <= 300 && len(d.Changes[0].Minus.Rows) <= 300; got != want {
				t.Errorf("DeltaOk with %d rows: %v", n, got)
			}
		}
	}
}

func TestDeltaOkEveryPairOfNames(t *testing.T) {
	for i, a := range risingNames() {
		for j, b := range risingNames() {
			if got := checkDeltaOk(t, namedDelta(a, b)); got != (i < j) {
				t.Errorf("DeltaOk of %s and %s: %v", a, b, got)
			}
		}
	}
	for n := range 30 {
		if got := impl.DeltaOk(namedDelta(strings.Repeat("q", n))); got != (n >= 1 && n <= 12) {
			t.Errorf("DeltaOk with a name of %d bytes: %v", n, got)
		}
	}
}

// TestDeltaOkSpoiledAnywhere spoils a full change at each place, in each way.
func TestDeltaOkSpoiledAnywhere(t *testing.T) {
	full := manyDelta(24)
	for at, keep := range full.Changes {
		spoiled := []impl.Change{
			change("", keep.Plus, keep.Minus), change("N", keep.Plus, keep.Minus), change(keep.Name+"_", keep.Plus, keep.Minus), change(keep.Name+"0123456789", keep.Plus, keep.Minus),
			change(keep.Name, numRel(), numRel()), change(keep.Name, numRel(1), numRel(1)), change(keep.Name, numRel(1), relOf(2)), change(keep.Name, relOf(0), numRel(1)),
		}
		for _, r := range fewWrongRels() {
			spoiled = append(spoiled, change(keep.Name, r, keep.Minus), change(keep.Name, keep.Plus, r))
		}
		if at > 0 {
			spoiled = append(spoiled, change(full.Changes[at-1].Name, keep.Plus, keep.Minus), change("a", keep.Plus, keep.Minus))
		}
		if at < 23 {
			spoiled = append(spoiled, change(full.Changes[at+1].Name, keep.Plus, keep.Minus), change("z", keep.Plus, keep.Minus))
		}
		for _, c := range spoiled {
			full.Changes[at] = c
			if checkDeltaOk(t, full) {
				t.Errorf("DeltaOk with %s at place %d", deltaShown(deltaOf(c)), at)
			}
		}
		full.Changes[at] = keep
		if !impl.DeltaOk(full) {
			t.Fatalf("DeltaOk of the whole behind place %d", at)
		}
	}
}

func TestDeltaFitsByHand(t *testing.T) {
	s := storeOf(named("a", numRel(1, 2, 3)), named("b", relOf(2)), named("c", relOf(0, impl.Row{})), named("d", relOf(0)))
	row, none := relOf(0, impl.Row{}), relOf(0)
	for _, c := range []struct {
		what string
		s    impl.Store
		d    impl.Delta
		want bool
	}{
		{"no changes", s, impl.Delta{}, true},
		{"no changes, not nil", s, impl.Delta{Changes: []impl.Change{}}, true},
		{"nothing of nothing", impl.Store{}, impl.Delta{}, true},
		{"a name that isn't there", s, deltaOf(change("e", numRel(1), numRel())), false},
		{"a name ahead of all", storeOf(named("b", numRel())), plusDelta(1), false},
		{"the beginning of a name", storeOf(named("ab", numRel())), plusDelta(1), false},
		{"no names at all", impl.Store{}, plusDelta(1), false},
		{"a name that isn't there, arity 0", s, deltaOf(change("e", row, none)), false},
		{"another arity", s, deltaOf(change("b", numRel(1), numRel())), false},
		{"another arity, nothing put in", s, deltaOf(change("a", relOf(2), relOf(2, mixedRow(2)))), false},
		{"arity 0 of a name with columns", s, deltaOf(change("a", row, none)), false},
		{"all taken out", s, minusDelta(1, 2, 3), true},
		{"one taken out", s, minusDelta(2), true},
		{"one taken out that isn't there", s, minusDelta(4), false},
		{"one of several isn't there", s, minusDelta(1, 2, 3, 4), false},
		{"the first of several isn't there", s, minusDelta(0, 1), false},
		{"one put in", s, plusDelta(4), true},
		{"one put in that is there", s, plusDelta(2), false},
		{"one of several is there", s, plusDelta(3, 4, 5), false},
		{"the last of several is there", s, plusDelta(0, 1), false},
		{"one put in and one taken out", s, oneDelta(numRel(0), numRel(3)), true},
		{"the one right and the other not", s, oneDelta(numRel(0), numRel(4)), false},
		{"the other right and the one not", s, oneDelta(numRel(1), numRel(3)), false},
		{"the row of arity 0 taken out", s, deltaOf(change("c", none, row)), true},
		{"the row of arity 0 put in where it is", s, deltaOf(change("c", row, none)), false},
		{"the row of arity 0 put in", s, deltaOf(change("d", row, none)), true},
		{"the row of arity 0 taken out where it isn't", s, deltaOf(change("d", none, row)), false},
		{"several names", s, deltaOf(change("a", numRel(9), numRel(1)), change("b", relOf(2, mixedRow(2)), relOf(2)), change("c", none, row)), true},
		{"the last of several names", s, deltaOf(change("a", numRel(9), numRel(1)), change("b", relOf(2), relOf(2, mixedRow(2)))), false},
		{"the first of several names", s, deltaOf(change("a", numRel(1), numRel()), change("c", none, row)), false},
		{"a store that isn't right", storeOf(named("a", numRel(1)), named("a", numRel(1))), plusDelta(2), false},
		{"no changes to a store that isn't right", bareStore("A"), impl.Delta{}, false},
		{"a change that isn't right", s, oneDelta(numRel(5, 4), numRel()), false},
		{"a change that does nothing", s, oneDelta(numRel(), numRel()), false},
	} {
		if got := checkFits(t, c.s, c.d); got != c.want {
			t.Errorf("%s: %v", c.what, got)
		}
	}
}

func TestDeltaFits(t *testing.T) {
	if !checkFits(t, plainStore(), plainDelta()) || !checkFits(t, manyStore(24), manyDelta(24)) || checkFits(t, manyStore(23), manyDelta(24)) || !checkFits(t, manyStore(24), manyDelta(7)) {
		t.Error("what fits and what doesn't are told wrongly")
	}
	for _, s := range []impl.Store{{}, plainStore(), manyStore(24), oneStore(numRel(1)), oneStore(span(0, 300)), oneStore(relOf(0))} {
		for _, d := range append(rightDeltas(), fewWrongDeltas()...) {
			checkFits(t, s, d)
		}
		for _, d := range wrongDeltas() {
			if impl.DeltaFits(s, d) {
				t.Errorf("%s fits something, though it isn't right", deltaShown(d))
			}
		}
	}
	for _, s := range wrongStores() {
		for _, d := range []impl.Delta{{}, plusDelta(1), plusDelta(77), minusDelta(1), manyDelta(24)} {
			if checkFits(t, s, d) {
				t.Errorf("%s fits %s, which isn't right", deltaShown(d), storeShown(s))
			}
		}
	}
}

// Each row of a full relation, there and not there, on each side.
func TestDeltaFitsEachRow(t *testing.T) {
	s := oneStore(countedRel(2, 300))
	for i := range 602 {
		row := countedRow(2, i/2+i%2*1000)
		there := i%2 == 0 && i >= 2
		if got := impl.DeltaFits(s, oneDelta(relOf(2), relOf(2, row))); got != there {
			t.Errorf("%s taken out fits: %v", shown(row.V...), got)
		}
		if got := impl.DeltaFits(s, oneDelta(relOf(2, row), relOf(2))); got == there {
			t.Errorf("%s put in fits: %v", shown(row.V...), got)
		}
	}
}

func TestDeltaApplyByHand(t *testing.T) {
	s := storeOf(named("a", numRel(1, 2, 3)), named("b", numRel(1, 2, 3)), named("c", relOf(0, impl.Row{})))
	with := func(a impl.Rel, b impl.Rel, c impl.Rel) impl.Store {
		return storeOf(named("a", a), named("b", b), named("c", c))
	}
	old, row, none := numRel(1, 2, 3), relOf(0, impl.Row{}), relOf(0)
	for _, c := range []struct {
		what string
		d    impl.Delta
		want impl.Store
	}{
		{"nothing", impl.Delta{}, s},
		{"one put in behind", plusDelta(4), with(numRel(1, 2, 3, 4), old, row)},
		{"one put in ahead", plusDelta(0), with(numRel(0, 1, 2, 3), old, row)},
		{"one taken out", minusDelta(2), with(numRel(1, 3), old, row)},
		{"all taken out", minusDelta(1, 2, 3), with(numRel(), old, row)},
		{"all exchanged", oneDelta(numRel(0, 9), numRel(1, 2, 3)), with(numRel(0, 9), old, row)},
		{"one exchanged", oneDelta(numRel(5), numRel(2)), with(numRel(1, 3, 5), old, row)},
		{"the other name", deltaOf(change("b", numRel(7), numRel(1))), with(old, numRel(2, 3, 7), row)},
		{"arity 0", deltaOf(change("c", none, row)), with(old, old, none)},
		{"all names", deltaOf(change("a", numRel(4), numRel()), change("b", numRel(), numRel(3)), change("c", none, row)), with(numRel(1, 2, 3, 4), numRel(1, 2), none)},
		{"the first and the last", deltaOf(change("a", numRel(), numRel(1)), change("c", none, row)), with(numRel(2, 3), old, none)},
	} {
		if got, ok := checkApply(t, s, c.d); !ok || !sameStore(got, c.want) || !impl.SameStore(got, c.want) {
			t.Errorf("%s: %s %v, not %s", c.what, storeShown(got), ok, storeShown(c.want))
		}
	}
	for _, d := range []impl.Delta{plusDelta(1), minusDelta(4), oneDelta(numRel(4), numRel(5)), oneDelta(relOf(2, mixedRow(2)), relOf(2)), deltaOf(change("d", numRel(1), numRel())), deltaOf(change("a", numRel(4), numRel()), change("b", numRel(1), numRel()))} {
		if got, ok := checkApply(t, s, d); ok || !noStore(got) {
			t.Errorf("DeltaApply of %s, which doesn't fit: %s %v", deltaShown(d), storeShown(got), ok)
		}
	}
	got, ok := checkApply(t, plainStore(), plainDelta())
	if !ok || impl.SameStore(got, plainStore()) {
		t.Errorf("the plain change does nothing: %s %v", storeShown(got), ok)
	}
}

func TestDeltaApplyAtMaxRows(t *testing.T) {
	for _, c := range []struct {
		what              string
		rows, plus, minus int
		want              bool
	}{
		{"just MaxRows", 299, 1, 0, true},
		{"one more", 299, 2, 0, false},
		{"a full one, and one more", 300, 1, 0, false},
		{"a full one, and one less", 300, 0, 1, true},
		{"Minus makes the room", 300, 1, 1, true},
		{"Minus makes too little room", 300, 2, 1, false},
		{"much goes and as much comes", 300, 150, 150, true},
		{"much goes and one more comes", 300, 151, 150, false},
		{"all goes", 300, 0, 300, true},
		{"all goes and as much comes", 300, 300, 300, true},
		{"all goes of a small one and MaxRows come", 5, 300, 5, true},
		{"all but one goes and MaxRows come", 5, 300, 4, false},
		{"MaxRows come to nothing", 0, 300, 0, true},
		{"MaxRows come to one", 1, 300, 0, false},
		{"to the limit from far", 100, 200, 0, true},
		{"over the limit from far", 100, 201, 0, false},
	} {
		for _, at := range []int{5000, 0} {
			r := span(1000, c.rows)
			d := oneDelta(span(at, c.plus), span(1000+c.rows-c.minus, c.minus))
			got, ok := checkApply(t, oneStore(r), d)
			if ok != c.want || ok && len(got.Rels[0].Rel.Rows) != c.rows+c.plus-c.minus || !ok && !noStore(got) {
				t.Errorf("%s: %s %v", c.what, storeShown(got), ok)
			}
			if !impl.DeltaFits(oneStore(r), d) {
				t.Errorf("%s: the change fits, whatever comes of it", c.what)
			}
		}
	}
}

// One relation that would have too many rows makes the whole be refused, wherever it stands.
func TestDeltaApplyOneTooManyAnywhere(t *testing.T) {
	s, d := impl.Store{}, impl.Delta{}
	for i := range 24 {
		s.Rels = append(s.Rels, named(nthName(i), span(0, 299)))
		d.Changes = append(d.Changes, change(nthName(i), numRel(500), numRel()))
	}
	if _, ok := checkApply(t, s, d); !ok {
		t.Error("24 full relations are refused")
	}
	for i := range 24 {
		more := copyDelta(d)
		more.Changes[i].Plus = numRel(500, 501)
		if got, ok := impl.DeltaApply(s, more); ok || !noStore(got) || !impl.DeltaFits(s, more) {
			t.Errorf("a row too many in relation %d: %s %v", i, storeShown(got), ok)
		}
		more.Changes[i].Minus = numRel(7)
		if got, ok := impl.DeltaApply(s, more); !ok || len(got.Rels[i].Rel.Rows) != 300 {
			t.Errorf("room is made in relation %d: %s %v", i, storeShown(got), ok)
		}
	}
}

func TestDeltaApplyRefuses(t *testing.T) {
	for _, d := range wrongDeltas() {
		for _, s := range []impl.Store{{}, plainStore(), oneStore(numRel(1)), oneStore(relOf(0)), manyStore(24)} {
			if got, ok := checkApply(t, s, d); ok || !noStore(got) {
				t.Errorf("DeltaApply of %s: %s %v", deltaShown(d), storeShown(got), ok)
			}
		}
	}
	for _, s := range wrongStores() {
		for _, d := range []impl.Delta{{}, plusDelta(1), plusDelta(77), minusDelta(1), deltaOf(change("b", numRel(77), numRel()))} {
			if got, ok := checkApply(t, s, d); ok || !noStore(got) {
				t.Errorf("DeltaApply to %s: %s %v", storeShown(s), storeShown(got), ok)
			}
		}
	}
	for _, s := range rightStores() {
		for _, d := range append(rightDeltas(), fewWrongDeltas()...) {
			if ok := deltaFitsSpelled(s, d); !ok {
				if got, ok := impl.DeltaApply(s, d); ok || !noStore(got) {
					t.Errorf("DeltaApply of %s to %s: %s %v", deltaShown(d), storeShown(s), storeShown(got), ok)
				}
			}
		}
	}
}

func TestDeltaOfByHand(t *testing.T) {
	row, none := relOf(0, impl.Row{}), relOf(0)
	for _, c := range []struct {
		what string
		a, b impl.Store
		want impl.Delta
	}{
		{"nothing", impl.Store{}, impl.Store{}, impl.Delta{}},
		{"equal", oneStore(numRel(1, 2)), oneStore(numRel(1, 2)), impl.Delta{}},
		{"equal without rows", oneStore(relOf(4)), oneStore(relOf(4)), impl.Delta{}},
		{"one put in", oneStore(numRel(1)), oneStore(numRel(1, 2)), plusDelta(2)},
		{"one taken out", oneStore(numRel(1, 2)), oneStore(numRel(2)), minusDelta(1)},
		{"both", oneStore(numRel(1, 2)), oneStore(numRel(2, 3)), oneDelta(numRel(3), numRel(1))},
		{"all exchanged", oneStore(numRel(1, 3)), oneStore(numRel(2, 4)), oneDelta(numRel(2, 4), numRel(1, 3))},
		{"all put in", oneStore(relOf(6)), oneStore(relOf(6, mixedRow(6))), oneDelta(relOf(6, mixedRow(6)), relOf(6))},
		{"all taken out", oneStore(relOf(6, mixedRow(6))), oneStore(relOf(6)), oneDelta(relOf(6), relOf(6, mixedRow(6)))},
		{"arity 0, put in", oneStore(none), oneStore(row), oneDelta(row, none)},
		{"arity 0, taken out", oneStore(row), oneStore(none), oneDelta(none, row)},
		{"arity 0, equal", oneStore(row), oneStore(row), impl.Delta{}},
		{"a full one exchanged", oneStore(span(0, 300)), oneStore(span(300, 300)), oneDelta(span(300, 300), span(0, 300))},
		{"several", storeOf(named("a", numRel(1)), named("b", numRel(1)), named("c", none)), storeOf(named("a", numRel()), named("b", numRel(1)), named("c", row)),
			deltaOf(change("a", numRel(), numRel(1)), change("c", row, none))},
		{"plain", plainStore(), mustApply(plainStore(), plainDelta()), plainDelta()},
		{"many", manyStore(24), mustApply(manyStore(24), manyDelta(24)), manyDelta(24)},
	} {
		got, ok := checkDeltaOf(t, c.a, c.b)
		if !ok || !sameDelta(got, c.want) {
			t.Errorf("%s: %s %v, not %s", c.what, deltaShown(got), ok, deltaShown(c.want))
		}
	}
}

// mustApply is what a change that fits makes, by the document's words.
func mustApply(s impl.Store, d impl.Delta) impl.Store {
	out, ok := deltaApplySpelled(s, d)
	if !ok {
		panic("a change that doesn't fit: " + deltaShown(d))
	}
	return out
}

func TestDeltaOfRefuses(t *testing.T) {
	for _, c := range []struct {
		what string
		a, b impl.Store
	}{
		{"one more relation", bareStore("a"), bareStore("a", "b")},
		{"one more relation ahead", bareStore("b"), bareStore("a", "b")},
		{"one and none", bareStore("a"), impl.Store{}},
		{"other names", bareStore("a"), bareStore("b")},
		{"other names at the end", bareStore("a", "b"), bareStore("a", "c")},
		{"a longer name", bareStore("a"), bareStore("aa")},
		{"other names with the same rows", storeOf(named("a", numRel(1))), storeOf(named("b", numRel(1)))},
		{"other arities", oneStore(numRel(1)), oneStore(relOf(2, mixedRow(2)))},
		{"other arities without rows", oneStore(relOf(1)), oneStore(relOf(2))},
		{"other arities, 0 among them", oneStore(relOf(0)), oneStore(relOf(1))},
		{"other arities at the end", storeOf(named("a", numRel(1)), named("b", relOf(1))), storeOf(named("a", numRel(2)), named("b", relOf(3)))},
		{"MaxRels and one less", manyStore(24), manyStore(23)},
		{"one that isn't right", bareStore("A"), bareStore("A")},
		{"names that fall", bareStore("b", "a"), bareStore("b", "a")},
	} {
		for _, pair := range [][2]impl.Store{{c.a, c.b}, {c.b, c.a}} {
			if got, ok := checkDeltaOf(t, pair[0], pair[1]); ok || !noDelta(got) {
				t.Errorf("%s: %s %v", c.what, deltaShown(got), ok)
			}
		}
	}
	for _, s := range wrongStores() {
		for _, other := range []impl.Store{s, {}, bareStore("a"), oneStore(numRel(1)), plainStore()} {
			if _, ok := checkDeltaOf(t, s, other); ok {
				t.Errorf("DeltaOf of %s, which isn't right", storeShown(s))
			}
			if _, ok := checkDeltaOf(t, other, s); ok {
				t.Errorf("DeltaOf to %s, which isn't right", storeShown(s))
			}
		}
	}
}

func TestDeltaOfEveryPair(t *testing.T) {
	l := append(rightStores(), fewWrongStores()...)
	for _, a := range l {
		for _, b := range l {
			checkDeltaOf(t, a, b)
		}
	}
	for _, s := range append(tornStores(), manyStore(24)) {
		for _, other := range nearStores(s) {
			checkBetween(t, s, other)
			checkBetween(t, other, s)
		}
	}
}

// checkBetween: what parts two stores, made, gives the second, and undone the first.
func checkBetween(t *testing.T, a impl.Store, b impl.Store) bool {
	t.Helper()
	d, ok := checkDeltaOf(t, a, b)
	if !ok {
		return false
	}
	made, ok := checkApply(t, a, d)
	if !ok || !sameStore(made, b) || !impl.DeltaFits(a, d) {
		t.Errorf("what parts %s from %s makes %s %v", storeShown(a), storeShown(b), storeShown(made), ok)
	}
	back := checkBack(t, d)
	undone, ok := checkApply(t, made, back)
	if !ok || !sameStore(undone, a) || !impl.DeltaFits(b, back) {
		t.Errorf("what parts %s from %s, undone, makes %s %v", storeShown(a), storeShown(b), storeShown(undone), ok)
	}
	other, _ := checkDeltaOf(t, b, a)
	if !sameDelta(other, back) {
		t.Errorf("the way back from %s is %s, not %s", storeShown(b), deltaShown(other), deltaShown(back))
	}
	if impl.SameStore(a, b) != noDelta(d) {
		t.Errorf("%s parts %s and %s", deltaShown(d), storeShown(a), storeShown(b))
	}
	return true
}

func TestDeltaBack(t *testing.T) {
	for _, d := range rightDeltas() {
		back := checkBack(t, d)
		if len(back.Changes) != len(d.Changes) || !impl.DeltaOk(back) || !sameDelta(checkBack(t, back), d) {
			t.Errorf("DeltaBack of %s twice isn't the change", deltaShown(d))
		}
	}
	for _, d := range wrongDeltas() {
		if back := checkBack(t, d); !noDelta(back) {
			t.Errorf("DeltaBack of %s, which isn't right: %s", deltaShown(d), deltaShown(back))
		}
	}
	row, none := relOf(0, impl.Row{}), relOf(0)
	for _, pair := range [][2]impl.Delta{
		{{}, {}}, {plusDelta(1), minusDelta(1)}, {oneDelta(numRel(1, 2), numRel(3)), oneDelta(numRel(3), numRel(1, 2))}, {oneDelta(row, none), oneDelta(none, row)},
		{oneDelta(relOf(3), relOf(3, mixedRow(3))), oneDelta(relOf(3, mixedRow(3)), relOf(3))},
		{deltaOf(change("a", numRel(1), numRel()), change("b", numRel(), numRel(2))), deltaOf(change("a", numRel(), numRel(1)), change("b", numRel(2), numRel()))},
	} {
		if got := checkBack(t, pair[0]); !sameDelta(got, pair[1]) {
			t.Errorf("DeltaBack of %s: %s", deltaShown(pair[0]), deltaShown(got))
		}
		if got := checkBack(t, pair[1]); !sameDelta(got, pair[0]) {
			t.Errorf("DeltaBack of %s: %s", deltaShown(pair[1]), deltaShown(got))
		}
	}
}

// What comes is the same whichever of two changes is the first.
func TestDeltaThenByHand(t *testing.T) {
	row, none := relOf(0, impl.Row{}), relOf(0)
	a := func(plus impl.Rel, minus impl.Rel) impl.Change { return change("a", plus, minus) }
	b := func(plus impl.Rel, minus impl.Rel) impl.Change { return change("b", plus, minus) }
	for _, c := range []struct {
		what string
		x, y impl.Delta
		want impl.Delta
	}{
		{"nothing and nothing", impl.Delta{}, impl.Delta{}, impl.Delta{}},
		{"nothing and one", impl.Delta{}, plusDelta(1), plusDelta(1)},
		{"nothing and one taken out", impl.Delta{}, minusDelta(1), minusDelta(1)},
		{"other names", plusDelta(1), deltaOf(b(numRel(1), numRel(2))), deltaOf(a(numRel(1), numRel()), b(numRel(1), numRel(2)))},
		{"other names and arities", plusDelta(1), deltaOf(b(relOf(3), relOf(3, mixedRow(3)))), deltaOf(a(numRel(1), numRel()), b(relOf(3), relOf(3, mixedRow(3))))},
		{"the same name", plusDelta(1), plusDelta(2), plusDelta(1, 2)},
		{"both taken out", minusDelta(2), minusDelta(1), minusDelta(1, 2)},
		{"put in and another taken out", plusDelta(1), minusDelta(2), oneDelta(numRel(1), numRel(2))},
		{"put in and taken out", plusDelta(1), minusDelta(1), impl.Delta{}},
		{"some of it taken out", plusDelta(1, 2, 3), minusDelta(2), plusDelta(1, 3)},
		{"some of it put in again", minusDelta(1, 2, 3), plusDelta(2), minusDelta(1, 3)},
		{"more than it taken out", plusDelta(2), minusDelta(1, 2, 3), minusDelta(1, 3)},
		{"undone", oneDelta(numRel(1, 2), numRel(3, 4)), oneDelta(numRel(3, 4), numRel(1, 2)), impl.Delta{}},
		{"undone in part", oneDelta(numRel(1, 2), numRel(3, 4)), oneDelta(numRel(3, 5), numRel(1, 6)), oneDelta(numRel(2, 5), numRel(4, 6))},
		{"arity 0, to and fro", oneDelta(row, none), oneDelta(none, row), impl.Delta{}},
		{"a name falls away", deltaOf(a(numRel(1), numRel()), b(numRel(2), numRel())), deltaOf(a(numRel(), numRel(1)), b(numRel(), numRel(3))), deltaOf(b(numRel(2), numRel(3)))},
		{"all names fall away", deltaOf(a(numRel(1), numRel()), b(row, none)), deltaOf(a(numRel(), numRel(1)), b(none, row)), impl.Delta{}},
		{"names that alternate", namedDelta("a", "c", "e"), namedDelta("b", "d", "f"), namedDelta("a", "b", "c", "d", "e", "f")},
		{"many undone", manyDelta(24), deltaBackSpelled(manyDelta(24)), impl.Delta{}},
	} {
		for _, pair := range [][2]impl.Delta{{c.x, c.y}, {c.y, c.x}} {
			if got, ok := checkThen(t, pair[0], pair[1]); !ok || !sameDelta(got, c.want) {
				t.Errorf("%s: %s %v, not %s", c.what, deltaShown(got), ok, deltaShown(c.want))
			}
		}
	}
}

func TestDeltaThenRefuses(t *testing.T) {
	row, none := relOf(0, impl.Row{}), relOf(0)
	for _, c := range []struct {
		what string
		a, b impl.Delta
	}{
		{"twice put in", plusDelta(1), plusDelta(1)},
		{"twice taken out", minusDelta(1), minusDelta(1)},
		{"one of several twice put in", plusDelta(1, 2, 3), plusDelta(3, 4)},
		{"one of several twice taken out", minusDelta(1, 2, 3), minusDelta(0, 1)},
		{"twice put in beside what is undone", oneDelta(numRel(1), numRel(2)), oneDelta(numRel(1, 2), numRel())},
		{"twice taken out beside what is undone", oneDelta(numRel(1), numRel(2)), oneDelta(numRel(), numRel(1, 2))},
		{"arity 0, twice put in", oneDelta(row, none), oneDelta(row, none)},
		{"arity 0, twice taken out", oneDelta(none, row), oneDelta(none, row)},
		{"a name with two arities", plusDelta(1), oneDelta(relOf(2, mixedRow(2)), relOf(2))},
		{"a name with two arities, each taken out", minusDelta(1), oneDelta(relOf(2), relOf(2, mixedRow(2)))},
		{"a name with two arities, one of them 0", plusDelta(1), oneDelta(none, row)},
		{"a name with two arities, to and fro", oneDelta(relOf(3), relOf(3, mixedRow(3))), oneDelta(relOf(2, mixedRow(2)), relOf(2))},
		{"the last of several names", deltaOf(change("a", numRel(1), numRel()), change("b", numRel(1), numRel())), deltaOf(change("b", numRel(1), numRel()))},
		{"the first of several names", deltaOf(change("a", numRel(1), numRel()), change("b", numRel(1), numRel())), deltaOf(change("a", numRel(1), numRel()), change("c", numRel(1), numRel()))},
		{"25 names", manyDelta(24), namedDelta("zz")},
		{"25 names, the new one ahead", manyDelta(24), namedDelta("a")},
		{"48 names", manyDelta(24), namedDelta(spacedNames(24)...)},
	} {
		for _, pair := range [][2]impl.Delta{{c.a, c.b}, {c.b, c.a}} {
			if got, ok := checkThen(t, pair[0], pair[1]); ok || !noDelta(got) {
				t.Errorf("%s: %s %v", c.what, deltaShown(got), ok)
			}
		}
	}
	for _, d := range wrongDeltas() {
		for _, other := range []impl.Delta{d, {}, plusDelta(1), minusDelta(77), deltaOf(change("c", relOf(0), relOf(0, impl.Row{})))} {
			if got, ok := checkThen(t, d, other); ok || !noDelta(got) {
				t.Errorf("DeltaThen from %s, which isn't right: %s", deltaShown(d), deltaShown(got))
			}
			if got, ok := checkThen(t, other, d); ok || !noDelta(got) {
				t.Errorf("DeltaThen to %s, which isn't right: %s", deltaShown(d), deltaShown(got))
			}
		}
	}
}

// spacedNames lie between those of manyDelta.
func spacedNames(n int) []string {
	var l []string
	for i := range n {
		l = append(l, nthName(2*i))
	}
	return l
}

// Of the names only those count that are left.
func TestDeltaThenHowManyNames(t *testing.T) {
	for x := range 25 {
		for y := range 25 {
			got, ok := checkThen(t, manyDelta(x), namedDelta(spacedNames(y)...))
			if ok != (x+y <= 24) || ok && len(got.Changes) != x+y {
				t.Errorf("%d names and %d others: %d %v", x, y, len(got.Changes), ok)
			}
		}
	}
	for gone := range 25 {
		back := deltaBackSpelled(manyDelta(24))
		b := deltaOf(back.Changes[:gone]...)
		for _, name := range []string{"zx", "zy", "zz"} {
			b.Changes = append(b.Changes, namedDelta(name).Changes...)
		}
		got, ok := checkThen(t, manyDelta(24), b)
		if want := gone >= 3 && gone+3 <= 24; ok != want || ok && len(got.Changes) != 27-gone {
			t.Errorf("of 24 names %d fall away and 3 come: %d %v", gone, len(got.Changes), ok)
		}
	}
	first := namedDelta(spacedNames(24)...)
	if got, ok := checkThen(t, first, deltaBackSpelled(first)); !ok || !noDelta(got) {
		t.Errorf("24 names fall away: %s %v", deltaShown(got), ok)
	}
}

// What comes may have MaxRows rows in Plus and in Minus, and no more; those that fall away don't count.
func TestDeltaThenAtMaxRows(t *testing.T) {
	for _, c := range []struct {
		what string
		a, b impl.Delta
		want int
	}{
		{"just MaxRows", oneDelta(span(0, 200), numRel()), oneDelta(span(200, 100), numRel()), 300},
		{"one more", oneDelta(span(0, 200), numRel()), oneDelta(span(200, 101), numRel()), -1},
		{"a full one, and nothing", oneDelta(span(0, 300), numRel()), impl.Delta{}, 300},
		{"a full one, and one more", oneDelta(span(0, 300), numRel()), plusDelta(300), -1},
		{"a full one and a full one", oneDelta(span(0, 300), numRel()), oneDelta(span(300, 300), numRel()), -1},
		{"a full one, one goes and one comes", oneDelta(span(0, 300), numRel()), oneDelta(numRel(300), numRel(0)), 300},
		{"a full one, one goes and two come", oneDelta(span(0, 300), numRel()), oneDelta(numRel(300, 301), numRel(0)), -1},
		{"a full one, two go and one comes", oneDelta(span(0, 300), numRel()), oneDelta(numRel(300), numRel(0, 299)), 299},
		{"a full one is undone and a full one comes", oneDelta(span(0, 300), numRel()), oneDelta(span(300, 300), span(0, 300)), 300},
		{"what comes was taken out", oneDelta(span(0, 300), numRel(300)), plusDelta(300), 300},
		{"what comes was taken out, but for one", oneDelta(span(0, 300), numRel(300)), plusDelta(300, 301), -1},
		{"full ones exchanged", oneDelta(span(0, 300), span(300, 300)), oneDelta(span(300, 300), span(0, 300)), 0},
	} {
		for _, pair := range [][2]impl.Delta{{c.a, c.b}, {deltaBackSpelled(c.a), deltaBackSpelled(c.b)}, {deltaBackSpelled(c.b), deltaBackSpelled(c.a)}} {
			got, ok := checkThen(t, pair[0], pair[1])
			rows := 0
			for _, x := range got.Changes {
				rows = max(len(x.Plus.Rows), len(x.Minus.Rows))
			}
			if ok != (c.want >= 0) || ok && rows != c.want || !ok && !noDelta(got) {
				t.Errorf("%s: %d rows, %v", c.what, rows, ok)
			}
		}
	}
	both := oneDelta(span(0, 150), span(300, 150))
	more := oneDelta(span(150, 150), span(450, 150))
	if got, ok := checkThen(t, both, more); !ok || !sameDelta(got, oneDelta(span(0, 300), span(300, 300))) {
		t.Errorf("both sides full: %s %v", deltaShown(got), ok)
	}
}

func TestDeltaThenEveryPair(t *testing.T) {
	var l []impl.Delta
	for _, d := range append(rightDeltas(), fewWrongDeltas()...) {
		if len(d.Changes) == 0 || len(d.Changes[0].Plus.Rows)+len(d.Changes[0].Minus.Rows) < 20 {
			l = append(l, d)
		}
	}
	for _, a := range l {
		for _, b := range l {
			checkThen(t, a, b)
		}
	}
}

// markedDelta has of two names two rows each; each place of marks says whether a row is left (0), put in (1) or taken out (2).
func markedDelta(marks []int) impl.Delta {
	d := impl.Delta{}
	for i, name := range []string{"a", "b"} {
		c := change(name, numRel(), numRel())
		for n, mark := range marks[2*i : 2*i+2] {
			switch mark {
			case 1:
				c.Plus.Rows = append(c.Plus.Rows, rowOf(num(n)))
			case 2:
				c.Minus.Rows = append(c.Minus.Rows, rowOf(num(n)))
			}
		}
		if len(c.Plus.Rows)+len(c.Minus.Rows) > 0 {
			d.Changes = append(d.Changes, c)
		}
	}
	return d
}

// markedStore has of these rows those whose mark is 1.
func markedStore(marks []int) impl.Store {
	s := storeOf(named("a", numRel()), named("b", numRel()))
	for i, mark := range marks {
		if mark == 1 {
			s.Rels[i/2].Rel.Rows = append(s.Rels[i/2].Rel.Rows, rowOf(num(i%2)))
		}
	}
	return s
}

// eachMarks calls with all lists of four numbers below n.
func eachMarks(n int, call func(marks []int)) {
	all := []int{0, 1, 2}[:n]
	eachList(all, 4, func(l []int) {
		if len(l) == 4 {
			call(l)
		}
	})
}

// Every change of four rows, every pair of them, and every state that these rows can have.
func TestDeltaEverySmallChange(t *testing.T) {
	var changes []impl.Delta
	var stores []impl.Store
	eachMarks(3, func(marks []int) { changes = append(changes, markedDelta(marks)) })
	eachMarks(2, func(marks []int) { stores = append(stores, markedStore(marks)) })
	for _, a := range stores {
		for _, b := range stores {
			if !checkBetween(t, a, b) {
				t.Errorf("nothing parts %s and %s", storeShown(a), storeShown(b))
			}
		}
	}
	for _, a := range changes {
		for _, b := range changes {
			both, together := checkThen(t, a, b)
			behind := false
			for _, s := range stores {
				behind = checkBothWays(t, s, a, b, both, together) || behind
			}
			// A row that is twice put in or twice taken out is what keeps two changes from being done behind one another.
			if behind != together {
				t.Errorf("%s and %s are one: %v, and fit one behind the other somewhere: %v", deltaShown(a), deltaShown(b), together, behind)
			}
		}
	}
}

// checkBothWays asks that two changes in one do what they do one behind the other, where they fit so.
func checkBothWays(t *testing.T, s impl.Store, a impl.Delta, b impl.Delta, both impl.Delta, together bool) bool {
	t.Helper()
	first, ok := impl.DeltaApply(s, a)
	if !ok {
		return false
	}
	second, ok := impl.DeltaApply(first, b)
	if !ok {
		return false
	}
	got, ok := impl.DeltaApply(s, both)
	if !together || !ok || !sameStore(got, second) {
		t.Errorf("%s and %s behind it make %s of %s; in one they make %s %v", deltaShown(a), deltaShown(b), storeShown(second), storeShown(s), storeShown(got), ok)
	}
	return true
}

// scatteredShape has names with arities, all rows to be drawn.
func scatteredShape(next func() int) map[string]int {
	shape := map[string]int{}
	for range 1 + next()%6 {
		shape[scatteredName(next)] = next() % 7
	}
	return shape
}

// shapedStore draws the rows of a store with these names and arities.
func shapedStore(next func() int, shape map[string]int) impl.Store {
	s := impl.Store{}
	for _, name := range slices.Sorted(maps.Keys(shape)) {
		s.Rels = append(s.Rels, named(name, scatteredRel(next, shape[name])))
	}
	return s
}

// nextStore has the rows of s but for some, and some more.
func nextStore(next func() int, s impl.Store) impl.Store {
	out := copyStore(s)
	for i, x := range out.Rels {
		if next()%3 == 0 {
			continue
		}
		rows := slices.DeleteFunc(x.Rel.Rows, func(impl.Row) bool { return next()%3 == 0 })
		for range next() % 3 {
			rows = append(rows, scatteredFit(next, x.Rel.Arity))
		}
		out.Rels[i].Rel = gathered(x.Rel.Arity, rows...)
	}
	return out
}

func TestManyStoresMadeAndUndone(t *testing.T) {
	next := scatter(1301)
	parted := 0
	for range 2500 {
		shape := scatteredShape(next)
		a := shapedStore(next, shape)
		b := nextStore(next, a)
		if next()%3 == 0 {
			b = shapedStore(next, shape)
		}
		if !checkBetween(t, a, b) {
			t.Errorf("nothing parts %s and %s", storeShown(a), storeShown(b))
		}
		if !sameStore(a, b) {
			parted++
		}
		if other := scatteredStore(next); len(other.Rels) > 0 {
			checkBetween(t, a, other)
		}
	}
	if parted < 1500 {
		t.Errorf("only %d stores were parted", parted)
	}
}

func TestManyChangesInOne(t *testing.T) {
	next := scatter(1302)
	fell := 0
	for range 2500 {
		a := shapedStore(next, scatteredShape(next))
		b := nextStore(next, a)
		c := nextStore(next, b)
		if next()%4 == 0 {
			c = copyStore(a)
		}
		ab, _ := impl.DeltaOf(a, b)
		bc, _ := impl.DeltaOf(b, c)
		ac, _ := impl.DeltaOf(a, c)
		both, ok := checkThen(t, ab, bc)
		if !ok || !sameDelta(both, ac) || !checkBothWays(t, a, ab, bc, both, ok) {
			t.Errorf("%s and %s in one: %s %v, not %s", deltaShown(ab), deltaShown(bc), deltaShown(both), ok, deltaShown(ac))
		}
		back, ok := checkThen(t, impl.DeltaBack(bc), impl.DeltaBack(ab))
		if !ok || !sameDelta(back, impl.DeltaBack(ac)) {
			t.Errorf("both undone in one: %s %v, not that of %s", deltaShown(back), ok, deltaShown(ac))
		}
		none, ok := checkThen(t, ab, impl.DeltaBack(ab))
		if !ok || !noDelta(none) {
			t.Errorf("%s and back: %s %v", deltaShown(ab), deltaShown(none), ok)
		}
		if len(both.Changes) < max(len(ab.Changes), len(bc.Changes)) {
			fell++
		}
	}
	if fell < 200 {
		t.Errorf("names fell away only %d times", fell)
	}
}

// Three changes in one are the same however they are put together.
func TestManyThreeChangesInOne(t *testing.T) {
	next := scatter(1303)
	for range 1500 {
		s := shapedStore(next, scatteredShape(next))
		var l []impl.Delta
		from := s
		for range 3 {
			to := nextStore(next, from)
			d, _ := impl.DeltaOf(from, to)
			l, from = append(l, d), to
		}
		front, _ := impl.DeltaThen(l[0], l[1])
		left, ok := checkThen(t, front, l[2])
		rear, _ := impl.DeltaThen(l[1], l[2])
		right, also := checkThen(t, l[0], rear)
		if got, _ := impl.DeltaApply(s, left); !ok || !also || !sameDelta(left, right) || !sameStore(got, from) {
			t.Errorf("three changes of %s in one: %s %v and %s %v", storeShown(s), deltaShown(left), ok, deltaShown(right), also)
		}
	}
}

// scatteredDelta is right, and fits few stores.
func scatteredDelta(next func() int) impl.Delta {
	shape := scatteredShape(next)
	d, _ := deltaOfSpelled(shapedStore(next, shape), shapedStore(next, shape))
	return d
}

func spoiledDelta(next func() int, d impl.Delta) impl.Delta {
	out, wrong := copyDelta(d), fewWrongRels()
	if len(out.Changes) == 0 {
		return out
	}
	at := next() % len(out.Changes)
	c := &out.Changes[at]
	switch next() % 12 {
	case 0:
		c.Plus = wrong[next()%len(wrong)]
	case 1:
		c.Minus = wrong[next()%len(wrong)]
	case 2:
		c.Name = noNames()[next()%len(noNames())]
	case 3:
		c.Name = scatteredName(next)
	case 4:
		c.Minus = copyRel(c.Plus)
	case 5:
		c.Plus.Arity++
	case 6:
		out.Changes = slices.Insert(out.Changes, at, out.Changes[next()%len(out.Changes)])
	}
	return out
}

// Whatever is given, right or not, fitting or not, is answered as the document says.
func TestManyDeltasOfAnyKind(t *testing.T) {
	next := scatter(1304)
	right, fits, one := 0, 0, 0
	for range 3000 {
		s := shapedStore(next, scatteredShape(next))
		d, _ := deltaOfSpelled(s, nextStore(next, s))
		d = spoiledDelta(next, d)
		e := spoiledDelta(next, scatteredDelta(next))
		if checkDeltaOk(t, d) {
			right++
		}
		if checkFits(t, s, d) {
			fits++
		}
		checkFits(t, s, e)
		checkApply(t, s, d)
		checkApply(t, s, e)
		checkBack(t, d)
		if _, ok := checkThen(t, d, e); ok {
			one++
		}
		checkThen(t, e, d)
	}
	if right < 1500 || right > 2800 || fits < 1200 || one < 300 || one > 2700 {
		t.Errorf("of 3000 changes %d were right, %d fitted and %d could be put together with another", right, fits, one)
	}
}

// TestDeltaWalk does change on change against plain sets of numbers, puts all of them in one, and undoes them to the last.
func TestDeltaWalk(t *testing.T) {
	next := scatter(1305)
	first := impl.Store{}
	model := map[string]map[int]bool{}
	for i := range 24 {
		first.Rels = append(first.Rels, named(nthName(i), numRel()))
		model[nthName(i)] = map[int]bool{}
	}
	s, all, done := first, impl.Delta{}, []impl.Delta{}
	for step := range 400 {
		d := modelDelta(next, model)
		got, ok := impl.DeltaApply(s, d)
		if !ok {
			t.Fatalf("step %d: %s doesn't fit", step, deltaShown(d))
		}
		together, ok := impl.DeltaThen(all, d)
		if !ok {
			t.Fatalf("step %d: %s can't be put behind the others", step, deltaShown(d))
		}
		s, all, done = got, together, append(done, d)
		checkModel(t, s, model)
		if made, ok := impl.DeltaApply(first, all); !ok || !sameStore(made, s) {
			t.Fatalf("step %d: all changes in one make %s", step, storeShown(made))
		}
	}
	for _, d := range slices.Backward(done) {
		back, ok := impl.DeltaApply(s, impl.DeltaBack(d))
		less, also := impl.DeltaThen(all, impl.DeltaBack(d))
		if !ok || !also {
			t.Fatalf("%s can't be undone", deltaShown(d))
		}
		s, all = back, less
	}
	if !sameStore(s, first) || !noDelta(all) {
		t.Errorf("behind the last undoing there is %s, by %s", storeShown(s), deltaShown(all))
	}
}

// modelDelta turns some numbers of some names, in the model and as a change.
func modelDelta(next func() int, model map[string]map[int]bool) impl.Delta {
	d := impl.Delta{}
	for _, name := range slices.Sorted(maps.Keys(model)) {
		c := change(name, numRel(), numRel())
		for n := range 15 {
			switch {
			case next()%8 > 0:
			case model[name][n]:
				delete(model[name], n)
				c.Minus.Rows = append(c.Minus.Rows, rowOf(num(n)))
			default:
				model[name][n] = true
				c.Plus.Rows = append(c.Plus.Rows, rowOf(num(n)))
			}
		}
		if len(c.Plus.Rows)+len(c.Minus.Rows) > 0 {
			d.Changes = append(d.Changes, c)
		}
	}
	return d
}

// A map is ranged over in an order of its own each time; the answers are the same.
func TestDeltaAnswersTwice(t *testing.T) {
	next := scatter(1306)
	for range 100 {
		a, b := impl.Store{}, impl.Store{}
		for i := range 24 {
			a.Rels = append(a.Rels, named(nthName(i), scatteredRel(next, i%7)))
			b.Rels = append(b.Rels, named(nthName(i), scatteredRel(next, i%7)))
		}
		d, ok := impl.DeltaOf(a, b)
		e := impl.DeltaBack(deltaOf(d.Changes[len(d.Changes)/2:]...))
		both, also := impl.DeltaThen(d, e)
		made, fits := impl.DeltaApply(a, d)
		if !ok || !also || !fits || len(d.Changes) < 10 {
			t.Fatalf("%s is refused", deltaShown(d))
		}
		for range 10 {
			impl.DeltaApply(b, impl.DeltaBack(d))
			d2, _ := impl.DeltaOf(a, b)
			both2, _ := impl.DeltaThen(d, e)
			made2, _ := impl.DeltaApply(a, d)
			if !sameDelta(d, d2) || !sameDelta(both, both2) || !sameStore(made, made2) || !sameStore(made, b) || !impl.DeltaFits(a, d) {
				t.Fatalf("%s is answered in two ways", deltaShown(d))
			}
		}
	}
}

// One list of rows may be given at many places: the answers are apart all the same, and writing to them changes nothing else.
func TestDeltaAnswersApart(t *testing.T) {
	l := []impl.Value{num(1), num(2), num(3), num(4)}
	r := relOf(2, rowOf(l[0:2]...), rowOf(l[1:3]...), rowOf(l[2:4]...))
	none := impl.Rel{Arity: 2, Rows: r.Rows[:0]}
	s, empty := storeOf(named("a", r), named("b", r), named("c", none)), storeOf(named("a", none), named("b", none), named("c", none))
	plus, minus := deltaOf(change("a", r, none), change("b", r, none)), deltaOf(change("a", none, r), change("b", none, r))
	given := slices.Concat(spots(l), spots(r.Rows), spots(s.Rels), spots(empty.Rels), spots(plus.Changes), spots(minus.Changes))
	var deltas []impl.Delta
	var stores []impl.Store
	keep := func(d impl.Delta, ok bool) {
		checkDeltaAnswer(t, d, ok, given)
		if !ok || noDelta(d) {
			t.Errorf("a change that should come doesn't: %s %v", deltaShown(d), ok)
		}
		deltas = append(deltas, d)
	}
	keep(impl.DeltaOf(s, empty))
	keep(impl.DeltaOf(empty, s))
	keep(impl.DeltaBack(plus), true)
	keep(impl.DeltaBack(minus), true)
	keep(impl.DeltaThen(plus, impl.Delta{}))
	keep(impl.DeltaThen(impl.Delta{}, plus))
	keep(impl.DeltaThen(minus, deltaOf(plus.Changes[1:]...)))
	keep(impl.DeltaThen(plus, deltaOf(change("c", r, none))))
	for _, x := range []struct {
		s impl.Store
		d impl.Delta
	}{{s, minus}, {empty, plus}, {s, impl.Delta{}}, {s, deltaOf(change("c", r, none))}} {
		got, ok := impl.DeltaApply(x.s, x.d)
		checkStoreAnswer(t, got, ok, given)
		if !ok {
			t.Errorf("%s doesn't fit %s", deltaShown(x.d), storeShown(x.s))
		}
		stores = append(stores, got)
	}
	spoilAnswers(deltas, stores)
	if !slices.Equal(l, []impl.Value{num(1), num(2), num(3), num(4)}) || !sameRel(r, relOf(2, rowOf(num(1), num(2)), rowOf(num(2), num(3)), rowOf(num(3), num(4)))) ||
		!sameStore(s, storeOf(named("a", r), named("b", r), named("c", none))) || !sameDelta(plus, deltaOf(change("a", r, none), change("b", r, none))) {
		t.Error("writing to an answer changed what was given")
	}
}

func spoilAnswers(deltas []impl.Delta, stores []impl.Store) {
	spoil := func(r impl.Rel) {
		for i, row := range r.Rows {
			clear(row.V)
			r.Rows[i].V = append(row.V, num(98))
		}
		clear(r.Rows[:cap(r.Rows)])
	}
	for _, d := range deltas {
		for _, c := range d.Changes {
			spoil(c.Plus)
			spoil(c.Minus)
		}
		clear(d.Changes[:cap(d.Changes)])
	}
	for _, s := range stores {
		for _, x := range s.Rels {
			spoil(x.Rel)
		}
		clear(s.Rels[:cap(s.Rels)])
	}
}

// TestDeltaSpareRoom has a change that is the front of a longer list of changes.
func TestDeltaSpareRoom(t *testing.T) {
	whole, rels := manyDelta(12), manyStore(12)
	keep, keepRels := copyDelta(whole), copyStore(rels)
	for n := range 13 {
		front, s := deltaOf(whole.Changes[:n]...), storeOf(rels.Rels[:n]...)
		other, _ := impl.DeltaApply(s, front)
		impl.DeltaOf(s, other)
		impl.DeltaOf(other, s)
		impl.DeltaBack(front)
		impl.DeltaThen(front, namedDelta("a", "n02", "zz"))
		impl.DeltaThen(namedDelta("a", "n02", "zz"), front)
		impl.DeltaThen(front, impl.DeltaBack(front))
		impl.DeltaApply(rels, front)
		if !sameDelta(whole, keep) || !sameStore(rels, keepRels) {
			t.Fatalf("a call on the first %d changes changed what lies behind them", n)
		}
	}
}

// A list without elements and a nil one are the same value, in each list of a change.
func TestDeltaNilAndEmptyLists(t *testing.T) {
	none, empty := []impl.Row{{V: nil}}, []impl.Row{{V: []impl.Value{}}}
	noRows, row := impl.Rel{Arity: 1, Rows: []impl.Row{}}, numRel(1)
	for _, pair := range [][2]impl.Delta{
		{{Changes: nil}, {Changes: []impl.Change{}}},
		{oneDelta(row, relOf(1)), oneDelta(row, noRows)},
		{oneDelta(relOf(1), row), oneDelta(noRows, row)},
		{oneDelta(relOf(1), relOf(1)), oneDelta(noRows, noRows)},
		{oneDelta(impl.Rel{Rows: none}, impl.Rel{}), oneDelta(impl.Rel{Rows: empty}, impl.Rel{Rows: []impl.Row{}})},
		{oneDelta(impl.Rel{}, impl.Rel{Rows: none}), oneDelta(impl.Rel{}, impl.Rel{Rows: empty})},
		{oneDelta(impl.Rel{Rows: none}, impl.Rel{Rows: none}), oneDelta(impl.Rel{Rows: none}, impl.Rel{Rows: empty})},
	} {
		a, b := pair[0], pair[1]
		if right := deltaRight(a); impl.DeltaOk(a) != right || impl.DeltaOk(b) != right || !sameDelta(impl.DeltaBack(a), impl.DeltaBack(b)) {
			t.Errorf("%s isn't the same with lists that are nil and that are empty", deltaShown(a))
		}
		for _, s := range []impl.Store{{}, {Rels: []impl.Named{}}, oneStore(relOf(1)), oneStore(noRows), oneStore(row), oneStore(relOf(0)), oneStore(impl.Rel{Rows: none}), oneStore(impl.Rel{Rows: empty})} {
			x, ok := checkApply(t, s, a)
			y, also := checkApply(t, s, b)
			if ok != also || !sameStore(x, y) || impl.DeltaFits(s, a) != impl.DeltaFits(s, b) {
				t.Errorf("DeltaApply to %s: %s %v, and %s %v", storeShown(s), storeShown(x), ok, storeShown(y), also)
			}
		}
		for _, other := range []impl.Delta{{}, a, b, impl.DeltaBack(a), impl.DeltaBack(b)} {
			x, ok := checkThen(t, a, other)
			y, also := checkThen(t, b, other)
			if ok != also || !sameDelta(x, y) {
				t.Errorf("DeltaThen of %s: %s %v, and %s %v", deltaShown(a), deltaShown(x), ok, deltaShown(y), also)
			}
		}
	}
	for _, pair := range [][2]impl.Store{{{Rels: nil}, {Rels: []impl.Named{}}}, {oneStore(relOf(1)), oneStore(noRows)}, {oneStore(impl.Rel{Rows: none}), oneStore(impl.Rel{Rows: empty})}} {
		if d, ok := checkDeltaOf(t, pair[0], pair[1]); !ok || !noDelta(d) {
			t.Errorf("%s parts %s from itself", deltaShown(d), storeShown(pair[0]))
		}
	}
}

// Numbers very large and below 0, texts too long and lists too long, at each place of a change.
func TestDeltaFarInputs(t *testing.T) {
	long := strings.Repeat("a", 100000)
	wrong := []impl.Delta{
		namedDelta(long), oneDelta(relOf(1, rowOf(word(long))), relOf(1)), oneDelta(relOf(1), relOf(1, rowOf(word(long)))), {Changes: make([]impl.Change, 100000)}, manyDelta(49), oneDelta(span(0, 20000), numRel()),
		oneDelta(numRel(), span(0, 20000)), oneDelta(relOf(1, rowOf(make([]impl.Value, 50000)...)), relOf(1)), oneDelta(impl.Rel{Rows: make([]impl.Row, 50000)}, impl.Rel{}), oneDelta(impl.Rel{}, impl.Rel{Rows: make([]impl.Row, 301)}),
	}
	for _, n := range []int{-1, -2, math.MinInt, math.MinInt + 1, math.MaxInt, math.MaxInt - 1, 7, 1 << 48, 1<<48 + 5, 1 << 62, -256} {
		wrong = append(wrong, oneDelta(relOf(n), relOf(n)), oneDelta(relOf(n), numRel(1)), oneDelta(numRel(1), relOf(n)), oneDelta(relOf(n, impl.Row{}), relOf(n)), oneDelta(relOf(1, rowOf(impl.Value{N: n, S: "a"})), relOf(1)))
		if n != 7 {
			wrong = append(wrong, plusDelta(n), minusDelta(n), oneDelta(relOf(2, rowOf(num(1), num(n))), relOf(2)), oneDelta(numRel(1), numRel(n)))
		}
	}
	for _, d := range wrong {
		if impl.DeltaOk(d) || deltaRight(d) || impl.DeltaFits(oneStore(numRel(1)), d) || !noDelta(impl.DeltaBack(d)) {
			t.Errorf("%s is taken for a change", deltaShown(d))
		}
		got, ok := impl.DeltaApply(oneStore(numRel(1)), d)
		one, also := impl.DeltaThen(d, plusDelta(5))
		two, too := impl.DeltaThen(plusDelta(5), d)
		if ok || also || too || !noStore(got) || !noDelta(one) || !noDelta(two) {
			t.Errorf("%s is done, or put together with another", deltaShown(d))
		}
		for _, c := range d.Changes[:min(len(d.Changes), 2)] {
			s := storeOf(named(c.Name, c.Plus))
			if parts, ok := impl.DeltaOf(s, storeOf(named(c.Name, c.Minus))); ok != (storeRight(s) && relRight(c.Minus) && c.Plus.Arity == c.Minus.Arity) || !ok && !noDelta(parts) {
				t.Errorf("DeltaOf of %s: %s %v", storeShown(s), deltaShown(parts), ok)
			}
		}
	}
}
