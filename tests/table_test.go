package tests

import (
	"math"
	"slices"
	"testing"

	"loop.example/g00391/impl"
)

// keyed is an entry without actions and hits.
func keyed(epoch int, prio int, m impl.Match) impl.Entry {
	return impl.Entry{Epoch: epoch, Prio: prio, Match: m}
}

func inMatch(n int) impl.Match  { return fieldMatch(0, n, 255) }
func dstMatch(n int) impl.Match { return fieldMatch(2, n, impl.MaxNum) }
func oddMatch() impl.Match      { return fieldMatch(0, 1, 1) }

func tableOf(room int, l ...impl.Entry) impl.Table { return impl.Table{Cap: room, Entries: l} }

func sameEntry(a impl.Entry, b impl.Entry) bool {
	return a.Epoch == b.Epoch && a.Prio == b.Prio && sameMatch(a.Match, b.Match) && slices.Equal(a.Acts, b.Acts) && a.Hits == b.Hits
}

func sameTable(a impl.Table, b impl.Table) bool {
	return a.Cap == b.Cap && slices.EqualFunc(a.Entries, b.Entries, sameEntry)
}

func noTable(t impl.Table) bool { return t.Cap == 0 && len(t.Entries) == 0 }

func copiedEntry(e impl.Entry) impl.Entry {
	return impl.Entry{Epoch: e.Epoch, Prio: e.Prio, Match: copyMatch(e.Match), Acts: slices.Clone(e.Acts), Hits: e.Hits}
}

func copiedTable(t impl.Table) impl.Table {
	out := impl.Table{Cap: t.Cap}
	for _, e := range t.Entries {
		out.Entries = append(out.Entries, copiedEntry(e))
	}
	return out
}

// entryRight is the document's words on one entry.
func entryRight(e impl.Entry) bool {
	return e.Epoch >= 0 && e.Epoch <= 1000000000 && e.Prio >= 0 && e.Prio <= 65535 && e.Hits >= 0 && e.Hits <= 1000000000 && matchRight(e.Match) && actsRight(e.Acts)
}

func isAhead(a impl.Entry, b impl.Entry) bool {
	if a.Epoch == b.Epoch {
		return a.Prio > b.Prio
	}
	return a.Epoch < b.Epoch
}

func sameKey(a impl.Entry, b impl.Entry) bool {
	return a.Epoch == b.Epoch && a.Prio == b.Prio && sameMatch(a.Match, b.Match)
}

// tableRight is TableOk by the document's words, each entry held against each before it.
func tableRight(t impl.Table) bool {
	if t.Cap < 0 || t.Cap > 400 || len(t.Entries) > t.Cap {
		return false
	}
	for i, e := range t.Entries {
		if !entryRight(e) {
			return false
		}
		for _, x := range t.Entries[:i] {
			if isAhead(e, x) || sameKey(e, x) {
				return false
			}
		}
	}
	return true
}

// addSpelled is TableAdd by the document's words, on a list that is searched entry by entry.
func addSpelled(t impl.Table, e impl.Entry) (impl.Table, int) {
	if !tableRight(t) || !entryRight(e) {
		return impl.Table{}, 1
	}
	for i, x := range t.Entries {
		if sameKey(x, e) {
			out := copiedTable(t)
			out.Entries[i] = copiedEntry(e)
			return out, 0
		}
	}
	if len(t.Entries) == t.Cap {
		return impl.Table{}, 2
	}
	var before, behind []impl.Entry
	for _, x := range t.Entries {
		if isAhead(e, x) {
			behind = append(behind, copiedEntry(x))
		} else {
			before = append(before, copiedEntry(x))
		}
	}
	return impl.Table{Cap: t.Cap, Entries: slices.Concat(before, []impl.Entry{copiedEntry(e)}, behind)}, 0
}

func keepSpelled(t impl.Table, epoch int) (impl.Table, int) {
	if !tableRight(t) {
		return impl.Table{}, -1
	}
	out := copiedTable(t)
	out.Entries = slices.DeleteFunc(out.Entries, func(e impl.Entry) bool { return e.Epoch != epoch })
	return out, len(t.Entries) - len(out.Entries)
}

func deleteSpelled(t impl.Table, m impl.Match, prio int, strict bool) (impl.Table, int) {
	if !tableRight(t) || !matchRight(m) {
		return impl.Table{}, -1
	}
	out := copiedTable(t)
	out.Entries = slices.DeleteFunc(out.Entries, func(e impl.Entry) bool {
		if strict {
			return sameMatch(e.Match, m) && e.Prio == prio
		}
		return coversSpelled(m, e.Match)
	})
	return out, len(t.Entries) - len(out.Entries)
}

func lookupSpelled(t impl.Table, epoch int, h impl.Head) int {
	if tableRight(t) {
		for i, e := range t.Entries {
			if e.Epoch == epoch && hitsSpelled(e.Match, h) {
				return i
			}
		}
	}
	return -1
}

func touchSpelled(t impl.Table, i int) (impl.Table, bool) {
	if !tableRight(t) || i < 0 || i >= len(t.Entries) {
		return impl.Table{}, false
	}
	out := copiedTable(t)
	if out.Entries[i].Hits < 1000000000 {
		out.Entries[i].Hits++
	}
	return out, true
}

func hiddenSpelled(t impl.Table) []int {
	var out []int
	if !tableRight(t) {
		return nil
	}
	for i, e := range t.Entries {
		for _, x := range t.Entries[:i] {
			if x.Epoch == e.Epoch && coversSpelled(x.Match, e.Match) {
				out = append(out, i)
				break
			}
		}
	}
	return out
}

// spots are the addresses of all places of a list, spare room counted in.
func spots[E any](l []E) []any {
	var out []any
	l = l[:cap(l)]
	for i := range l {
		out = append(out, &l[i])
	}
	return out
}

func entrySpots(e impl.Entry) []any {
	return slices.Concat(spots(e.Match.V), spots(e.Match.M), spots(e.Acts))
}

// tableSpots looks at entries in spare room too: what stands there has lists as well.
func tableSpots(t impl.Table) []any {
	out := spots(t.Entries)
	for _, e := range t.Entries[:cap(t.Entries)] {
		out = append(out, entrySpots(e)...)
	}
	return out
}

// checkApart asks that no list of an answer shares memory with what was given or with another list of it.
func checkApart(t *testing.T, given []any, answer []any) {
	t.Helper()
	seen := map[any]bool{}
	for _, at := range given {
		seen[at] = true
	}
	for _, at := range answer {
		if seen[at] {
			t.Error("a list of an answer shares memory")
			return
		}
		seen[at] = true
	}
}

// roomyTable is t with spare room behind each of its lists, and the whole of it.
func roomyTable(t impl.Table) (impl.Table, []impl.Entry) {
	whole := make([]impl.Entry, 0, len(t.Entries)+2)
	for _, e := range t.Entries {
		c := copiedEntry(e)
		c.Acts = append(make([]impl.Act, 0, len(e.Acts)+3), e.Acts...)
		c.Match.V = append(make([]int, 0, len(e.Match.V)+3), e.Match.V...)
		c.Match.M = append(make([]int, 0, len(e.Match.M)+3), e.Match.M...)
		whole = append(whole, c)
	}
	return impl.Table{Cap: t.Cap, Entries: whole}, whole[:cap(whole)]
}

// underCall hands a table with spare room to a call, and asks that the call changed nothing of it.
func underCall(t *testing.T, given impl.Table, call func(arg impl.Table)) {
	t.Helper()
	arg, whole := roomyTable(given)
	call(arg)
	ok := sameTable(arg, given)
	for i, e := range whole {
		if i >= len(given.Entries) {
			ok = ok && sameEntry(e, impl.Entry{})
			continue
		}
		for _, n := range append(e.Match.V[len(e.Match.V):cap(e.Match.V)], e.Match.M[len(e.Match.M):cap(e.Match.M)]...) {
			ok = ok && n == 0
		}
		for _, a := range e.Acts[len(e.Acts):cap(e.Acts)] {
			ok = ok && a == impl.Act{}
		}
	}
	if !ok {
		t.Error("a table that was given was changed")
	}
}

func checkTableOk(t *testing.T, given impl.Table) {
	t.Helper()
	underCall(t, given, func(arg impl.Table) {
		if got := impl.TableOk(arg); got != tableRight(given) {
			t.Errorf("Cap %d, %d entries %v are right: %v", given.Cap, len(given.Entries), given.Entries[:min(len(given.Entries), 5)], got)
		}
	})
}

func checkAdd(t *testing.T, given impl.Table, e impl.Entry) (impl.Table, int) {
	t.Helper()
	var out impl.Table
	var code int
	before := copiedEntry(e)
	underCall(t, given, func(arg impl.Table) {
		out, code = impl.TableAdd(arg, e)
		checkApart(t, append(tableSpots(arg), entrySpots(e)...), tableSpots(out))
	})
	want, wantCode := addSpelled(given, e)
	if code != wantCode || !sameTable(out, want) {
		t.Errorf("%v put into %d entries %v: %v %d, not %v %d", e, len(given.Entries), given.Entries[:min(len(given.Entries), 5)], out, code, want, wantCode)
	}
	if !sameEntry(e, before) {
		t.Error("TableAdd changed the entry")
	}
	if code == 0 && !impl.TableOk(out) {
		t.Errorf("%v put into a table: %v isn't right", e, out)
	}
	return out, code
}

func checkKeep(t *testing.T, given impl.Table, epoch int) (impl.Table, int) {
	t.Helper()
	var out impl.Table
	var n int
	underCall(t, given, func(arg impl.Table) {
		out, n = impl.TableKeep(arg, epoch)
		checkApart(t, tableSpots(arg), tableSpots(out))
	})
	want, wantN := keepSpelled(given, epoch)
	if n != wantN || !sameTable(out, want) {
		t.Errorf("epoch %d kept of %d entries: %v %d, not %v %d", epoch, len(given.Entries), out, n, want, wantN)
	}
	if n >= 0 && !impl.TableOk(out) {
		t.Errorf("epoch %d kept: %v isn't right", epoch, out)
	}
	return out, n
}

func checkDelete(t *testing.T, given impl.Table, m impl.Match, prio int, strict bool) (impl.Table, int) {
	t.Helper()
	var out impl.Table
	var n int
	before := copyMatch(m)
	underCall(t, given, func(arg impl.Table) {
		out, n = impl.TableDelete(arg, m, prio, strict)
		checkApart(t, slices.Concat(tableSpots(arg), spots(m.V), spots(m.M)), tableSpots(out))
	})
	want, wantN := deleteSpelled(given, m, prio, strict)
	if n != wantN || !sameTable(out, want) {
		t.Errorf("%v with %d, strict %v, taken out of %d entries: %v %d, not %v %d", m, prio, strict, len(given.Entries), out, n, want, wantN)
	}
	if !sameMatch(m, before) {
		t.Error("TableDelete changed the match")
	}
	if n >= 0 && !impl.TableOk(out) {
		t.Errorf("%v taken out: %v isn't right", m, out)
	}
	return out, n
}

func checkLookup(t *testing.T, given impl.Table, epoch int, h impl.Head) int {
	t.Helper()
	got := 0
	before := copyHead(h)
	underCall(t, given, func(arg impl.Table) {
		got = impl.Lookup(arg, epoch, h)
	})
	if want := lookupSpelled(given, epoch, h); got != want {
		t.Errorf("%v in epoch %d is found at %d, not at %d", h.V[:min(len(h.V), 9)], epoch, got, want)
	}
	if !sameHead(h, before) {
		t.Error("Lookup changed the head")
	}
	return got
}

func checkTouch(t *testing.T, given impl.Table, i int) (impl.Table, bool) {
	t.Helper()
	var out impl.Table
	var ok bool
	underCall(t, given, func(arg impl.Table) {
		out, ok = impl.Touch(arg, i)
		checkApart(t, tableSpots(arg), tableSpots(out))
	})
	want, wantOk := touchSpelled(given, i)
	if ok != wantOk || !sameTable(out, want) {
		t.Errorf("place %d of %d entries touched: %v %v, not %v %v", i, len(given.Entries), out, ok, want, wantOk)
	}
	if ok && !impl.TableOk(out) {
		t.Errorf("place %d touched: %v isn't right", i, out)
	}
	return out, ok
}

func checkHidden(t *testing.T, given impl.Table) []int {
	t.Helper()
	var got []int
	underCall(t, given, func(arg impl.Table) {
		got = impl.Hidden(arg)
	})
	if want := hiddenSpelled(given); !slices.Equal(got, want) {
		t.Errorf("hidden of %d entries %v: %v, not %v", len(given.Entries), given.Entries[:min(len(given.Entries), 5)], got, want)
	}
	return got
}

// ladder has n right entries, two of each rank, three ranks an epoch, an epoch left out between two.
func ladder(n int) []impl.Entry {
	var l []impl.Entry
	for i := range n {
		l = append(l, impl.Entry{Epoch: i / 6 * 2, Prio: 5 - i%6/2*2, Match: dstMatch(i % 2), Acts: repeated(outTo(1+i%255), i%13), Hits: i})
	}
	return l
}

// sameRank has n right entries of one rank.
func sameRank(n int) []impl.Entry {
	var l []impl.Entry
	for i := range n {
		l = append(l, impl.Entry{Epoch: 3, Prio: 7, Match: dstMatch(i * 65537), Acts: acts(outTo(1 + i%255)), Hits: n - i})
	}
	return l
}

// replaced is l with x in the place of its entry i, as a new list.
func replaced(l []impl.Entry, i int, x impl.Entry) []impl.Entry {
	return slices.Concat(l[:i], []impl.Entry{x}, l[i+1:])
}

func rightTables() []impl.Table {
	l := []impl.Table{{}, {Entries: []impl.Entry{}}, {Cap: 1}, {Cap: 400}, {Cap: 399},
		tableOf(400, ladder(400)...), tableOf(400, sameRank(400)...), tableOf(400, ladder(399)...)}
	for _, n := range []int{1, 2, 3, 6, 7, 13, 20} {
		l = append(l, tableOf(n, ladder(n)...), tableOf(n+1, ladder(n)...), tableOf(400, ladder(n)...), tableOf(n, sameRank(n)...))
	}
	top := impl.Entry{Epoch: impl.MaxEpoch, Prio: impl.MaxPrio, Match: fullMatch(impl.Head{V: greatest()}), Acts: repeated(setTo(2, impl.MaxNum), 12), Hits: impl.MaxHits}
	return append(l, tableOf(1, top), tableOf(2, keyed(0, 0, openMatch()), top), tableOf(3, keyed(0, impl.MaxPrio, openMatch()), keyed(0, 0, openMatch()), top))
}

func wrongEntries() []impl.Entry {
	var l []impl.Entry
	for _, n := range append(farNums(), -1, 1000000001, 1000000002, 1<<32+5) {
		l = append(l, impl.Entry{Epoch: n, Match: openMatch()}, impl.Entry{Hits: n, Match: openMatch()})
	}
	for _, n := range append(farNums(), -1, 65536, 65537, 1<<32+5, 1000000000) {
		l = append(l, impl.Entry{Prio: n, Match: openMatch()})
	}
	for _, m := range wrongMatches() {
		l = append(l, keyed(1, 1, m))
	}
	for _, few := range wrongActs() {
		l = append(l, impl.Entry{Epoch: 1, Prio: 1, Match: inMatch(1), Acts: few})
	}
	return append(l, impl.Entry{}, impl.Entry{Epoch: -1, Prio: -1, Hits: -1})
}

// someWrongEntries are one for each thing that an entry needs.
func someWrongEntries() []impl.Entry {
	return []impl.Entry{
		{Epoch: -1, Match: openMatch()}, {Epoch: impl.MaxEpoch + 1, Match: openMatch()},
		{Prio: -1, Match: openMatch()}, {Prio: impl.MaxPrio + 1, Match: openMatch()},
		{Hits: -1, Match: openMatch()}, {Hits: impl.MaxHits + 1, Match: openMatch()},
		{Match: fieldMatch(0, 1, 0)}, {Match: impl.Match{V: make([]int, 8)}}, {Match: impl.Match{V: make([]int, 9), M: make([]int, 9)}},
		{Match: openMatch(), Acts: acts(outTo(0))}, {Match: openMatch(), Acts: repeated(note(), 13)}, {},
	}
}

func wrongTables() []impl.Table {
	var l []impl.Table
	for _, n := range append(farNums(), -1, 401, 402, 1<<32+400, 1<<16) {
		l = append(l, impl.Table{Cap: n}, tableOf(n, ladder(1)...), tableOf(n, ladder(5)...))
	}
	for _, n := range []int{1, 2, 3, 7, 400, 401, 1000} {
		l = append(l, tableOf(min(n-1, 400), ladder(n)...), tableOf(min(n-1, 400), sameRank(n)...), tableOf(0, ladder(n)...))
	}
	for _, e := range someWrongEntries() {
		l = append(l, tableOf(1, e), tableOf(5, replaced(ladder(5), 0, e)...), tableOf(5, replaced(ladder(5), 2, e)...), tableOf(5, replaced(ladder(5), 4, e)...))
	}
	a, b, c := keyed(1, 5, openMatch()), keyed(1, 5, inMatch(1)), keyed(1, 5, inMatch(2))
	other := impl.Entry{Epoch: 1, Prio: 5, Match: openMatch(), Acts: acts(hand()), Hits: 9}
	return append(l, tableOf(9, a, a), tableOf(9, a, other), tableOf(9, a, b, a), tableOf(9, a, b, c, other), tableOf(9, b, a, c, a),
		tableOf(9, a, keyed(0, 5, openMatch())), tableOf(9, a, b, keyed(0, 9, inMatch(3))), tableOf(9, a, keyed(1, 6, openMatch())), tableOf(9, keyed(1, 4, openMatch()), a, b),
		tableOf(9, a, keyed(2, 5, openMatch()), keyed(1, 5, inMatch(1))), tableOf(9, keyed(0, 0, openMatch()), keyed(0, 0, inMatch(1)), keyed(0, 1, inMatch(1))))
}

// fewWrongTables are enough where each is asked with many other arguments.
func fewWrongTables() []impl.Table {
	a := keyed(1, 5, openMatch())
	return []impl.Table{{Cap: -1}, {Cap: 401}, {Cap: math.MinInt}, tableOf(0, a), tableOf(2, ladder(3)...), tableOf(2, a, a),
		tableOf(2, a, keyed(1, 6, openMatch())), tableOf(2, a, keyed(0, 5, openMatch())), tableOf(1, impl.Entry{}), tableOf(3, replaced(ladder(3), 1, keyed(0, -1, openMatch()))...)}
}

func TestTableConstants(t *testing.T) {
	if got := []int{impl.MaxEntries, impl.MaxPrio, impl.MaxEpoch, impl.MaxHits}; !slices.Equal(got, []int{400, 65535, 1000000000, 1000000000}) {
		t.Errorf("the constants are %v", got)
	}
}

func checkEntryOk(t *testing.T, e impl.Entry) {
	t.Helper()
	before := copiedEntry(e)
	if got := impl.EntryOk(e); got != entryRight(e) {
		t.Errorf("%v is right: %v", e, got)
	}
	if !sameEntry(e, before) {
		t.Error("EntryOk changed its argument")
	}
}

func TestEntryOk(t *testing.T) {
	for _, m := range rightMatches() {
		checkEntryOk(t, keyed(0, 0, m))
		if !impl.EntryOk(impl.Entry{Epoch: 4, Prio: 5, Match: m, Acts: acts(hand()), Hits: 6}) {
			t.Errorf("an entry with %v isn't right", m)
		}
	}
	for _, l := range rightActs() {
		checkEntryOk(t, impl.Entry{Match: openMatch(), Acts: l})
		if !impl.EntryOk(impl.Entry{Epoch: 4, Prio: 5, Match: dstMatch(3), Acts: l, Hits: 6}) {
			t.Errorf("an entry with %v isn't right", l)
		}
	}
	for _, e := range append(wrongEntries(), someWrongEntries()...) {
		checkEntryOk(t, e)
		if impl.EntryOk(e) {
			t.Errorf("%v is right", e)
		}
	}
}

func TestEntryOkEdges(t *testing.T) {
	for _, c := range []struct {
		top int
		set func(e *impl.Entry, n int)
	}{
		{1000000000, func(e *impl.Entry, n int) { e.Epoch = n }},
		{65535, func(e *impl.Entry, n int) { e.Prio = n }},
		{1000000000, func(e *impl.Entry, n int) { e.Hits = n }},
	} {
		for _, n := range append(farNums(), -1, 0, 1, 65534, 65535, 65536, c.top-1, c.top, c.top+1, 1<<16, 1<<32, 1<<32+1) {
			for _, base := range []impl.Entry{keyed(0, 0, openMatch()), {Epoch: 1000000000, Prio: 65535, Match: openMatch(), Acts: acts(flood()), Hits: 1000000000}} {
				c.set(&base, n)
				if got := impl.EntryOk(base); got != (n >= 0 && n <= c.top) {
					t.Errorf("%v: %v", base, got)
				}
			}
		}
	}
	if impl.EntryOk(impl.Entry{}) || !impl.EntryOk(keyed(0, 0, openMatch())) || !impl.EntryOk(impl.Entry{Match: openMatch(), Acts: []impl.Act{}}) {
		t.Error("an entry without anything, or without actions")
	}
}

// Each of the five is right or wrong, in all ways together.
func TestEntryOkTogether(t *testing.T) {
	for _, epoch := range []int{-1, 0, impl.MaxEpoch, impl.MaxEpoch + 1} {
		for _, prio := range []int{-1, 0, impl.MaxPrio, impl.MaxPrio + 1} {
			for _, hits := range []int{-1, 0, impl.MaxHits, impl.MaxHits + 1} {
				for _, m := range []impl.Match{openMatch(), fieldMatch(7, 256, 256), {}} {
					for _, l := range [][]impl.Act{nil, acts(hand()), acts(impl.Act{}), repeated(flood(), 13)} {
						checkEntryOk(t, impl.Entry{Epoch: epoch, Prio: prio, Match: m, Acts: l, Hits: hits})
					}
				}
			}
		}
	}
}

func TestTableOk(t *testing.T) {
	for _, x := range rightTables() {
		checkTableOk(t, x)
		if !impl.TableOk(x) {
			t.Errorf("%d entries under a Cap of %d aren't right", len(x.Entries), x.Cap)
		}
	}
	for _, x := range append(wrongTables(), fewWrongTables()...) {
		checkTableOk(t, x)
		if impl.TableOk(x) {
			t.Errorf("%d entries under a Cap of %d are right: %v", len(x.Entries), x.Cap, x.Entries[:min(len(x.Entries), 5)])
		}
	}
}

func TestTableOkEveryCap(t *testing.T) {
	for room := -500; room < 1000; room++ {
		if got := impl.TableOk(impl.Table{Cap: room}); got != (room >= 0 && room <= 400) {
			t.Errorf("a Cap of %d: %v", room, got)
		}
		if got := impl.TableOk(tableOf(room, ladder(3)...)); got != (room >= 3 && room <= 400) {
			t.Errorf("a Cap of %d with 3 entries: %v", room, got)
		}
	}
	for _, n := range []int{0, 1, 2, 100, 399, 400, 401, 800} {
		for _, room := range []int{n - 1, n, n + 1, 400, 401} {
			if got := impl.TableOk(tableOf(room, ladder(n)...)); got != (n <= room && room >= 0 && room <= 400) {
				t.Errorf("%d entries under a Cap of %d: %v", n, room, got)
			}
		}
	}
	if impl.TableOk(tableOf(400, make([]impl.Entry, 200000)...)) {
		t.Error("200000 entries are right")
	}
	// Spare room behind the list is none of its entries.
	if !impl.TableOk(tableOf(1, ladder(1)...)) || !impl.TableOk(impl.Table{Cap: 2, Entries: ladder(5)[:2]}) || !impl.TableOk(impl.Table{Cap: 3, Entries: append(make([]impl.Entry, 0, 9), ladder(3)...)}) {
		t.Error("spare room is taken for entries")
	}
}

func TestTableOkOneWrong(t *testing.T) {
	for _, n := range []int{1, 2, 3, 5, 40, 400} {
		for _, at := range []int{0, n / 3, n / 2, n - 1} {
			for _, e := range someWrongEntries() {
				if impl.TableOk(tableOf(400, replaced(ladder(n), at, e)...)) {
					t.Errorf("%v at place %d of %d is right", e, at, n)
				}
			}
		}
	}
	for _, set := range []func(e *impl.Entry){
		func(e *impl.Entry) { e.Hits = -1 },
		func(e *impl.Entry) { e.Hits = impl.MaxHits + 1 },
		func(e *impl.Entry) { e.Match.V[0] = 1 },
		func(e *impl.Entry) { e.Match.M = e.Match.M[:7] },
		func(e *impl.Entry) { e.Acts = acts(setTo(0, 1)) },
	} {
		for at := range 7 {
			l := copiedTable(tableOf(7, ladder(7)...))
			set(&l.Entries[at])
			if impl.TableOk(l) {
				t.Errorf("place %d of 7: %v", at, l.Entries[at])
			}
		}
	}
}

// The key is Epoch, Prio and Match, all three: two that differ in one of them may both stand there.
func TestTableOkTwoAlike(t *testing.T) {
	a := impl.Entry{Epoch: 3, Prio: 7, Match: fieldMatch(5, 6, 6), Acts: acts(flood()), Hits: 2}
	for _, c := range []struct {
		what string
		set  func(e *impl.Entry)
		ok   bool
	}{
		{"nothing", func(e *impl.Entry) {}, false},
		{"Acts", func(e *impl.Entry) { e.Acts = acts(hand()) }, false},
		{"no Acts", func(e *impl.Entry) { e.Acts = nil }, false},
		{"Hits", func(e *impl.Entry) { e.Hits = 3 }, false},
		{"Acts and Hits", func(e *impl.Entry) { e.Acts, e.Hits = nil, 0 }, false},
		{"Epoch", func(e *impl.Entry) { e.Epoch = 4 }, true},
		{"Prio", func(e *impl.Entry) { e.Prio = 6 }, true},
		{"V", func(e *impl.Entry) { e.Match = fieldMatch(5, 4, 6) }, true},
		{"M", func(e *impl.Entry) { e.Match = fieldMatch(5, 6, 7) }, true},
		{"the field", func(e *impl.Entry) { e.Match = fieldMatch(6, 6, 6) }, true},
		{"Prio, above", func(e *impl.Entry) { e.Prio = 8 }, false},
		{"Epoch, below", func(e *impl.Entry) { e.Epoch = 2 }, false},
		{"Epoch and Prio, crosswise", func(e *impl.Entry) { e.Epoch, e.Prio = 7, 3 }, true},
	} {
		b := copiedEntry(a)
		c.set(&b)
		if impl.TableOk(tableOf(9, a, b)) != c.ok {
			t.Errorf("two that differ in %s", c.what)
		}
		for n := 1; n < 7; n++ {
			l := []impl.Entry{a}
			for i := range n {
				l = append(l, keyed(3, 7, dstMatch(i)))
			}
			checkTableOk(t, tableOf(9, append(l, b)...))
			if impl.TableOk(tableOf(9, append(l, b)...)) != c.ok {
				t.Errorf("two that differ in %s, with %d between them", c.what, n)
			}
		}
	}
}

func TestTableOkTwoAlikeFarApart(t *testing.T) {
	l := sameRank(400)
	for _, c := range []struct{ a, b int }{{0, 1}, {0, 399}, {398, 399}, {200, 201}, {17, 380}} {
		x := replaced(l, c.b, keyed(3, 7, copyMatch(l[c.a].Match)))
		if impl.TableOk(tableOf(400, x...)) {
			t.Errorf("the places %d and %d are alike", c.a, c.b)
		}
	}
	for bit := range 48 {
		if !impl.TableOk(tableOf(2, keyed(0, 0, dstMatch(5)), keyed(0, 0, dstMatch(5^1<<bit)))) {
			t.Errorf("two that differ in bit %d", bit)
		}
	}
	for f, size := range fieldSizes() {
		for bit := range size {
			if !impl.TableOk(tableOf(2, keyed(0, 0, openMatch()), keyed(0, 0, fieldMatch(f, 0, 1<<bit)))) || !impl.TableOk(tableOf(2, keyed(0, 0, fieldMatch(f, 1<<bit, 1<<bit)), keyed(0, 0, fieldMatch(f, 0, 1<<bit)))) {
				t.Errorf("two that differ in bit %d of field %d", bit, f)
			}
		}
	}
}

func TestTableOkOrder(t *testing.T) {
	l := ladder(24)
	for i := range l {
		for j := range i {
			x := slices.Clone(l)
			x[i], x[j] = x[j], x[i]
			checkTableOk(t, tableOf(24, x...))
			if alike := l[i].Epoch == l[j].Epoch && l[i].Prio == l[j].Prio; impl.TableOk(tableOf(24, x...)) != alike {
				t.Errorf("the places %d and %d are changed for one another", i, j)
			}
		}
	}
	for _, c := range []struct {
		a, b impl.Entry
		ok   bool
	}{
		{keyed(0, 0, openMatch()), keyed(1, 65535, openMatch()), true},
		{keyed(1, 65535, openMatch()), keyed(0, 0, openMatch()), false},
		{keyed(1, 0, openMatch()), keyed(0, 65535, openMatch()), false},
		{keyed(0, 65535, openMatch()), keyed(0, 0, openMatch()), true},
		{keyed(0, 0, openMatch()), keyed(0, 65535, openMatch()), false},
		{keyed(0, 0, openMatch()), keyed(1000000000, 0, openMatch()), true},
		{keyed(1000000000, 0, openMatch()), keyed(0, 0, openMatch()), false},
		{keyed(5, 5, inMatch(1)), keyed(5, 5, openMatch()), true},
		{keyed(5, 5, openMatch()), keyed(5, 5, inMatch(1)), true},
	} {
		if impl.TableOk(tableOf(2, c.a, c.b)) != c.ok {
			t.Errorf("%v ahead of %v", c.a, c.b)
		}
	}
}

// smallEntries are twelve keys, of which some cover others.
func smallEntries() []impl.Entry {
	var l []impl.Entry
	for _, epoch := range []int{0, 1} {
		for _, prio := range []int{0, 1} {
			for i, m := range []impl.Match{openMatch(), oddMatch(), inMatch(1)} {
				l = append(l, impl.Entry{Epoch: epoch, Prio: prio, Match: m, Acts: repeated(outTo(1+epoch+prio), i), Hits: epoch + prio + i})
			}
		}
	}
	return l
}

func TestTableOkEverySmallTable(t *testing.T) {
	right := 0
	eachList(smallEntries(), 4, func(l []impl.Entry) {
		got := impl.TableOk(tableOf(len(l), l...))
		if got != tableRight(tableOf(len(l), l...)) || impl.TableOk(tableOf(len(l)+1, l...)) != got || impl.TableOk(tableOf(len(l)-1, l...)) {
			t.Errorf("%v: %v", l, got)
		}
		if got {
			right++
		}
	})
	// Of each of the four ranks none of its three keys stands there, or one, two or three of them in any order.
	if right != 1600 {
		t.Errorf("%d small tables are right", right)
	}
}

// smallTables are all right tables of up to n of the small entries.
func smallTables(n int) []impl.Table {
	var out []impl.Table
	eachList(smallEntries(), n, func(l []impl.Entry) {
		if tableRight(tableOf(len(l), l...)) {
			out = append(out, tableOf(len(l), l...))
		}
	})
	return out
}

func TestTableAddByHand(t *testing.T) {
	x := impl.Table{Cap: 5}
	for _, e := range []impl.Entry{keyed(1, 5, inMatch(1)), keyed(1, 9, inMatch(2)), keyed(0, 1, inMatch(3)), keyed(1, 5, inMatch(4)), keyed(2, 9, inMatch(5))} {
		var code int
		x, code = impl.TableAdd(x, e)
		if code != 0 {
			t.Fatalf("%v: code %d", e, code)
		}
	}
	var got []int
	for _, e := range x.Entries {
		got = append(got, e.Match.V[0])
	}
	if !slices.Equal(got, []int{3, 2, 1, 4, 5}) || x.Cap != 5 {
		t.Errorf("the order is %v", got)
	}
	if y, code := impl.TableAdd(x, keyed(1, 5, inMatch(6))); code != 2 || !noTable(y) {
		t.Errorf("a full table: %v %d", y, code)
	}
	e := impl.Entry{Epoch: 1, Prio: 5, Match: inMatch(1), Acts: acts(flood(), note()), Hits: 77}
	y, code := impl.TableAdd(x, e)
	if code != 0 || len(y.Entries) != 5 || !sameEntry(y.Entries[2], e) || !sameEntry(y.Entries[3], x.Entries[3]) || y.Cap != 5 {
		t.Errorf("in its place in a full table: %v %d", y, code)
	}
}

func TestTableAddEverySmallTable(t *testing.T) {
	for _, x := range smallTables(3) {
		for _, e := range smallEntries() {
			e.Acts, e.Hits = acts(hand()), 40
			checkAdd(t, x, e)
			checkAdd(t, tableOf(x.Cap+1, x.Entries...), e)
		}
	}
}

func TestTableAddKnownKey(t *testing.T) {
	for _, x := range rightTables() {
		for i, old := range x.Entries[:min(len(x.Entries), 30)] {
			for _, e := range []impl.Entry{
				old,
				{Epoch: old.Epoch, Prio: old.Prio, Match: copyMatch(old.Match)},
				{Epoch: old.Epoch, Prio: old.Prio, Match: copyMatch(old.Match), Acts: repeated(hand(), 12), Hits: impl.MaxHits},
				{Epoch: old.Epoch, Prio: old.Prio, Match: copyMatch(old.Match), Acts: old.Acts, Hits: old.Hits / 2},
			} {
				out, code := impl.TableAdd(x, e)
				if code != 0 || len(out.Entries) != len(x.Entries) || out.Cap != x.Cap || !sameEntry(out.Entries[i], e) {
					t.Errorf("a known key at place %d of %d: code %d", i, len(x.Entries), code)
					continue
				}
				out.Entries[i] = old
				if !sameTable(out, x) {
					t.Errorf("a known key at place %d of %d: another entry is changed", i, len(x.Entries))
				}
			}
		}
	}
}

func TestTableAddRoom(t *testing.T) {
	fresh := keyed(3, 7, dstMatch(impl.MaxNum))
	for _, n := range []int{0, 1, 2, 3, 20, 399, 400} {
		for _, room := range []int{n, n + 1, n + 2, 400} {
			if room > 400 {
				continue
			}
			x := tableOf(room, sameRank(n)...)
			out, code := checkAdd(t, x, fresh)
			if room == n && (code != 2 || !noTable(out)) {
				t.Errorf("a new key in a full table of %d: %d", n, code)
			}
			if room > n && (code != 0 || len(out.Entries) != n+1 || !sameEntry(out.Entries[n], fresh)) {
				t.Errorf("a new key in a table of %d with %d entries: %d", room, n, code)
			}
			if n > 0 {
				if _, code := checkAdd(t, x, keyed(3, 7, dstMatch(0))); code != 0 {
					t.Errorf("a known key in a table of %d with %d entries: %d", room, n, code)
				}
			}
		}
	}
	if out, code := impl.TableAdd(impl.Table{}, fresh); code != 2 || !noTable(out) {
		t.Errorf("a table of Cap 0: %v %d", out, code)
	}
	if out, code := impl.TableAdd(impl.Table{Cap: 1}, fresh); code != 0 || !sameTable(out, tableOf(1, fresh)) {
		t.Errorf("a table of Cap 1: %v %d", out, code)
	}
}

// Of one rank the later comes behind, whatever it asks; what differs in one alone has another key.
func TestTableAddPlaces(t *testing.T) {
	l := ladder(18)
	x := tableOf(400, l...)
	for epoch := range 8 {
		for prio := range 8 {
			e := impl.Entry{Epoch: epoch, Prio: prio, Match: inMatch(9), Acts: acts(note())}
			out, code := checkAdd(t, x, e)
			want := 0
			for want < len(l) && !isAhead(e, l[want]) {
				want++
			}
			if code != 0 || !sameEntry(out.Entries[want], e) || len(out.Entries) != 19 {
				t.Errorf("epoch %d, prio %d: not at place %d", epoch, prio, want)
			}
		}
	}
	for _, c := range []struct{ epoch, prio, at int }{{0, 65535, 0}, {0, 6, 0}, {0, 5, 2}, {0, 4, 2}, {0, 0, 6}, {1, 3, 6}, {4, 1, 18}, {4, 0, 18}, {1000000000, 65535, 18}, {1000000000, 0, 18}, {2, 3, 10}} {
		out, code := impl.TableAdd(x, keyed(c.epoch, c.prio, openMatch()))
		if code != 0 || !sameEntry(out.Entries[c.at], keyed(c.epoch, c.prio, openMatch())) {
			t.Errorf("epoch %d, prio %d: not at place %d", c.epoch, c.prio, c.at)
		}
	}
}

func TestTableAddRefuses(t *testing.T) {
	right := keyed(1, 5, inMatch(7))
	for _, x := range append(wrongTables(), fewWrongTables()...) {
		if out, code := checkAdd(t, x, right); code != 1 || !noTable(out) {
			t.Errorf("into a wrong table of %d entries: %v %d", len(x.Entries), out, code)
		}
	}
	for _, e := range wrongEntries() {
		for _, x := range []impl.Table{{}, {Cap: 3}, tableOf(2, ladder(2)...)} {
			if out, code := impl.TableAdd(x, e); code != 1 || !noTable(out) {
				t.Errorf("%v: %v %d", e, out, code)
			}
		}
	}
	for _, x := range fewWrongTables() {
		for _, e := range someWrongEntries() {
			if out, code := checkAdd(t, x, e); code != 1 || !noTable(out) {
				t.Errorf("%v into a wrong table: %v %d", e, out, code)
			}
		}
	}
	// A full table and a wrong entry: the first code counts.
	for _, e := range someWrongEntries() {
		if out, code := checkAdd(t, tableOf(3, ladder(3)...), e); code != 1 || !noTable(out) {
			t.Errorf("%v into a full table: %v %d", e, out, code)
		}
	}
}

func TestTableAddNewMemory(t *testing.T) {
	v := make([]int, 8, 20)
	few := append(make([]impl.Act, 0, 9), acts(outTo(1), hand())...)
	// An entry whose lists are one and the same, and a table whose entries share theirs with it.
	e := impl.Entry{Epoch: 2, Prio: 2, Match: impl.Match{V: v, M: v}, Acts: few, Hits: 3}
	x := tableOf(9, impl.Entry{Epoch: 1, Match: impl.Match{V: v, M: v}, Acts: few}, impl.Entry{Epoch: 2, Prio: 3, Match: impl.Match{V: v, M: v}, Acts: few})
	out, code := impl.TableAdd(x, e)
	if code != 0 || len(out.Entries) != 3 {
		t.Fatalf("code %d", code)
	}
	checkApart(t, append(tableSpots(x), entrySpots(e)...), tableSpots(out))
	want := copiedTable(out)
	v[0], few[0] = 9, note()
	x.Entries[0].Hits, x.Entries[1].Prio = 50, 51
	if !sameTable(out, want) {
		t.Error("an answer hangs on what was given")
	}
	again, _ := impl.TableAdd(tableOf(9, ladder(4)...), ladder(4)[1])
	twice, _ := impl.TableAdd(tableOf(9, ladder(4)...), ladder(4)[1])
	checkApart(t, tableSpots(again), tableSpots(twice))
}

func TestTableKeep(t *testing.T) {
	for _, x := range rightTables() {
		for _, epoch := range []int{-1, 0, 1, 2, 3, 4, 130, 132, 133, impl.MaxEpoch, impl.MaxEpoch + 1, math.MinInt, math.MaxInt, 1<<32 + 2} {
			checkKeep(t, x, epoch)
		}
	}
	for _, x := range smallTables(3) {
		for epoch := -1; epoch <= 2; epoch++ {
			checkKeep(t, x, epoch)
		}
	}
	for _, x := range append(wrongTables(), fewWrongTables()...) {
		for _, epoch := range []int{-1, 0, 1, 2} {
			if out, n := checkKeep(t, x, epoch); n != -1 || !noTable(out) {
				t.Errorf("of a wrong table of %d entries: %v %d", len(x.Entries), out, n)
			}
		}
	}
}

func TestTableKeepByHand(t *testing.T) {
	x := tableOf(30, ladder(18)...)
	for _, c := range []struct{ epoch, from, to, went int }{{0, 0, 6, 12}, {2, 6, 12, 12}, {4, 12, 18, 12}, {1, 0, 0, 18}, {5, 0, 0, 18}, {-1, 0, 0, 18}, {-2, 0, 0, 18}, {math.MinInt, 0, 0, 18}, {impl.MaxEpoch + 1, 0, 0, 18}} {
		out, n := impl.TableKeep(x, c.epoch)
		if n != c.went || !sameTable(out, tableOf(30, x.Entries[c.from:c.to]...)) {
			t.Errorf("epoch %d: %v %d", c.epoch, out, n)
		}
	}
	if out, n := impl.TableKeep(tableOf(20, sameRank(20)...), 3); n != 0 || !sameTable(out, tableOf(20, sameRank(20)...)) {
		t.Errorf("all are kept: %d", n)
	}
	for _, epoch := range []int{-1, 0, 7} {
		if out, n := impl.TableKeep(impl.Table{Cap: 7}, epoch); n != 0 || out.Cap != 7 || len(out.Entries) != 0 {
			t.Errorf("of no entries: %v %d", out, n)
		}
	}
	if out, n := impl.TableKeep(tableOf(400, ladder(400)...), 0); n != 394 || len(out.Entries) != 6 || out.Cap != 400 {
		t.Errorf("of 400: %d", n)
	}
	// A wrong epoch in the table isn't kept, though it is asked for.
	if out, n := impl.TableKeep(tableOf(9, keyed(-1, 0, openMatch())), -1); n != -1 || !noTable(out) {
		t.Errorf("of a wrong table: %v %d", out, n)
	}
}

// deleteMatches cover all, some and none of what the tables of the tests ask.
func deleteMatches() []impl.Match {
	return []impl.Match{openMatch(), oddMatch(), inMatch(1), inMatch(2), dstMatch(0), dstMatch(1), dstMatch(65537), fieldMatch(2, 0, 1), fieldMatch(2, 1, 1), fieldMatch(2, 0, impl.MaxNum-1), fieldMatch(3, 7, 7), fullMatch(impl.Head{V: greatest()})}
}

func TestTableDelete(t *testing.T) {
	for _, x := range rightTables() {
		if len(x.Entries) > 100 {
			continue
		}
		for _, m := range deleteMatches() {
			checkDelete(t, x, m, 0, false)
			for _, prio := range []int{-1, 0, 1, 3, 5, 7, impl.MaxPrio, impl.MaxPrio + 1} {
				checkDelete(t, x, m, prio, true)
			}
		}
	}
	for _, x := range smallTables(3) {
		for _, m := range deleteMatches()[:4] {
			checkDelete(t, x, m, -7, false)
			for prio := range 3 {
				checkDelete(t, x, m, prio, true)
			}
		}
	}
}

func TestTableDeleteByHand(t *testing.T) {
	x := tableOf(9, keyed(0, 5, inMatch(1)), keyed(0, 5, openMatch()), keyed(0, 4, inMatch(1)), keyed(0, 4, inMatch(3)), keyed(2, 5, inMatch(1)), keyed(2, 5, inMatch(2)), keyed(7, 0, oddMatch()))
	for _, c := range []struct {
		m      impl.Match
		prio   int
		strict bool
		stay   []int
	}{
		{openMatch(), 5, false, nil},
		{openMatch(), -1, false, nil},
		{openMatch(), math.MaxInt, false, nil},
		{oddMatch(), 5, false, []int{1, 5}},
		{inMatch(1), 0, false, []int{1, 3, 5, 6}},
		{inMatch(1), 5, false, []int{1, 3, 5, 6}},
		{inMatch(4), 5, false, []int{0, 1, 2, 3, 4, 5, 6}},
		{fullMatch(impl.Head{V: []int{1, 0, 0, 0, 0, 0, 0, 0}}), 5, false, []int{0, 1, 2, 3, 4, 5, 6}},
		{openMatch(), 5, true, []int{0, 2, 3, 4, 5, 6}},
		{openMatch(), 4, true, []int{0, 1, 2, 3, 4, 5, 6}},
		{inMatch(1), 5, true, []int{1, 2, 3, 5, 6}},
		{inMatch(1), 4, true, []int{0, 1, 3, 4, 5, 6}},
		{inMatch(3), 5, true, []int{0, 1, 2, 3, 4, 5, 6}},
		{inMatch(3), 4, true, []int{0, 1, 2, 4, 5, 6}},
		{oddMatch(), 0, true, []int{0, 1, 2, 3, 4, 5}},
		{oddMatch(), 5, true, []int{0, 1, 2, 3, 4, 5, 6}},
		{inMatch(1), -1, true, []int{0, 1, 2, 3, 4, 5, 6}},
		{inMatch(1), impl.MaxPrio + 1, true, []int{0, 1, 2, 3, 4, 5, 6}},
	} {
		want := impl.Table{Cap: 9}
		for _, i := range c.stay {
			want.Entries = append(want.Entries, x.Entries[i])
		}
		out, n := checkDelete(t, x, c.m, c.prio, c.strict)
		if n != 7-len(c.stay) || !sameTable(out, want) {
			t.Errorf("%v, %d, strict %v: %d went", c.m, c.prio, c.strict, n)
		}
	}
	out, n := impl.TableDelete(impl.Table{Cap: 4}, openMatch(), 0, false)
	y, k := impl.TableDelete(impl.Table{Cap: 4}, openMatch(), 0, true)
	if n != 0 || k != 0 || !sameTable(out, impl.Table{Cap: 4}) || !sameTable(y, impl.Table{Cap: 4}) {
		t.Error("of no entries")
	}
}

func TestTableDeleteRefuses(t *testing.T) {
	for _, strict := range []bool{false, true} {
		for _, x := range append(wrongTables(), fewWrongTables()...) {
			if out, n := checkDelete(t, x, openMatch(), 5, strict); n != -1 || !noTable(out) {
				t.Errorf("of a wrong table of %d entries: %v %d", len(x.Entries), out, n)
			}
		}
		for _, m := range wrongMatches() {
			for _, x := range []impl.Table{{}, {Cap: 2}, tableOf(5, ladder(3)...), {Cap: -1}} {
				if out, n := checkDelete(t, x, m, 5, strict); n != -1 || !noTable(out) {
					t.Errorf("by %v: %v %d", m, out, n)
				}
			}
		}
	}
}

func TestLookupByHand(t *testing.T) {
	x := tableOf(9, keyed(0, 5, inMatch(1)), keyed(0, 4, oddMatch()), keyed(0, 4, inMatch(3)), keyed(0, 0, inMatch(1)), keyed(2, 5, inMatch(2)), keyed(2, 1, openMatch()))
	for _, c := range []struct{ epoch, in, at int }{
		{0, 1, 0}, {0, 3, 1}, {0, 5, 1}, {0, 2, -1}, {0, 4, -1}, {0, 255, 1},
		{2, 1, 5}, {2, 2, 4}, {2, 3, 5}, {2, 200, 5},
		{1, 1, -1}, {3, 1, -1}, {-1, 1, -1}, {math.MinInt, 1, -1}, {math.MaxInt, 1, -1}, {1<<32 + 2, 1, -1}, {impl.MaxEpoch, 2, -1},
	} {
		if got := checkLookup(t, x, c.epoch, headFrom(c.in)); got != c.at {
			t.Errorf("epoch %d, port %d: %d, not %d", c.epoch, c.in, got, c.at)
		}
	}
	if impl.Lookup(impl.Table{}, 0, headFrom(1)) != -1 || impl.Lookup(impl.Table{Cap: 4}, 0, headFrom(1)) != -1 {
		t.Error("something is found among no entries")
	}
}

func TestLookupEverySmallTable(t *testing.T) {
	for _, x := range smallTables(3) {
		for epoch := -1; epoch <= 2; epoch++ {
			for _, in := range []int{0, 1, 2, 3} {
				checkLookup(t, x, epoch, headFrom(in))
			}
		}
	}
}

func TestLookupInLongTables(t *testing.T) {
	full := tableOf(400, sameRank(400)...)
	for _, i := range []int{0, 1, 17, 200, 398, 399} {
		h := headFrom(1)
		h.V[2] = i * 65537
		if got := checkLookup(t, full, 3, h); got != i {
			t.Errorf("place %d is found at %d", i, got)
		}
		if got := checkLookup(t, full, 4, h); got != -1 {
			t.Errorf("place %d is found in another epoch, at %d", i, got)
		}
	}
	steps := tableOf(400, ladder(400)...)
	for epoch := range 140 {
		for dst := range 3 {
			h := headFrom(1)
			h.V[2] = dst
			want := epoch/2*6 + dst
			if epoch%2 == 1 || dst == 2 || want >= 400 {
				want = -1
			}
			if got := impl.Lookup(steps, epoch, h); got != want {
				t.Errorf("epoch %d, to %d: %d, not %d", epoch, dst, got, want)
			}
		}
	}
}

func TestLookupRefuses(t *testing.T) {
	catch := tableOf(2, keyed(0, 5, openMatch()), keyed(1, 5, openMatch()))
	for _, h := range wrongHeads() {
		for _, x := range []impl.Table{catch, {}, {Cap: 5}, {Cap: -1}} {
			for epoch := range 2 {
				if got := checkLookup(t, x, epoch, h); got != -1 {
					t.Errorf("%d numbers that are no head are found at %d", len(h.V), got)
				}
			}
		}
	}
	for _, x := range append(wrongTables(), fewWrongTables()...) {
		for _, epoch := range []int{-1, 0, 1, 2, 3} {
			for _, h := range []impl.Head{headFrom(1), {V: make([]int, 8)}, {}} {
				if got := checkLookup(t, x, epoch, h); got != -1 {
					t.Errorf("in a wrong table of %d entries: %d", len(x.Entries), got)
				}
			}
		}
	}
}

func TestTouch(t *testing.T) {
	for _, x := range rightTables() {
		n := len(x.Entries)
		for _, i := range append(farNums(), -1, 0, 1, n/2, n-1, n, n+1, 400, 401, 1<<32, 256) {
			out, ok := checkTouch(t, x, i)
			if ok != (i >= 0 && i < n) || !ok && !noTable(out) {
				t.Errorf("place %d of %d: %v", i, n, ok)
			}
		}
	}
	for _, x := range append(wrongTables(), fewWrongTables()...) {
		for _, i := range []int{-1, 0, 1, 2, 400} {
			if out, ok := checkTouch(t, x, i); ok || !noTable(out) {
				t.Errorf("place %d of a wrong table of %d entries: %v", i, len(x.Entries), out)
			}
		}
	}
}

func TestTouchHits(t *testing.T) {
	for _, c := range []struct{ before, behind int }{{0, 1}, {1, 2}, {65535, 65536}, {impl.MaxHits - 2, impl.MaxHits - 1}, {impl.MaxHits - 1, impl.MaxHits}, {impl.MaxHits, impl.MaxHits}} {
		for at := range 3 {
			l := ladder(3)
			l[at].Hits = c.before
			out, ok := impl.Touch(tableOf(3, l...), at)
			want := copiedTable(tableOf(3, l...))
			want.Entries[at].Hits = c.behind
			if !ok || !sameTable(out, want) {
				t.Errorf("%d hits at place %d: %v %v", c.before, at, out, ok)
			}
		}
	}
	if out, ok := impl.Touch(tableOf(3, impl.Entry{Match: openMatch(), Hits: impl.MaxHits + 1}), 0); ok || !noTable(out) {
		t.Error("an entry with too many hits is touched")
	}
	x := tableOf(3, ladder(3)...)
	for range 50 {
		x, _ = impl.Touch(x, 1)
	}
	if x.Entries[0].Hits != 0 || x.Entries[1].Hits != 51 || x.Entries[2].Hits != 2 {
		t.Errorf("50 times: %v", x)
	}
}

func TestHiddenByHand(t *testing.T) {
	for _, c := range []struct {
		what string
		l    []impl.Entry
		want []int
	}{
		{"no entries", nil, nil},
		{"one", []impl.Entry{keyed(0, 0, openMatch())}, nil},
		{"the same rank", []impl.Entry{keyed(0, 5, openMatch()), keyed(0, 5, inMatch(1))}, []int{1}},
		{"the same rank, behind", []impl.Entry{keyed(0, 5, inMatch(1)), keyed(0, 5, openMatch())}, nil},
		{"a greater Prio", []impl.Entry{keyed(0, 6, openMatch()), keyed(0, 5, inMatch(1))}, []int{1}},
		{"a lesser Prio", []impl.Entry{keyed(0, 6, inMatch(1)), keyed(0, 5, openMatch())}, nil},
		{"another Epoch", []impl.Entry{keyed(0, 5, openMatch()), keyed(1, 5, inMatch(1))}, nil},
		{"another Epoch, the same Match", []impl.Entry{keyed(0, 5, inMatch(1)), keyed(1, 5, inMatch(1))}, nil},
		{"another Epoch between", []impl.Entry{keyed(0, 5, openMatch()), keyed(1, 5, inMatch(2)), keyed(1, 4, inMatch(1)), keyed(2, 4, inMatch(2))}, nil},
		{"by a hidden one", []impl.Entry{keyed(0, 6, openMatch()), keyed(0, 5, oddMatch()), keyed(0, 4, inMatch(1))}, []int{1, 2}},
		{"by one behind a hidden one", []impl.Entry{keyed(0, 6, inMatch(1)), keyed(0, 5, inMatch(1)), keyed(0, 4, oddMatch()), keyed(0, 3, inMatch(3))}, []int{1, 3}},
		{"both cover each other", []impl.Entry{keyed(0, 6, inMatch(1)), keyed(0, 5, inMatch(1))}, []int{1}},
		{"three cover each other", []impl.Entry{keyed(3, 6, openMatch()), keyed(3, 5, openMatch()), keyed(3, 4, openMatch())}, []int{1, 2}},
		{"two together cover", []impl.Entry{keyed(0, 6, fieldMatch(0, 0, 1)), keyed(0, 6, oddMatch()), keyed(0, 5, openMatch())}, nil},
		{"they meet alone", []impl.Entry{keyed(0, 6, inMatch(1)), keyed(0, 5, dstMatch(1)), keyed(0, 4, oddMatch())}, nil},
		{"in two epochs", []impl.Entry{keyed(0, 6, openMatch()), keyed(0, 5, inMatch(1)), keyed(4, 6, inMatch(1)), keyed(4, 5, inMatch(1)), keyed(4, 5, openMatch()), keyed(4, 5, inMatch(2))}, []int{1, 3, 5}},
	} {
		if got := checkHidden(t, tableOf(400, c.l...)); !slices.Equal(got, c.want) {
			t.Errorf("%s: %v, not %v", c.what, got, c.want)
		}
	}
}

func TestHidden(t *testing.T) {
	for _, x := range smallTables(4) {
		checkHidden(t, x)
	}
	for _, x := range rightTables() {
		if len(x.Entries) < 100 {
			checkHidden(t, x)
		}
	}
	for _, x := range append(wrongTables(), fewWrongTables()...) {
		if got := checkHidden(t, x); len(got) > 0 {
			t.Errorf("of a wrong table of %d entries: %v", len(x.Entries), got)
		}
	}
	// Nothing but the two that are alike is wrong, and one of them covers the last.
	if got := impl.Hidden(tableOf(9, keyed(0, 5, openMatch()), keyed(0, 5, openMatch()), keyed(0, 4, inMatch(1)))); len(got) > 0 {
		t.Errorf("of a wrong table: %v", got)
	}
	checkApart(t, spots(impl.Hidden(tableOf(9, keyed(0, 5, openMatch()), keyed(0, 5, inMatch(1))))), spots(impl.Hidden(tableOf(9, keyed(0, 5, openMatch()), keyed(0, 5, inMatch(1))))))
}

func TestHiddenInLongTables(t *testing.T) {
	l := sameRank(399)
	if got := impl.Hidden(tableOf(400, l...)); len(got) > 0 {
		t.Errorf("none of them covers another: %v", got)
	}
	front := append([]impl.Entry{keyed(3, 8, openMatch())}, l...)
	if got := impl.Hidden(tableOf(400, front...)); len(got) != 399 || got[0] != 1 || got[398] != 399 || !slices.IsSorted(got) {
		t.Errorf("all but the first are covered: %d of them", len(got))
	}
	back := append(slices.Clone(l), keyed(3, 6, dstMatch(200*65537)))
	if got := impl.Hidden(tableOf(400, back...)); !slices.Equal(got, []int{399}) {
		t.Errorf("only the last is covered: %v", got)
	}
}

// drawnTable has up to room entries of a few ranks, over the matches of a group of bits.
func drawnTable(next func() int, matches []impl.Match, room int) impl.Table {
	x := impl.Table{Cap: room}
	for range next() % (room + 1) {
		x, _ = addSpelled(x, impl.Entry{Epoch: next() % 3, Prio: next() % 4, Match: matches[next()%len(matches)], Acts: scatteredActs(next), Hits: next() % 9})
	}
	return x
}

// No packet finds a hidden entry, over all settings of the bits that are asked.
func TestLookupIsNeverHidden(t *testing.T) {
	next := scatter(71)
	found, covered := 0, 0
	for _, group := range bitGroups() {
		matches := matchesOn(group)
		heads := headsOn(group, scatteredHead(next))
		for range 200 {
			x := drawnTable(next, matches, 14)
			hidden := checkHidden(t, x)
			covered += len(hidden)
			for epoch := range 3 {
				for _, h := range heads {
					at := impl.Lookup(x, epoch, h)
					if slices.Contains(hidden, at) {
						t.Fatalf("%v finds the hidden entry %d", h.V, at)
					}
					if at >= 0 {
						found++
					}
				}
			}
		}
	}
	if found < 5000 || covered < 500 {
		t.Errorf("only %d are found, %d are hidden", found, covered)
	}
}

// Without the hidden entries each packet finds the same entry.
func TestWithoutHidden(t *testing.T) {
	next := scatter(72)
	for _, group := range bitGroups() {
		matches := matchesOn(group)
		heads := headsOn(group, scatteredHead(next))
		for range 20 {
			x := drawnTable(next, matches, 15)
			bare := impl.Table{Cap: x.Cap}
			hidden := impl.Hidden(x)
			for i, e := range x.Entries {
				if !slices.Contains(hidden, i) {
					bare.Entries = append(bare.Entries, e)
				}
			}
			for _, h := range heads {
				i, j := impl.Lookup(x, 1, h), impl.Lookup(bare, 1, h)
				if (i < 0) != (j < 0) || i >= 0 && !sameEntry(x.Entries[i], bare.Entries[j]) {
					t.Fatalf("%v finds another entry without the hidden ones", h.V)
				}
			}
		}
	}
}

// What was put in is found by what it hits where nothing ahead hits; taken out strictly it is gone.
func TestPutInAndTakenOut(t *testing.T) {
	next := scatter(73)
	seen, gone := 0, 0
	for range 1500 {
		group := bitGroups()[next()%6]
		matches := matchesOn(group)
		x := drawnTable(next, matches, 10)
		e := impl.Entry{Epoch: next() % 3, Prio: next() % 4, Match: matches[next()%81], Acts: scatteredActs(next), Hits: 50}
		y, code := checkAdd(t, x, e)
		if code != 0 {
			continue
		}
		z, n := impl.TableDelete(y, e.Match, e.Prio, true)
		if n < 1 || n > 3 || slices.ContainsFunc(z.Entries, func(f impl.Entry) bool { return sameKey(f, e) }) {
			t.Fatalf("taken out: %d", n)
		}
		gone++
		for _, h := range headsOn(group, scatteredHead(next)) {
			at := impl.Lookup(y, e.Epoch, h)
			if !hitsSpelled(e.Match, h) {
				continue
			}
			if at < 0 {
				t.Fatalf("%v finds nothing, but %v was put in", h.V, e)
			}
			first := y.Entries[at]
			if !sameEntry(first, e) && isAhead(e, first) {
				t.Fatalf("%v finds %v, ahead of which %v was put", h.V, first, e)
			}
			if sameEntry(first, e) {
				seen++
			}
			if back := impl.Lookup(z, e.Epoch, h); back >= 0 && sameKey(z.Entries[back], e) {
				t.Fatalf("%v finds what was taken out", h.V)
			}
		}
	}
	if seen < 1000 || gone < 1000 {
		t.Errorf("only %d are found, %d taken out", seen, gone)
	}
}

// playStep does one thing to the table of the play and to the plain list, and asks that both stay alike.
func playStep(t *testing.T, x impl.Table, plain impl.Table, matches []impl.Match, next func() int) (impl.Table, impl.Table) {
	t.Helper()
	m := matches[next()%len(matches)]
	switch kind := next() % 40; {
	case kind < 24:
		e := impl.Entry{Epoch: next() % 3, Prio: next() % 3, Match: m, Acts: scatteredActs(next), Hits: next() % 3 * (impl.MaxHits / 2)}
		out, code := impl.TableAdd(x, e)
		want, wantCode := addSpelled(plain, e)
		if code != wantCode {
			t.Fatalf("put in: code %d, not %d", code, wantCode)
		}
		if code == 0 {
			return out, want
		}
		return x, plain
	case kind < 28:
		strict, prio := next()%4 > 0, next()%3
		out, n := impl.TableDelete(x, m, prio, strict)
		want, wantN := deleteSpelled(plain, m, prio, strict)
		if n != wantN {
			t.Fatalf("taken out: %d, not %d", n, wantN)
		}
		return out, want
	case kind < 29:
		epoch := next() % 4
		out, n := impl.TableKeep(x, epoch)
		want, wantN := keepSpelled(plain, epoch)
		if n != wantN {
			t.Fatalf("kept: %d went, not %d", n, wantN)
		}
		return out, want
	default:
		i := next()%(len(plain.Entries)+2) - 1
		out, ok := impl.Touch(x, i)
		want, wantOk := touchSpelled(plain, i)
		if ok != wantOk {
			t.Fatalf("touched: %v, not %v", ok, wantOk)
		}
		if ok {
			return out, want
		}
		return x, plain
	}
}

func TestTablePlay(t *testing.T) {
	next := scatter(74)
	most := 0
	for _, room := range []int{0, 1, 3, 10, 40, 200} {
		group := bitGroups()[next()%6]
		matches := append(matchesOn(group), rightMatches()[3:20]...)
		x, plain := impl.Table{Cap: room}, impl.Table{Cap: room}
		for step := range 700 {
			x, plain = playStep(t, x, plain, matches, next)
			if !sameTable(x, plain) || !impl.TableOk(x) || !tableRight(plain) {
				t.Fatalf("a table of %d, step %d: the table isn't the plain list", room, step)
			}
			h := headsOn(group, scatteredHead(next))[next()%16]
			epoch := next() % 3
			if got, want := impl.Lookup(x, epoch, h), lookupSpelled(plain, epoch, h); got != want {
				t.Fatalf("a table of %d, step %d: found at %d, not at %d", room, step, got, want)
			}
			if step%20 == 0 {
				checkHidden(t, x)
			}
			most = max(most, len(x.Entries))
		}
	}
	if most < 30 {
		t.Errorf("no table of the play had more than %d entries", most)
	}
}

// What stays shares no memory with what was given, in long tables too, and calls leave each other alone.
func TestTablesNewMemory(t *testing.T) {
	x := tableOf(400, ladder(60)...)
	given := tableSpots(x)
	var all []any
	added, _ := impl.TableAdd(x, keyed(2, 3, inMatch(4)))
	instead, _ := impl.TableAdd(x, ladder(60)[30])
	kept, _ := impl.TableKeep(x, 4)
	less, _ := impl.TableDelete(x, dstMatch(1), 0, false)
	same, _ := impl.TableDelete(x, inMatch(9), 0, false)
	strictly, _ := impl.TableDelete(x, dstMatch(1), 3, true)
	touched, _ := impl.Touch(x, 59)
	for _, out := range []impl.Table{added, instead, kept, less, same, strictly, touched} {
		if len(out.Entries) < 6 {
			t.Errorf("%d entries", len(out.Entries))
		}
		all = append(all, tableSpots(out)...)
	}
	checkApart(t, given, all)
	before := copiedTable(x)
	for _, out := range []impl.Table{added, instead, kept, less, same, strictly, touched} {
		for i := range out.Entries {
			out.Entries[i].Match.V[0], out.Entries[i].Match.M[1] = 99, 98
			for j := range out.Entries[i].Acts {
				out.Entries[i].Acts[j] = impl.Act{Kind: 97}
			}
			out.Entries[i].Hits = 96
		}
	}
	if !sameTable(x, before) {
		t.Error("an answer shares memory with the argument")
	}
}
