package tests

import (
	"fmt"
	"math"
	"slices"
	"testing"

	"loop.example/g00391/impl"
)

func relOf(arity int, rows ...impl.Row) impl.Rel { return impl.Rel{Arity: arity, Rows: rows} }

// numRel has one column with these numbers.
func numRel(l ...int) impl.Rel {
	r := relOf(1)
	for _, n := range l {
		r.Rows = append(r.Rows, rowOf(num(n)))
	}
	return r
}

func copyRow(r impl.Row) impl.Row { return rowOf(slices.Clone(r.V)...) }

func copyRel(r impl.Rel) impl.Rel {
	out := relOf(r.Arity)
	for _, row := range r.Rows {
		out.Rows = append(out.Rows, copyRow(row))
	}
	return out
}

func sameRel(a impl.Rel, b impl.Rel) bool {
	return a.Arity == b.Arity && slices.EqualFunc(a.Rows, b.Rows, sameRow)
}

func noRel(r impl.Rel) bool { return r.Arity == 0 && len(r.Rows) == 0 }

// relShown tells a relation whatever its rows and their number.
func relShown(r impl.Rel) string {
	s := fmt.Sprintf("arity %d:", r.Arity)
	for _, row := range r.Rows[:min(len(r.Rows), 6)] {
		s += " " + shown(row.V...)
	}
	if len(r.Rows) > 6 {
		s += fmt.Sprintf(" and %d more", len(r.Rows)-6)
	}
	return s
}

// rowFits is what RelOk, RelAdd and RelDrop ask of a row by the document's words.
func rowFits(arity int, row impl.Row) bool { return rowRight(row) && len(row.V) == arity }

func relRight(r impl.Rel) bool {
	if r.Arity < 0 || r.Arity > 6 || len(r.Rows) > 300 {
		return false
	}
	for i, row := range r.Rows {
		if !rowFits(r.Arity, row) || i > 0 && rowOrderSpelled(r.Rows[i-1], row) != -1 {
			return false
		}
	}
	return true
}

func oneOf(rows []impl.Row, row impl.Row) bool {
	return slices.ContainsFunc(rows, func(x impl.Row) bool { return sameRow(x, row) })
}

// gathered is the relation of these rows, in whatever order and how often they come.
func gathered(arity int, rows ...impl.Row) impl.Rel {
	out := copyRel(relOf(arity, rows...))
	slices.SortFunc(out.Rows, rowOrderSpelled)
	out.Rows = slices.CompactFunc(out.Rows, sameRow)
	return out
}

func relAddSpelled(r impl.Rel, row impl.Row) (impl.Rel, int) {
	switch there := oneOf(r.Rows, row); {
	case !relRight(r) || !rowFits(r.Arity, row):
		return impl.Rel{}, 1
	case len(r.Rows) == 300 && !there:
		return impl.Rel{}, 2
	case there:
		return copyRel(r), 0
	}
	out := copyRel(r)
	at := 0
	for at < len(r.Rows) && rowOrderSpelled(r.Rows[at], row) == -1 {
		at++
	}
	out.Rows = slices.Insert(out.Rows, at, copyRow(row))
	return out, 0
}

func relDropSpelled(r impl.Rel, row impl.Row) (impl.Rel, int) {
	if !relRight(r) || !rowFits(r.Arity, row) {
		return impl.Rel{}, 1
	}
	out := copyRel(r)
	out.Rows = slices.DeleteFunc(out.Rows, func(x impl.Row) bool { return sameRow(x, row) })
	return out, 0
}

// setCall is a function of two relations, and which rows of a and of b it answers by the document's words.
type setCall struct {
	name  string
	call  func(a impl.Rel, b impl.Rel) (impl.Rel, bool)
	stays func(inA bool, inB bool) bool
}

func setCalls() []setCall {
	return []setCall{
		{"RelUnion", impl.RelUnion, func(inA bool, inB bool) bool { return inA || inB }},
		{"RelMinus", impl.RelMinus, func(inA bool, inB bool) bool { return inA && !inB }},
		{"RelBoth", impl.RelBoth, func(inA bool, inB bool) bool { return inA && inB }},
	}
}

func (c setCall) spelled(a impl.Rel, b impl.Rel) (impl.Rel, bool) {
	if !relRight(a) || !relRight(b) || a.Arity != b.Arity {
		return impl.Rel{}, false
	}
	var rows []impl.Row
	for _, row := range a.Rows {
		if c.stays(true, oneOf(b.Rows, row)) {
			rows = append(rows, row)
		}
	}
	for _, row := range b.Rows {
		if c.stays(oneOf(a.Rows, row), true) {
			rows = append(rows, row)
		}
	}
	out := gathered(a.Arity, rows...)
	if len(out.Rows) > 300 {
		return impl.Rel{}, false
	}
	return out, true
}

func relSpots(r impl.Rel) []any {
	out := spots(r.Rows)
	for _, row := range r.Rows[:cap(r.Rows)] {
		out = append(out, spots(row.V)...)
	}
	return out
}

// underRel hands a relation with spare room behind its rows and behind their values to a call, and asks that the call changed nothing of it.
func underRel(t *testing.T, given impl.Rel, call func(arg impl.Rel)) {
	t.Helper()
	mark, markRow := impl.Value{N: 77, S: "mark"}, rowOf(num(77))
	wholes := make([][]impl.Value, len(given.Rows))
	rows := make([]impl.Row, len(given.Rows))
	for i, row := range given.Rows {
		rows[i].V, wholes[i] = roomyList(row.V, mark)
	}
	l, whole := roomyList(rows, markRow)
	call(relOf(given.Arity, l...))
	ok := slices.EqualFunc(whole, append(slices.Clone(given.Rows), markRow, markRow, markRow), sameRow)
	for i, row := range given.Rows {
		ok = ok && slices.Equal(wholes[i], append(slices.Clone(row.V), mark, mark, mark))
	}
	if !ok {
		t.Errorf("a relation that was given was changed: %s", relShown(given))
	}
}

// checkAnswer asks that an answer is right and shares no memory with what was given, nor within itself.
func checkAnswer(t *testing.T, got impl.Rel, ok bool, given ...[]any) {
	t.Helper()
	if ok && !impl.RelOk(got) {
		t.Errorf("an answer isn't right: %s", relShown(got))
	}
	if !ok && !noRel(got) {
		t.Errorf("beside what was refused stands %s", relShown(got))
	}
	checkApart(t, slices.Concat(given...), relSpots(got))
}

func checkRelOk(t *testing.T, r impl.Rel) bool {
	t.Helper()
	got := false
	underRel(t, r, func(arg impl.Rel) { got = impl.RelOk(arg) })
	if got != relRight(r) {
		t.Errorf("RelOk of %s: %v", relShown(r), got)
	}
	return got
}

func checkHas(t *testing.T, r impl.Rel, row impl.Row) bool {
	t.Helper()
	got := false
	underRel(t, r, func(x impl.Rel) {
		underRow(t, row, func(y impl.Row) { got = impl.RelHas(x, y) })
	})
	if want := relRight(r) && oneOf(r.Rows, row); got != want {
		t.Errorf("RelHas of %s in %s: %v", shown(row.V...), relShown(r), got)
	}
	return got
}

// checkRowCall holds RelAdd or RelDrop against the document's words.
func checkRowCall(t *testing.T, name string, r impl.Rel, row impl.Row) (impl.Rel, int) {
	t.Helper()
	call, spelled := impl.RelAdd, relAddSpelled
	if name == "RelDrop" {
		call, spelled = impl.RelDrop, relDropSpelled
	}
	var got impl.Rel
	code := 0
	underRel(t, r, func(x impl.Rel) {
		underRow(t, row, func(y impl.Row) {
			got, code = call(x, y)
			checkAnswer(t, got, code == 0, relSpots(x), spots(y.V))
		})
	})
	if want, wantCode := spelled(r, row); code != wantCode || !sameRel(got, want) {
		t.Errorf("%s of %s and %s: %s, code %d, not %s, code %d", name, relShown(r), shown(row.V...), relShown(got), code, relShown(want), wantCode)
	}
	return got, code
}

func checkSetCall(t *testing.T, c setCall, a impl.Rel, b impl.Rel) (impl.Rel, bool) {
	t.Helper()
	var got impl.Rel
	ok := false
	underRel(t, a, func(x impl.Rel) {
		underRel(t, b, func(y impl.Rel) {
			got, ok = c.call(x, y)
			checkAnswer(t, got, ok, relSpots(x), relSpots(y))
		})
	})
	if want, wantOk := c.spelled(a, b); ok != wantOk || !sameRel(got, want) {
		t.Errorf("%s of %s and %s: %s %v, not %s %v", c.name, relShown(a), relShown(b), relShown(got), ok, relShown(want), wantOk)
	}
	return got, ok
}

func checkSameRel(t *testing.T, a impl.Rel, b impl.Rel) bool {
	t.Helper()
	got := false
	underRel(t, a, func(x impl.Rel) {
		underRel(t, b, func(y impl.Rel) { got = impl.SameRel(x, y) })
	})
	if want := relRight(a) && relRight(b) && sameRel(a, b); got != want {
		t.Errorf("SameRel of %s and %s: %v", relShown(a), relShown(b), got)
	}
	return got
}

// countedRow has arity values, and rows of greater n are greater.
func countedRow(arity int, n int) impl.Row {
	row := mixedRow(arity)
	if arity > 0 {
		row.V[arity-1] = num(10 * n)
	}
	return row
}

// countedRel has n rows, so that there is room ahead of, between and behind them.
func countedRel(arity int, n int) impl.Rel {
	r := relOf(arity)
	for i := range n {
		r.Rows = append(r.Rows, countedRow(arity, i+1))
	}
	return r
}

// rightRels has no great relations, so that all pairs of them can be tried.
func rightRels() []impl.Rel {
	l := []impl.Rel{relOf(0, impl.Row{}), relOf(0, rowOf([]impl.Value{}...))}
	for arity := range impl.MaxArity + 1 {
		l = append(l, relOf(arity), impl.Rel{Arity: arity, Rows: []impl.Row{}}, relOf(arity, mixedRow(arity)))
	}
	for arity := 1; arity <= impl.MaxArity; arity++ {
		l = append(l, countedRel(arity, 1), countedRel(arity, 2), countedRel(arity, 5))
	}
	return append(l,
		relOf(1, rowOf(num(9)), rowOf(num(10)), rowOf(word("a"))), relOf(1, rowOf(num(impl.MaxNum)), rowOf(word("a"))), relOf(1, rowOf(word("a")), rowOf(word("a0"))),
		relOf(2, rowOf(num(1), word("z")), rowOf(num(2), num(0)), rowOf(word("a"), num(0))), relOf(2, rowOf(num(1), num(9)), rowOf(num(1), word("a"))),
		relOf(2, rowOf(word("n10"), num(1)), rowOf(word("n9"), num(0))), numRel(0, 1, 2, 3), numRel(20, 30, 40), numRel(5, 10, 15, 20, 25, 30, 35, 40, 45, 50, 55))
}

// swapped has the rows at two places the other way round.
func swapped(r impl.Rel, i int, j int) impl.Rel {
	out := copyRel(r)
	out.Rows[i], out.Rows[j] = out.Rows[j], out.Rows[i]
	return out
}

func rowPut(r impl.Rel, at int, row impl.Row) impl.Rel {
	out := copyRel(r)
	out.Rows[at] = row
	return out
}

func rowBetween(r impl.Rel, at int, row impl.Row) impl.Rel {
	out := copyRel(r)
	out.Rows = slices.Insert(out.Rows, at, copyRow(row))
	return out
}

// badArities stand beside no row and beside a row that has as many values.
func badArities() []impl.Rel {
	l := []impl.Rel{}
	for _, arity := range []int{-1, -2, -6, impl.MaxArity + 1, impl.MaxArity + 2, 300, 1 << 32, math.MinInt, math.MinInt + 1, math.MaxInt} {
		l = append(l, relOf(arity), relOf(arity, impl.Row{}), relOf(arity, mixedRow(1)))
		if arity > 0 && arity <= 300 {
			l = append(l, relOf(arity, mixedRow(arity)))
		}
	}
	return l
}

// badRows spoil one row, at the first, the last and a place in the midst.
func badRows() []impl.Rel {
	l := []impl.Rel{relOf(0, impl.Row{}, impl.Row{}), relOf(0, rowOf(num(0))), relOf(0, impl.Row{}, rowOf(num(0)))}
	for arity := 1; arity <= impl.MaxArity; arity++ {
		r := countedRel(arity, 3)
		for at := range 3 {
			row := r.Rows[at]
			for _, v := range []impl.Value{num(-1), num(impl.MaxNum + 1), num(math.MinInt), word("A"), word("abcdefghijklm"), word("7"), {N: 1, S: "a"}} {
				l = append(l, rowPut(r, at, rowWith(row, 0, v)), rowPut(r, at, rowWith(row, arity-1, v)))
			}
			more := append(slices.Clone(row.V), num(1))
			l = append(l, rowPut(r, at, rowOf(more...)), rowPut(r, at, rowOf(row.V[:arity-1]...)), rowPut(r, at, impl.Row{}), rowPut(r, at, mixedRow(1000)))
			l = append(l, rowBetween(r, at, row))
		}
		l = append(l, swapped(r, 0, 1), swapped(r, 1, 2), swapped(r, 0, 2))
	}
	return append(l,
		relOf(1, rowOf(word("a")), rowOf(num(9))), relOf(1, rowOf(num(10)), rowOf(num(9))), relOf(1, rowOf(word("a0")), rowOf(word("a"))), relOf(1, rowOf(num(-2)), rowOf(num(-1))),
		relOf(2, rowOf(num(1), word("a")), rowOf(num(1), num(9))), relOf(2, rowOf(num(2), num(0)), rowOf(num(1), num(5))), relOf(1, rowOf(word("A")), rowOf(word("B"))))
}

func wrongRels() []impl.Rel { return append(badArities(), badRows()...) }

// fewWrongRels has one of each kind.
func fewWrongRels() []impl.Rel {
	return []impl.Rel{
		relOf(-1), relOf(7), relOf(math.MinInt), relOf(math.MaxInt), relOf(-1, impl.Row{}), relOf(7, mixedRow(7)), relOf(0, impl.Row{}, impl.Row{}), relOf(0, rowOf(num(0))),
		numRel(30, 20), numRel(20, 20), numRel(-1, 20), numRel(20, impl.MaxNum+1), relOf(1, rowOf(word("A"))), relOf(1, rowOf(num(1), num(2))), relOf(1, impl.Row{}),
		relOf(2, rowOf(num(1))), swapped(countedRel(2, 5), 3, 4), rowPut(countedRel(2, 5), 4, mixedRow(3)), rowPut(countedRel(6, 2), 1, mixedRow(7)),
	}
}

func TestRelConstants(t *testing.T) {
	if impl.MaxRows != 300 {
		t.Errorf("MaxRows is %d", impl.MaxRows)
	}
}

func TestRelOk(t *testing.T) {
	for _, r := range rightRels() {
		if !checkRelOk(t, r) {
			t.Errorf("%s isn't taken for a relation", relShown(r))
		}
	}
	for _, r := range wrongRels() {
		if checkRelOk(t, r) {
			t.Errorf("%s is taken for a relation", relShown(r))
		}
	}
	if !impl.RelOk(impl.Rel{}) {
		t.Error("the zero relation is one without columns and rows")
	}
}

func TestRelOkArities(t *testing.T) {
	for arity := -10; arity <= 20; arity++ {
		if got := impl.RelOk(relOf(arity)); got != (arity >= 0 && arity <= 6) {
			t.Errorf("RelOk with the arity %d and no row: %v", arity, got)
		}
		for size := range 12 {
			if got := impl.RelOk(relOf(arity, mixedRow(size))); got != (arity == size && size <= 6) {
				t.Errorf("RelOk with the arity %d and a row of %d values: %v", arity, size, got)
			}
		}
	}
}

func TestRelOkWithoutColumns(t *testing.T) {
	for rows, want := range map[int]bool{0: true, 1: true, 2: false, 3: false, impl.MaxRows: false, impl.MaxRows + 1: false} {
		if got := checkRelOk(t, relOf(0, make([]impl.Row, rows)...)); got != want {
			t.Errorf("RelOk with %d rows without values: %v", rows, got)
		}
	}
}

func TestRelOkHowManyRows(t *testing.T) {
	for arity := 1; arity <= impl.MaxArity; arity++ {
		for rows, want := range map[int]bool{0: true, 1: true, impl.MaxRows - 1: true, impl.MaxRows: true, impl.MaxRows + 1: false, impl.MaxRows + 2: false, 2000: false} {
			if got := checkRelOk(t, countedRel(arity, rows)); got != want {
				t.Errorf("RelOk with the arity %d and %d rows: %v", arity, rows, got)
			}
		}
	}
}

// TestRelOkSpoiledAnywhere spoils a full relation at each place, in each way.
func TestRelOkSpoiledAnywhere(t *testing.T) {
	for _, arity := range []int{1, 2, impl.MaxArity} {
		full := countedRel(arity, impl.MaxRows)
		for at := range full.Rows {
			row := full.Rows[at]
			for _, bad := range []impl.Row{rowWith(row, 0, num(-1)), rowWith(row, arity-1, word("A")), rowOf(row.V[1:]...), rowOf(append(slices.Clone(row.V), num(0))...)} {
				full.Rows[at] = bad
				if impl.RelOk(full) {
					t.Errorf("RelOk with %s at place %d", shown(bad.V...), at)
				}
			}
			if at > 0 {
				ahead := full.Rows[at-1]
				full.Rows[at] = ahead
				if impl.RelOk(full) {
					t.Errorf("RelOk with equal rows at place %d", at)
				}
				full.Rows[at-1] = row
				if impl.RelOk(full) {
					t.Errorf("RelOk with falling rows at place %d", at)
				}
				full.Rows[at-1] = ahead
			}
			full.Rows[at] = row
			if !impl.RelOk(full) {
				t.Fatalf("RelOk of the whole behind place %d", at)
			}
		}
	}
}

func TestRelOkKindsInOneColumn(t *testing.T) {
	values := []impl.Value{num(0), num(9), num(10), num(impl.MaxNum), word("a"), word("a0"), word("aa"), word("b"), word("zzzzzzzzzzzz")}
	for i, a := range values {
		for j, b := range values {
			for at := range 3 {
				r := relOf(3, rowWith(mixedRow(3), at, a), rowWith(mixedRow(3), at, b))
				if got := impl.RelOk(r); got != (i < j) {
					t.Errorf("RelOk of %s: %v", relShown(r), got)
				}
			}
		}
	}
}

func TestRelHas(t *testing.T) {
	r := numRel(3, 5, 9, 12, 40)
	for n := range 60 {
		want := n == 3 || n == 5 || n == 9 || n == 12 || n == 40
		if got := checkHas(t, r, rowOf(num(n))); got != want {
			t.Errorf("RelHas of %d: %v", n, got)
		}
	}
	for _, row := range []impl.Row{{}, rowOf(num(3), num(5)), rowOf(num(-1)), rowOf(word("a")), rowOf(word("A")), rowOf(word("3")), rowOf(impl.Value{N: 3, S: "a"}), mixedRow(7), mixedRow(5000)} {
		if checkHas(t, r, row) {
			t.Errorf("RelHas of %s", shown(row.V...))
		}
	}
	if !impl.RelHas(relOf(0, impl.Row{}), impl.Row{}) || impl.RelHas(relOf(0), impl.Row{}) || impl.RelHas(relOf(0, impl.Row{}), rowOf(num(0))) {
		t.Error("RelHas without columns")
	}
}

func TestRelHasEveryPlace(t *testing.T) {
	for _, arity := range []int{1, 3, impl.MaxArity} {
		for _, size := range []int{0, 1, 2, 3, 4, 7, 8, 100, impl.MaxRows - 1, impl.MaxRows} {
			r := countedRel(arity, size)
			for i := range size + 2 {
				row := countedRow(arity, i)
				if got := impl.RelHas(r, row); got != (i >= 1 && i <= size) {
					t.Errorf("RelHas of row %d of %d: %v", i, size, got)
				}
				if row.V[arity-1].N++; impl.RelHas(r, row) {
					t.Errorf("RelHas of what stands behind row %d of %d", i, size)
				}
			}
		}
	}
}

// TestRelHasInWhatIsWrong asks for rows that are there, right and wrong ones.
func TestRelHasInWhatIsWrong(t *testing.T) {
	for _, r := range append(wrongRels(), countedRel(1, impl.MaxRows+1), countedRel(2, 1000)) {
		for _, row := range append(slices.Clone(r.Rows[:min(len(r.Rows), 5)]), impl.Row{}, mixedRow(1)) {
			if checkHas(t, r, row) {
				t.Errorf("RelHas of %s in %s", shown(row.V...), relShown(r))
			}
		}
	}
}

func TestRelAddByHand(t *testing.T) {
	r := numRel(10, 20, 30)
	for _, c := range []struct {
		r    impl.Rel
		row  impl.Row
		want impl.Rel
		code int
	}{
		{r, rowOf(num(0)), numRel(0, 10, 20, 30), 0}, {r, rowOf(num(10)), r, 0}, {r, rowOf(num(15)), numRel(10, 15, 20, 30), 0}, {r, rowOf(num(20)), r, 0},
		{r, rowOf(num(25)), numRel(10, 20, 25, 30), 0}, {r, rowOf(num(30)), r, 0}, {r, rowOf(num(31)), numRel(10, 20, 30, 31), 0},
		{r, rowOf(num(9)), numRel(9, 10, 20, 30), 0}, {r, rowOf(word("a")), relOf(1, rowOf(num(10)), rowOf(num(20)), rowOf(num(30)), rowOf(word("a"))), 0},
		{relOf(1, rowOf(word("n9"))), rowOf(word("n10")), relOf(1, rowOf(word("n10")), rowOf(word("n9"))), 0}, {relOf(1, rowOf(word("a"))), rowOf(num(1)), relOf(1, rowOf(num(1)), rowOf(word("a"))), 0},
		{relOf(1), rowOf(num(7)), numRel(7), 0}, {relOf(0), impl.Row{}, relOf(0, impl.Row{}), 0}, {relOf(0, impl.Row{}), impl.Row{}, relOf(0, impl.Row{}), 0},
		{relOf(2, rowOf(num(1), num(9))), rowOf(num(2), num(0)), relOf(2, rowOf(num(1), num(9)), rowOf(num(2), num(0))), 0}, {relOf(6), mixedRow(6), relOf(6, mixedRow(6)), 0},
		{r, impl.Row{}, impl.Rel{}, 1}, {r, rowOf(num(10), num(20)), impl.Rel{}, 1}, {r, rowOf(num(-1)), impl.Rel{}, 1}, {r, rowOf(num(impl.MaxNum + 1)), impl.Rel{}, 1},
		{r, rowOf(word("A")), impl.Rel{}, 1}, {r, rowOf(impl.Value{N: 10, S: "a"}), impl.Rel{}, 1}, {relOf(0), rowOf(num(0)), impl.Rel{}, 1}, {relOf(6), mixedRow(7), impl.Rel{}, 1},
		{relOf(-1), impl.Row{}, impl.Rel{}, 1}, {relOf(7), mixedRow(7), impl.Rel{}, 1}, {numRel(20, 10), rowOf(num(10)), impl.Rel{}, 1}, {numRel(10, 10), rowOf(num(10)), impl.Rel{}, 1},
		{numRel(20, 10), rowOf(num(30)), impl.Rel{}, 1}, {relOf(0, impl.Row{}, impl.Row{}), impl.Row{}, impl.Rel{}, 1}, {relOf(1, rowOf(word("A"))), rowOf(num(1)), impl.Rel{}, 1},
	} {
		if got, code := checkRowCall(t, "RelAdd", c.r, c.row); code != c.code || !sameRel(got, c.want) {
			t.Errorf("RelAdd of %s and %s: %s, code %d", relShown(c.r), shown(c.row.V...), relShown(got), code)
		}
	}
}

// TestRelAddWhereFull has the order of the codes: what isn't right is told ahead of what is full.
func TestRelAddWhereFull(t *testing.T) {
	for _, arity := range []int{1, 2, impl.MaxArity} {
		full := countedRel(arity, impl.MaxRows)
		for _, at := range []int{0, 1, 2, 149, 150, 298, 299} {
			if got, code := checkRowCall(t, "RelAdd", full, full.Rows[at]); code != 0 || !sameRel(got, full) {
				t.Errorf("a row that is there, at place %d: code %d", at, code)
			}
			between := copyRow(full.Rows[at])
			between.V[arity-1].N++
			if got, code := checkRowCall(t, "RelAdd", full, between); code != 2 || !noRel(got) {
				t.Errorf("a new row behind place %d: code %d", at, code)
			}
		}
		for _, row := range []impl.Row{countedRow(arity, 0), countedRow(arity, impl.MaxRows+1), rowOf(slices.Repeat([]impl.Value{word("z")}, arity)...), rowOf(make([]impl.Value, arity)...)} {
			if _, code := checkRowCall(t, "RelAdd", full, row); code != 2 {
				t.Errorf("%s into what is full: code %d", shown(row.V...), code)
			}
		}
		for _, row := range []impl.Row{{}, mixedRow(arity + 1), mixedRow(arity - 1), rowWith(full.Rows[0], 0, num(-1)), rowWith(full.Rows[0], arity-1, word("A")), mixedRow(7)} {
			if _, code := checkRowCall(t, "RelAdd", full, row); code != 1 {
				t.Errorf("%s into what is full: code %d", shown(row.V...), code)
			}
		}
		if _, code := checkRowCall(t, "RelAdd", swapped(full, 0, 1), countedRow(arity, 0)); code != 1 {
			t.Errorf("into what is full and falls: code %d", code)
		}
		if _, code := checkRowCall(t, "RelAdd", countedRel(arity, impl.MaxRows+1), full.Rows[3]); code != 1 {
			t.Errorf("into what is too full, of a row that is there: code %d", code)
		}
	}
}

func TestRelAddTheLastRow(t *testing.T) {
	for _, arity := range []int{1, impl.MaxArity} {
		nearly := countedRel(arity, impl.MaxRows-1)
		for _, n := range []int{0, impl.MaxRows, 5000} {
			got, code := checkRowCall(t, "RelAdd", nearly, countedRow(arity, n))
			if code != 0 || len(got.Rows) != impl.MaxRows {
				t.Errorf("row %d put in last: code %d, %d rows", n, code, len(got.Rows))
			}
		}
		between := countedRow(arity, 150)
		between.V[arity-1].N--
		if got, code := checkRowCall(t, "RelAdd", nearly, between); code != 0 || len(got.Rows) != impl.MaxRows {
			t.Errorf("a row in the midst put in last: code %d, %d rows", code, len(got.Rows))
		}
		if got, code := checkRowCall(t, "RelAdd", nearly, nearly.Rows[7]); code != 0 || len(got.Rows) != impl.MaxRows-1 {
			t.Errorf("a row that is there put in last: code %d, %d rows", code, len(got.Rows))
		}
	}
}

func TestRelDropByHand(t *testing.T) {
	r := numRel(10, 20, 30)
	for _, c := range []struct {
		r    impl.Rel
		row  impl.Row
		want impl.Rel
		code int
	}{
		{r, rowOf(num(10)), numRel(20, 30), 0}, {r, rowOf(num(20)), numRel(10, 30), 0}, {r, rowOf(num(30)), numRel(10, 20), 0},
		{r, rowOf(num(0)), r, 0}, {r, rowOf(num(15)), r, 0}, {r, rowOf(num(31)), r, 0}, {r, rowOf(word("a")), r, 0},
		{numRel(7), rowOf(num(7)), relOf(1), 0}, {relOf(1), rowOf(num(7)), relOf(1), 0}, {relOf(0, impl.Row{}), impl.Row{}, relOf(0), 0}, {relOf(0), impl.Row{}, relOf(0), 0},
		{relOf(3, mixedRow(3)), mixedRow(3), relOf(3), 0}, {relOf(6, mixedRow(6)), mixedRow(6), relOf(6), 0}, {relOf(2, rowOf(num(1), num(2))), rowOf(num(2), num(1)), relOf(2, rowOf(num(1), num(2))), 0},
		{r, impl.Row{}, impl.Rel{}, 1}, {r, rowOf(num(10), num(20)), impl.Rel{}, 1}, {r, rowOf(num(-1)), impl.Rel{}, 1}, {r, rowOf(word("A")), impl.Rel{}, 1}, {relOf(1), mixedRow(2), impl.Rel{}, 1},
		{r, rowOf(impl.Value{N: 10, S: "a"}), impl.Rel{}, 1}, {relOf(0, impl.Row{}), rowOf(num(0)), impl.Rel{}, 1}, {relOf(6), mixedRow(7), impl.Rel{}, 1}, {relOf(1), rowOf(num(-1)), impl.Rel{}, 1},
		{relOf(-1), impl.Row{}, impl.Rel{}, 1}, {relOf(7, mixedRow(7)), mixedRow(7), impl.Rel{}, 1}, {numRel(20, 10), rowOf(num(10)), impl.Rel{}, 1}, {numRel(10, 10), rowOf(num(10)), impl.Rel{}, 1},
		{relOf(0, impl.Row{}, impl.Row{}), impl.Row{}, impl.Rel{}, 1}, {numRel(-1), rowOf(num(-1)), impl.Rel{}, 1}, {countedRel(1, impl.MaxRows+1), countedRow(1, 5), impl.Rel{}, 1},
	} {
		if got, code := checkRowCall(t, "RelDrop", c.r, c.row); code != c.code || !sameRel(got, c.want) {
			t.Errorf("RelDrop of %s and %s: %s, code %d", relShown(c.r), shown(c.row.V...), relShown(got), code)
		}
	}
}

func TestRelDropEveryPlace(t *testing.T) {
	for _, arity := range []int{1, impl.MaxArity} {
		full := countedRel(arity, impl.MaxRows)
		for at := range full.Rows {
			got, code := impl.RelDrop(full, full.Rows[at])
			want := relOf(arity, append(slices.Clone(full.Rows[:at]), full.Rows[at+1:]...)...)
			if code != 0 || !sameRel(got, want) {
				t.Errorf("RelDrop at place %d: code %d, %d rows", at, code, len(got.Rows))
			}
		}
	}
}

// TestEveryRelAndRow tries right and wrong relations with rows of their own and with others.
func TestEveryRelAndRow(t *testing.T) {
	others := []impl.Row{{}, rowOf(num(0)), rowOf(num(25)), rowOf(word("m")), rowOf(num(-1)), rowOf(word("A")), mixedRow(2), mixedRow(6), mixedRow(7), mixedRow(3000), rowOf(num(10), word("w0")), rowWith(mixedRow(6), 5, num(25)), rowWith(mixedRow(6), 3, num(-1))}
	for _, r := range append(rightRels(), wrongRels()...) {
		for _, row := range append(slices.Clone(r.Rows), others...) {
			checkHas(t, r, row)
			checkRowCall(t, "RelAdd", r, row)
			checkRowCall(t, "RelDrop", r, row)
		}
	}
}

func TestSetCallsByHand(t *testing.T) {
	e, a, b := relOf(1), numRel(10, 20, 30), numRel(20, 30, 40)
	apart, one := numRel(15, 25, 35), relOf(0, impl.Row{})
	for _, c := range []struct {
		a, b, union, minus, both impl.Rel
	}{
		{e, e, e, e, e}, {a, e, a, a, e}, {e, a, a, e, e}, {a, a, a, e, a}, {a, copyRel(a), a, e, a},
		{a, b, numRel(10, 20, 30, 40), numRel(10), numRel(20, 30)}, {b, a, numRel(10, 20, 30, 40), numRel(40), numRel(20, 30)},
		{a, apart, numRel(10, 15, 20, 25, 30, 35), a, e}, {apart, a, numRel(10, 15, 20, 25, 30, 35), apart, e},
		{numRel(1, 2), a, numRel(1, 2, 10, 20, 30), numRel(1, 2), e}, {a, numRel(1, 2), numRel(1, 2, 10, 20, 30), a, e},
		{a, numRel(20), a, numRel(10, 30), numRel(20)}, {numRel(20), a, a, e, numRel(20)}, {a, numRel(10), a, numRel(20, 30), numRel(10)}, {a, numRel(30), a, numRel(10, 20), numRel(30)},
		{relOf(0), relOf(0), relOf(0), relOf(0), relOf(0)}, {one, relOf(0), one, one, relOf(0)}, {relOf(0), one, one, relOf(0), relOf(0)}, {one, one, one, relOf(0), one},
		{relOf(1, rowOf(num(9)), rowOf(word("a"))), relOf(1, rowOf(num(10)), rowOf(word("a0"))), relOf(1, rowOf(num(9)), rowOf(num(10)), rowOf(word("a")), rowOf(word("a0"))), relOf(1, rowOf(num(9)), rowOf(word("a"))), e},
		{relOf(2, rowOf(num(1), num(2))), relOf(2, rowOf(num(1), word("a"))), relOf(2, rowOf(num(1), num(2)), rowOf(num(1), word("a"))), relOf(2, rowOf(num(1), num(2))), relOf(2)},
		{countedRel(6, 3), countedRel(6, 5), countedRel(6, 5), relOf(6), countedRel(6, 3)}, {countedRel(6, 3), countedRel(6, 2), countedRel(6, 3), relOf(6, countedRow(6, 3)), countedRel(6, 2)},
	} {
		for i, want := range []impl.Rel{c.union, c.minus, c.both} {
			call := setCalls()[i]
			if got, ok := checkSetCall(t, call, c.a, c.b); !ok || !sameRel(got, want) {
				t.Errorf("%s of %s and %s: %s %v", call.name, relShown(c.a), relShown(c.b), relShown(got), ok)
			}
		}
	}
}

func TestSetCallsWhereWrong(t *testing.T) {
	rights := []impl.Rel{relOf(0), relOf(0, impl.Row{}), relOf(1), numRel(10, 20), countedRel(2, 5), countedRel(6, 2), countedRel(1, impl.MaxRows)}
	for _, c := range setCalls() {
		for _, w := range append(wrongRels(), countedRel(1, impl.MaxRows+1), countedRel(2, 5000)) {
			for _, r := range append(slices.Clone(rights), w) {
				for _, pair := range [][2]impl.Rel{{w, r}, {r, w}} {
					if got, ok := c.call(pair[0], pair[1]); ok || !noRel(got) {
						t.Errorf("%s of %s and %s: %s %v", c.name, relShown(pair[0]), relShown(pair[1]), relShown(got), ok)
					}
				}
			}
		}
	}
}

func TestSetCallsWhereAritiesDiffer(t *testing.T) {
	for _, c := range setCalls() {
		for i := range impl.MaxArity + 1 {
			for j := range impl.MaxArity + 1 {
				for _, pair := range [][2]impl.Rel{{relOf(i), relOf(j)}, {relOf(i, mixedRow(i)), relOf(j)}, {relOf(i), relOf(j, mixedRow(j))}, {relOf(i, mixedRow(i)), relOf(j, mixedRow(j))}} {
					if _, ok := checkSetCall(t, c, pair[0], pair[1]); ok != (i == j) {
						t.Errorf("%s with the arities %d and %d: %v", c.name, i, j, ok)
					}
				}
			}
		}
	}
}

// TestRelUnionHowManyRows has what counts: the rows of the union, not those of both together.
func TestRelUnionHowManyRows(t *testing.T) {
	for _, arity := range []int{1, 2, impl.MaxArity} {
		all := countedRel(arity, 2*impl.MaxRows).Rows
		piece := func(from int, to int) impl.Rel { return relOf(arity, all[from:to]...) }
		for _, c := range []struct {
			a, b impl.Rel
			want int
		}{
			{piece(0, 150), piece(150, 300), 300}, {piece(0, 150), piece(150, 301), -1}, {piece(0, 151), piece(151, 301), -1}, {piece(0, 300), piece(0, 300), 300},
			{piece(0, 300), piece(300, 600), -1}, {piece(0, 300), relOf(arity), 300}, {piece(0, 300), piece(0, 1), 300}, {piece(0, 300), piece(299, 300), 300},
			{piece(0, 300), piece(299, 301), -1}, {piece(1, 301), piece(0, 1), -1}, {piece(1, 300), piece(0, 1), 300}, {piece(0, 299), piece(299, 300), 300},
			{piece(0, 200), piece(100, 300), 300}, {piece(0, 200), piece(100, 301), -1}, {piece(0, 300), piece(400, 401), -1}, {piece(0, 300), piece(1, 301), -1},
		} {
			for _, pair := range [][2]impl.Rel{{c.a, c.b}, {c.b, c.a}} {
				got, ok := checkSetCall(t, setCalls()[0], pair[0], pair[1])
				if ok != (c.want >= 0) || len(got.Rows) != max(c.want, 0) {
					t.Errorf("RelUnion of %d and %d rows: %d rows %v, not %d", len(pair[0].Rows), len(pair[1].Rows), len(got.Rows), ok, c.want)
				}
				// What is too many for the union isn't for the others.
				checkSetCall(t, setCalls()[1], pair[0], pair[1])
				checkSetCall(t, setCalls()[2], pair[0], pair[1])
			}
		}
	}
}

func TestSetCallsByTurns(t *testing.T) {
	even, odd := relOf(2), relOf(2)
	for i := range impl.MaxRows {
		row := rowOf(num(i/20), num(i))
		if i%2 == 0 {
			even.Rows = append(even.Rows, row)
		} else {
			odd.Rows = append(odd.Rows, row)
		}
	}
	for _, c := range setCalls() {
		checkSetCall(t, c, even, odd)
		checkSetCall(t, c, odd, even)
		checkSetCall(t, c, even, even)
	}
}

func TestEveryPairOfRels(t *testing.T) {
	l := append(rightRels(), fewWrongRels()...)
	for _, a := range l {
		for _, b := range l {
			checkSameRel(t, a, b)
			for _, c := range setCalls() {
				checkSetCall(t, c, a, b)
			}
		}
	}
}

func TestSameRel(t *testing.T) {
	for _, r := range append(rightRels(), countedRel(1, impl.MaxRows), countedRel(6, impl.MaxRows)) {
		if !impl.SameRel(r, r) || !impl.SameRel(r, copyRel(r)) || !impl.SameRel(copyRel(r), r) {
			t.Errorf("%s isn't the same as itself", relShown(r))
		}
	}
	for _, r := range append(wrongRels(), countedRel(1, impl.MaxRows+1)) {
		if impl.SameRel(r, r) || impl.SameRel(r, copyRel(r)) || impl.SameRel(r, relOf(1)) || impl.SameRel(numRel(10, 20), r) {
			t.Errorf("%s is the same as something, though it isn't right", relShown(r))
		}
	}
	for i := range impl.MaxArity + 1 {
		for j := range impl.MaxArity + 1 {
			if got := impl.SameRel(relOf(i), relOf(j)); got != (i == j) {
				t.Errorf("SameRel of the arities %d and %d: %v", i, j, got)
			}
		}
	}
	if !impl.SameRel(relOf(1), impl.Rel{Arity: 1, Rows: []impl.Row{}}) || !impl.SameRel(relOf(0, impl.Row{}), relOf(0, rowOf([]impl.Value{}...))) {
		t.Error("a nil list and an empty one are the same")
	}
}

// TestSameRelNearly changes one value, one row, at each place of relations.
func TestSameRelNearly(t *testing.T) {
	for arity := 1; arity <= impl.MaxArity; arity++ {
		for _, size := range []int{1, 2, 5, 60} {
			r := countedRel(arity, size)
			for at := range size {
				for col := range arity {
					other := rowPut(r, at, rowWith(r.Rows[at], col, word("x")))
					if checkSameRel(t, r, other) || checkSameRel(t, other, r) {
						t.Errorf("SameRel with another value at %d of row %d", col, at)
					}
				}
				other := copyRel(r)
				other.Rows[at].V[arity-1].N++
				less := relOf(arity, append(slices.Clone(r.Rows[:at]), r.Rows[at+1:]...)...)
				for _, x := range []impl.Rel{other, less} {
					if !impl.RelOk(x) || checkSameRel(t, r, x) || checkSameRel(t, x, r) {
						t.Errorf("SameRel with another row at %d of %d", at, size)
					}
				}
			}
			if checkSameRel(t, r, relOf(arity, countedRel(arity, size+1).Rows...)) || checkSameRel(t, r, relOf(arity)) {
				t.Errorf("SameRel with one row more than %d, or with none", size)
			}
		}
	}
}

// TestRelAnswersApart has arguments whose rows lie in one list of values, and arguments that are one another's.
func TestRelAnswersApart(t *testing.T) {
	l := []impl.Value{num(1), num(2), num(3), num(4), num(5)}
	overlap := relOf(2, rowOf(l[0:2]...), rowOf(l[1:3]...), rowOf(l[2:4]...))
	before := copyRel(overlap)
	given := append(relSpots(copyRel(overlap)), spots(l)...)
	added, code := impl.RelAdd(overlap, rowOf(l[3:5]...))
	checkAnswer(t, added, code == 0, given)
	again, code := impl.RelAdd(overlap, overlap.Rows[1])
	checkAnswer(t, again, code == 0, given)
	dropped, code := impl.RelDrop(overlap, overlap.Rows[1])
	checkAnswer(t, dropped, code == 0, given)
	for _, c := range setCalls() {
		got, ok := c.call(overlap, overlap)
		checkAnswer(t, got, ok, given)
		got, ok = c.call(overlap, relOf(2, overlap.Rows[1:]...))
		checkAnswer(t, got, ok, given)
	}
	for _, r := range []impl.Rel{added, again, dropped} {
		for i := range r.Rows {
			r.Rows[i].V[0] = num(99)
		}
	}
	if !sameRel(overlap, before) || !slices.Equal(l, []impl.Value{num(1), num(2), num(3), num(4), num(5)}) {
		t.Error("writing to an answer changed an argument")
	}
}

// TestRelSpareRoom has a relation that is the front of a longer list of rows.
func TestRelSpareRoom(t *testing.T) {
	whole := countedRel(2, 20)
	keep := copyRel(whole)
	for n := range 20 {
		front, back := relOf(2, whole.Rows[:n]...), relOf(2, whole.Rows[n:]...)
		impl.RelAdd(front, countedRow(2, 100))
		impl.RelAdd(front, rowOf(num(0), num(0)))
		impl.RelDrop(front, countedRow(2, 1))
		for _, c := range setCalls() {
			c.call(front, back)
			c.call(back, front)
		}
		if !sameRel(whole, keep) {
			t.Fatalf("a call on the first %d rows changed what lies behind them", n)
		}
	}
}

// scatteredRel draws from few values, so that two of one arity share rows often.
func scatteredRel(next func() int, arity int) impl.Rel {
	rows := []impl.Row{}
	for range next() % 12 {
		rows = append(rows, scatteredFit(next, arity))
	}
	return gathered(arity, rows...)
}

func scatteredFit(next func() int, arity int) impl.Row {
	pool := []impl.Value{num(0), num(1), word("a"), num(10), word("a1"), word("b")}
	row := impl.Row{V: []impl.Value{}}
	for range arity {
		row.V = append(row.V, pool[next()%(2+next()%5)])
	}
	if arity > 0 && next()%6 == 0 {
		row.V[next()%arity] = scatteredValue(next)
	}
	return row
}

func TestManyRowsPutInAndTakenOut(t *testing.T) {
	next := scatter(1001)
	there := 0
	for range 4000 {
		arity := next() % 7
		r := scatteredRel(next, arity)
		row := scatteredFit(next, arity)
		had := impl.RelHas(r, row)
		added, code := checkRowCall(t, "RelAdd", r, row)
		if code != 0 || !impl.RelHas(added, row) {
			t.Errorf("%s isn't there behind RelAdd, code %d", shown(row.V...), code)
		}
		dropped, code := checkRowCall(t, "RelDrop", r, row)
		if code != 0 || impl.RelHas(dropped, row) {
			t.Errorf("%s is there behind RelDrop, code %d", shown(row.V...), code)
		}
		back, one := impl.RelDrop(added, row)
		forth, two := impl.RelAdd(dropped, row)
		if one != 0 || two != 0 || !impl.SameRel(back, dropped) || !impl.SameRel(forth, added) {
			t.Errorf("%s put in and taken out of %s: %s, taken out and put in: %s", shown(row.V...), relShown(r), relShown(back), relShown(forth))
		}
		givenBack := []impl.Rel{back, dropped}
		if had {
			there++
			givenBack = []impl.Rel{forth, added}
		}
		for _, x := range givenBack {
			if !impl.SameRel(x, r) {
				t.Errorf("%s and %s: the relation isn't given back: %s", relShown(r), shown(row.V...), relShown(x))
			}
		}
		for _, x := range r.Rows {
			if !sameRow(x, row) && (!impl.RelHas(added, x) || !impl.RelHas(dropped, x)) {
				t.Errorf("%s is gone", shown(x.V...))
			}
		}
	}
	if there < 400 || there > 3600 {
		t.Errorf("of 4000 rows %d were there", there)
	}
}

func TestManyRelsSpoiled(t *testing.T) {
	next := scatter(1002)
	right, wrong := 0, wrongValues()
	for range 6000 {
		arity := next() % 7
		a, b := scatteredRel(next, arity), scatteredRel(next, arity)
		row := scatteredFit(next, arity)
		if n := len(a.Rows); n > 0 {
			at := next() % n
			switch next() % 8 {
			case 0:
				a = swapped(a, at, next()%n)
			case 1:
				a = rowPut(a, at, scatteredRow(next))
			case 2:
				a = rowBetween(a, at, a.Rows[next()%n])
			case 3:
				a.Arity = next()%12 - 3
			case 4:
				if arity > 0 {
					a.Rows[at].V[next()%arity] = wrong[next()%len(wrong)]
				}
			}
		}
		if next()%4 == 0 {
			row = scatteredRow(next)
		}
		if arity > 0 && next()%16 == 0 {
			row = rowWith(scatteredFit(next, arity), next()%arity, wrong[next()%len(wrong)])
		}
		if checkRelOk(t, a) {
			right++
		}
		checkHas(t, a, row)
		checkRowCall(t, "RelAdd", a, row)
		checkRowCall(t, "RelDrop", a, row)
		checkSameRel(t, a, b)
		for _, c := range setCalls() {
			checkSetCall(t, c, a, b)
			checkSetCall(t, c, b, a)
		}
	}
	if right < 2000 || right > 5500 {
		t.Errorf("of 6000 relations %d were right", right)
	}
}

// sets makes plain calls of the three functions, which must hold.
type sets struct{ t *testing.T }

func (s sets) must(got impl.Rel, ok bool) impl.Rel {
	if !ok || !impl.RelOk(got) {
		s.t.Errorf("not held: %s", relShown(got))
	}
	return got
}

func (s sets) union(a impl.Rel, b impl.Rel) impl.Rel { return s.must(impl.RelUnion(a, b)) }

func (s sets) minus(a impl.Rel, b impl.Rel) impl.Rel { return s.must(impl.RelMinus(a, b)) }

func (s sets) both(a impl.Rel, b impl.Rel) impl.Rel { return s.must(impl.RelBoth(a, b)) }

// checkLaws asks of three relations what holds of sets, by the program's answers alone.
func checkLaws(t *testing.T, a impl.Rel, b impl.Rel, c impl.Rel) {
	t.Helper()
	s := sets{t}
	for i, pair := range [][2]impl.Rel{
		{s.union(a, b), s.union(b, a)}, {s.both(a, b), s.both(b, a)}, {s.union(s.minus(a, b), s.both(a, b)), a}, {s.union(a, a), a}, {s.both(a, a), a},
		{s.minus(a, a), relOf(a.Arity)}, {s.both(s.minus(a, b), b), relOf(a.Arity)}, {s.minus(s.union(a, b), b), s.minus(a, b)}, {s.both(a, b), s.minus(a, s.minus(a, b))},
		{s.union(a, s.both(a, b)), a}, {s.both(a, s.union(a, b)), a}, {s.union(s.minus(a, b), b), s.union(a, b)},
		{s.union(s.union(a, b), c), s.union(a, s.union(b, c))}, {s.both(s.both(a, b), c), s.both(a, s.both(b, c))},
		{s.both(a, s.union(b, c)), s.union(s.both(a, b), s.both(a, c))}, {s.union(a, s.both(b, c)), s.both(s.union(a, b), s.union(a, c))},
		{s.minus(a, s.union(b, c)), s.both(s.minus(a, b), s.minus(a, c))}, {s.minus(a, s.both(b, c)), s.union(s.minus(a, b), s.minus(a, c))},
	} {
		if !impl.SameRel(pair[0], pair[1]) || !sameRel(pair[0], pair[1]) {
			t.Errorf("law %d of %s, %s and %s: %s and %s", i, relShown(a), relShown(b), relShown(c), relShown(pair[0]), relShown(pair[1]))
		}
	}
	if len(a.Rows)+len(b.Rows) != len(s.union(a, b).Rows)+len(s.both(a, b).Rows) || len(a.Rows) != len(s.minus(a, b).Rows)+len(s.both(a, b).Rows) {
		t.Errorf("%s and %s: the rows don't count up", relShown(a), relShown(b))
	}
}

func TestManyRelsAreAsSetsAre(t *testing.T) {
	next := scatter(1003)
	for range 1500 {
		arity := next() % 7
		checkLaws(t, scatteredRel(next, arity), scatteredRel(next, arity), scatteredRel(next, arity))
	}
	for range 5 {
		var l [3]impl.Rel
		for i := range l {
			l[i] = relOf(2)
			for n := range impl.MaxRows {
				if next()%2 == 0 {
					l[i].Rows = append(l[i].Rows, countedRow(2, n))
				}
			}
		}
		checkLaws(t, l[0], l[1], l[2])
	}
}

// TestRelHasTellsTheSets asks of each row where it is and where it should be.
func TestRelHasTellsTheSets(t *testing.T) {
	next := scatter(1004)
	for range 500 {
		arity := next() % 4
		a, b := scatteredRel(next, arity), scatteredRel(next, arity)
		for _, c := range setCalls() {
			got, ok := c.call(a, b)
			for range 10 {
				row := scatteredFit(next, arity)
				if want := c.stays(impl.RelHas(a, row), impl.RelHas(b, row)); !ok || impl.RelHas(got, row) != want {
					t.Errorf("%s of %s and %s: %s should be there: %v", c.name, relShown(a), relShown(b), shown(row.V...), want)
				}
			}
		}
	}
}

// TestLongWalk puts in and takes out rows against a plain set of numbers, at the limit for long.
func TestLongWalk(t *testing.T) {
	next := scatter(1005)
	r, model := relOf(1), map[int]bool{}
	codes := map[int]int{}
	for step := range 4000 {
		n := next() % 420
		drop := next()%8 == 0
		wantCode := 0
		if !drop && !model[n] && len(model) == impl.MaxRows {
			wantCode = 2
		}
		call := impl.RelAdd
		if drop {
			call = impl.RelDrop
		}
		got, code := call(r, rowOf(num(n)))
		codes[code]++
		if code != wantCode {
			t.Fatalf("step %d with %d rows: code %d, not %d", step, len(model), code, wantCode)
		}
		if code != 0 {
			continue
		}
		r = got
		if drop {
			delete(model, n)
		} else {
			model[n] = true
		}
		if len(r.Rows) != len(model) || impl.RelHas(r, rowOf(num(n))) == drop {
			t.Fatalf("step %d: %d rows, not %d", step, len(r.Rows), len(model))
		}
	}
	for _, row := range r.Rows {
		if !model[row.V[0].N] {
			t.Errorf("%s shouldn't be there", shown(row.V...))
		}
	}
	if codes[2] < 100 {
		t.Errorf("the relation was full only %d times", codes[2])
	}
}
