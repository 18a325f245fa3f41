package tests

import (
	"math"
	"slices"
	"testing"

	"loop.example/g00391/impl"
)

// pairRel has two columns with these pairs of numbers.
func pairRel(l ...[2]int) impl.Rel {
	rows := []impl.Row{}
	for _, p := range l {
		rows = append(rows, rowOf(num(p[0]), num(p[1])))
	}
	return gathered(2, rows...)
}

// pickSpelled, colsSpelled, joinSpelled and reachSpelled are the four functions by the document's words.
func pickSpelled(r impl.Rel, col int, v impl.Value) (impl.Rel, bool) {
	if !relRight(r) || col < 0 || col >= r.Arity || !valueRight(v) {
		return impl.Rel{}, false
	}
	out := relOf(r.Arity)
	for _, row := range r.Rows {
		if row.V[col] == v {
			out.Rows = append(out.Rows, copyRow(row))
		}
	}
	return out, true
}

func colsSpelled(r impl.Rel, cols []int) (impl.Rel, bool) {
	if !relRight(r) || len(cols) > 6 {
		return impl.Rel{}, false
	}
	for _, col := range cols {
		if col < 0 || col >= r.Arity {
			return impl.Rel{}, false
		}
	}
	rows := []impl.Row{}
	for _, row := range r.Rows {
		cut := impl.Row{}
		for _, col := range cols {
			cut.V = append(cut.V, row.V[col])
		}
		rows = append(rows, cut)
	}
	return gathered(len(cols), rows...), true
}

func joinSpelled(a impl.Rel, b impl.Rel, n int) (impl.Rel, bool) {
	if !relRight(a) || !relRight(b) || n < 0 || n > a.Arity || n > b.Arity || a.Arity+b.Arity-n > 6 {
		return impl.Rel{}, false
	}
	rows := []impl.Row{}
	for _, x := range a.Rows {
		for _, y := range b.Rows {
			if slices.Equal(x.V[a.Arity-n:], y.V[:n]) {
				rows = append(rows, rowOf(slices.Concat(x.V, y.V[n:])...))
			}
		}
	}
	out := gathered(a.Arity+b.Arity-n, rows...)
	if len(out.Rows) > 300 {
		return impl.Rel{}, false
	}
	return out, true
}

// reachSpelled goes from each value as far as the rows lead.
func reachSpelled(r impl.Rel) (impl.Rel, bool) {
	if !relRight(r) || r.Arity != 2 {
		return impl.Rel{}, false
	}
	next := map[impl.Value][]impl.Value{}
	for _, row := range r.Rows {
		next[row.V[0]] = append(next[row.V[0]], row.V[1])
	}
	rows := []impl.Row{}
	for from := range next {
		seen := map[impl.Value]bool{}
		for work := slices.Clone(next[from]); len(work) > 0; {
			at := work[0]
			work = work[1:]
			if !seen[at] {
				seen[at] = true
				work = append(work, next[at]...)
				rows = append(rows, rowOf(from, at))
			}
		}
	}
	out := gathered(2, rows...)
	if len(out.Rows) > 300 {
		return impl.Rel{}, false
	}
	return out, true
}

func checkPick(t *testing.T, r impl.Rel, col int, v impl.Value) (impl.Rel, bool) {
	t.Helper()
	var got impl.Rel
	ok := false
	underRel(t, r, func(x impl.Rel) {
		got, ok = impl.RelPick(x, col, v)
		checkAnswer(t, got, ok, relSpots(x))
	})
	if want, wantOk := pickSpelled(r, col, v); ok != wantOk || !sameRel(got, want) {
		t.Errorf("RelPick of %s, column %d, %s: %s %v, not %s %v", relShown(r), col, shown(v), relShown(got), ok, relShown(want), wantOk)
	}
	return got, ok
}

func checkCols(t *testing.T, r impl.Rel, cols ...int) (impl.Rel, bool) {
	t.Helper()
	var got impl.Rel
	ok := false
	list, whole := roomyList(cols, 77)
	underRel(t, r, func(x impl.Rel) {
		got, ok = impl.RelCols(x, list)
		checkAnswer(t, got, ok, relSpots(x))
	})
	if !slices.Equal(whole, append(slices.Clone(cols), 77, 77, 77)) {
		t.Errorf("RelCols changed its columns %v", cols)
	}
	if want, wantOk := colsSpelled(r, cols); ok != wantOk || !sameRel(got, want) {
		t.Errorf("RelCols of %s, %v: %s %v, not %s %v", relShown(r), cols[:min(len(cols), 9)], relShown(got), ok, relShown(want), wantOk)
	}
	return got, ok
}

// checkJoin also asks that each row that comes has a row of a ahead and a row of b behind.
func checkJoin(t *testing.T, a impl.Rel, b impl.Rel, n int) (impl.Rel, bool) {
	t.Helper()
	var got impl.Rel
	ok := false
	underRel(t, a, func(x impl.Rel) {
		underRel(t, b, func(y impl.Rel) {
			got, ok = impl.RelJoin(x, y, n)
			checkAnswer(t, got, ok, relSpots(x), relSpots(y))
		})
	})
	if want, wantOk := joinSpelled(a, b, n); ok != wantOk || !sameRel(got, want) {
		t.Errorf("RelJoin of %s and %s, %d: %s %v, not %s %v", relShown(a), relShown(b), n, relShown(got), ok, relShown(want), wantOk)
	}
	for _, row := range got.Rows {
		if !ok || len(row.V) != a.Arity+b.Arity-n || !impl.RelHas(a, rowOf(row.V[:a.Arity]...)) || !impl.RelHas(b, rowOf(row.V[len(row.V)-b.Arity:]...)) {
			t.Errorf("RelJoin of %s and %s, %d: %s isn't a row of the one and then one of the other", relShown(a), relShown(b), n, shown(row.V...))
		}
	}
	return got, ok
}

// checkReach also asks that what comes has the relation, is closed, and comes of itself.
func checkReach(t *testing.T, r impl.Rel) (impl.Rel, bool) {
	t.Helper()
	var got impl.Rel
	ok := false
	underRel(t, r, func(x impl.Rel) {
		got, ok = impl.RelReach(x)
		checkAnswer(t, got, ok, relSpots(x))
	})
	if want, wantOk := reachSpelled(r); ok != wantOk || !sameRel(got, want) {
		t.Errorf("RelReach of %s: %s %v, not %s %v", relShown(r), relShown(got), ok, relShown(want), wantOk)
	}
	if ok {
		checkClosed(t, r, got)
	}
	return got, ok
}

func checkClosed(t *testing.T, r impl.Rel, reach impl.Rel) {
	t.Helper()
	for _, row := range r.Rows {
		if !impl.RelHas(reach, row) {
			t.Errorf("RelReach of %s hasn't %s", relShown(r), shown(row.V...))
		}
	}
	behind := map[impl.Value][]impl.Value{}
	for _, row := range reach.Rows {
		behind[row.V[0]] = append(behind[row.V[0]], row.V[1])
	}
	there := map[[2]impl.Value]bool{}
	for _, row := range reach.Rows {
		there[[2]impl.Value(row.V)] = true
	}
	for _, row := range reach.Rows {
		for _, z := range behind[row.V[1]] {
			if !there[[2]impl.Value{row.V[0], z}] {
				t.Errorf("RelReach of %s hasn't %s", relShown(r), shown(row.V[0], z))
			}
		}
	}
	if again, ok := impl.RelReach(reach); !ok || !impl.SameRel(again, reach) {
		t.Errorf("RelReach of its own answer %s: %s %v", relShown(reach), relShown(again), ok)
	}
}

// farNumbers are columns and counts that nothing has.
func farNumbers() []int {
	return []int{-2, -7, -300, impl.MaxArity + 1, 64, 300, 1 << 31, 1 << 32, 1 << 48, math.MaxInt, math.MaxInt - 1, math.MaxInt - 5, math.MinInt, math.MinInt + 1, math.MinInt + 6}
}

// tooManyRows has relations that are right but for their number of rows.
func tooManyRows() []impl.Rel {
	return []impl.Rel{countedRel(1, impl.MaxRows+1), countedRel(2, impl.MaxRows+1), countedRel(6, impl.MaxRows+1), countedRel(2, 2000)}
}

func TestRelPickByHand(t *testing.T) {
	r := relOf(2, rowOf(num(1), word("a")), rowOf(num(1), word("b")), rowOf(num(2), word("a")), rowOf(word("a"), num(1)), rowOf(word("n1"), num(1)))
	for _, c := range []struct {
		col  int
		v    impl.Value
		want impl.Rel
	}{
		{0, num(1), relOf(2, r.Rows[:2]...)}, {0, num(2), relOf(2, r.Rows[2])}, {0, word("a"), relOf(2, r.Rows[3])}, {0, word("n1"), relOf(2, r.Rows[4])},
		{1, word("a"), relOf(2, r.Rows[0], r.Rows[2])}, {1, word("b"), relOf(2, r.Rows[1])}, {1, num(1), relOf(2, r.Rows[3:]...)},
		{0, num(0), relOf(2)}, {0, num(3), relOf(2)}, {0, num(impl.MaxNum), relOf(2)}, {0, word("b"), relOf(2)}, {0, word("zzzzzzzzzzzz"), relOf(2)}, {1, num(2), relOf(2)}, {1, word("c"), relOf(2)}, {1, word("n1"), relOf(2)},
	} {
		if got, ok := checkPick(t, r, c.col, c.v); !ok || !sameRel(got, c.want) {
			t.Errorf("RelPick of column %d, %s: %s %v", c.col, shown(c.v), relShown(got), ok)
		}
	}
}

func TestRelPickEveryColumn(t *testing.T) {
	for arity := range impl.MaxArity + 1 {
		for _, size := range []int{0, 1, 2, 5} {
			r := countedRel(arity, size)
			if arity == 0 {
				r = relOf(0, make([]impl.Row, min(size, 1))...)
			}
			for _, col := range append(farNumbers(), -1, 0, 1, 2, 3, 4, 5, 6) {
				for _, v := range append(mixedRow(6).V, num(10), num(20), num(50), num(60), word("q")) {
					if _, ok := checkPick(t, r, col, v); ok != (col >= 0 && col < arity) {
						t.Errorf("RelPick of column %d of %d: %v", col, arity, ok)
					}
				}
			}
		}
	}
}

// TestRelPickHowManyRows picks what none, one and all of a full relation's rows have.
func TestRelPickHowManyRows(t *testing.T) {
	for _, v := range []impl.Value{num(7), word("same")} {
		full := relOf(3)
		for i := range impl.MaxRows {
			full.Rows = append(full.Rows, rowOf(v, num(i), v))
		}
		for _, c := range []struct {
			col, want int
			v         impl.Value
		}{{0, 300, v}, {2, 300, v}, {1, 1, num(0)}, {1, 1, num(149)}, {1, 1, num(299)}, {1, 0, num(300)}, {0, 0, num(8)}, {2, 0, word("other")}} {
			if got, ok := checkPick(t, full, c.col, c.v); !ok || len(got.Rows) != c.want {
				t.Errorf("RelPick of column %d, %s: %d rows %v, not %d", c.col, shown(c.v), len(got.Rows), ok, c.want)
			}
		}
	}
}

func TestRelPickWrongValues(t *testing.T) {
	for _, r := range []impl.Rel{relOf(1), relOf(2), numRel(0, 1, 2), relOf(1, rowOf(num(0)), rowOf(word("a"))), relOf(0), relOf(0, impl.Row{}), countedRel(6, 3)} {
		for _, v := range wrongValues() {
			for _, col := range []int{-1, 0, r.Arity - 1, r.Arity} {
				if got, ok := checkPick(t, r, col, v); ok || !noRel(got) {
					t.Errorf("RelPick of %s: %s %v", shown(v), relShown(got), ok)
				}
			}
		}
	}
}

func TestRelPickWhereWrong(t *testing.T) {
	for _, r := range append(wrongRels(), tooManyRows()...) {
		for _, col := range []int{-1, 0, 1, r.Arity - 1, r.Arity, math.MaxInt} {
			for _, v := range []impl.Value{num(0), num(10), word("a"), num(-1)} {
				if got, ok := checkPick(t, r, col, v); ok || !noRel(got) {
					t.Errorf("RelPick of %s: %s %v", relShown(r), relShown(got), ok)
				}
			}
		}
	}
}

func TestRelColsByHand(t *testing.T) {
	r := relOf(3, rowOf(num(1), word("z"), num(5)), rowOf(num(2), word("a"), num(5)), rowOf(num(3), word("a"), num(4)))
	for _, c := range []struct {
		cols []int
		want impl.Rel
	}{
		{nil, relOf(0, impl.Row{})}, {[]int{}, relOf(0, impl.Row{})}, {[]int{0}, numRel(1, 2, 3)}, {[]int{2}, numRel(4, 5)}, {[]int{1}, relOf(1, rowOf(word("a")), rowOf(word("z")))}, {[]int{0, 1, 2}, r},
		{[]int{2, 1, 0}, relOf(3, rowOf(num(4), word("a"), num(3)), rowOf(num(5), word("a"), num(2)), rowOf(num(5), word("z"), num(1)))},
		{[]int{1, 2}, relOf(2, rowOf(word("a"), num(4)), rowOf(word("a"), num(5)), rowOf(word("z"), num(5)))}, {[]int{0, 0}, pairRel([2]int{1, 1}, [2]int{2, 2}, [2]int{3, 3})},
		{[]int{2, 2}, pairRel([2]int{4, 4}, [2]int{5, 5})}, {[]int{2, 0, 2}, relOf(3, rowOf(num(4), num(3), num(4)), rowOf(num(5), num(1), num(5)), rowOf(num(5), num(2), num(5)))},
		{[]int{2, 2, 2, 2, 2, 2}, relOf(6, rowOf(slices.Repeat([]impl.Value{num(4)}, 6)...), rowOf(slices.Repeat([]impl.Value{num(5)}, 6)...))},
	} {
		if got, ok := checkCols(t, r, c.cols...); !ok || !sameRel(got, c.want) {
			t.Errorf("RelCols %v: %s %v", c.cols, relShown(got), ok)
		}
	}
}

func TestRelColsWithoutColumnsOrRows(t *testing.T) {
	one := relOf(0, impl.Row{})
	if got, ok := checkCols(t, one); !ok || !sameRel(got, one) {
		t.Errorf("RelCols of the row without values: %s %v", relShown(got), ok)
	}
	if got, ok := checkCols(t, relOf(0)); !ok || !sameRel(got, relOf(0)) {
		t.Errorf("RelCols of nothing: %s %v", relShown(got), ok)
	}
	for arity := range impl.MaxArity + 1 {
		for size := range impl.MaxArity + 3 {
			cols := make([]int, size)
			got, ok := checkCols(t, relOf(arity), cols...)
			if want := size <= 6 && (size == 0 || arity > 0); ok != want || want && (got.Arity != size || len(got.Rows) != 0) {
				t.Errorf("RelCols of no rows with %d columns of %d: %s %v", size, arity, relShown(got), ok)
			}
		}
		if got, ok := checkCols(t, relOf(arity, mixedRow(arity))); !ok || !sameRel(got, one) {
			t.Errorf("RelCols of one row and no columns: %s %v", relShown(got), ok)
		}
	}
}

func TestRelColsHowManyColumns(t *testing.T) {
	for arity := 1; arity <= impl.MaxArity; arity++ {
		for _, size := range []int{1, impl.MaxArity - 1, impl.MaxArity, impl.MaxArity + 1, impl.MaxArity + 2, 1000, 100000} {
			cols := make([]int, size)
			for i := range cols {
				cols[i] = i % arity
			}
			if _, ok := checkCols(t, countedRel(arity, 4), cols...); ok != (size <= 6) {
				t.Errorf("RelCols with %d columns: %v", size, ok)
			}
		}
	}
}

// TestRelColsWrongColumns has one column that isn't there, at each place of the list.
func TestRelColsWrongColumns(t *testing.T) {
	for arity := range impl.MaxArity + 1 {
		for _, r := range []impl.Rel{relOf(arity), relOf(arity, mixedRow(arity))} {
			for _, bad := range append(farNumbers(), -1, arity, arity+1) {
				for size := 1; size <= impl.MaxArity; size++ {
					for at := range size {
						cols := make([]int, size)
						cols[at] = bad
						if got, ok := checkCols(t, r, cols...); ok || !noRel(got) {
							t.Errorf("RelCols %v of %s: %s %v", cols, relShown(r), relShown(got), ok)
						}
					}
				}
			}
		}
	}
}

// TestRelColsEveryList tries all lists of at most three columns of relations of at most three.
func TestRelColsEveryList(t *testing.T) {
	next := scatter(1101)
	for arity := range 4 {
		for range 6 {
			r := scatteredRel(next, arity)
			for a := -1; a <= arity; a++ {
				checkCols(t, r, a)
				for b := -1; b <= arity; b++ {
					checkCols(t, r, a, b)
					for c := -1; c <= arity; c++ {
						checkCols(t, r, a, b, c)
					}
				}
			}
		}
	}
}

// TestRelColsOrderAndFewer has full relations whose rows turn round, or fall together.
func TestRelColsOrderAndFewer(t *testing.T) {
	full := relOf(4)
	for i := range impl.MaxRows {
		full.Rows = append(full.Rows, rowOf(num(i), num(impl.MaxRows-i), num(i%7), word("w")))
	}
	for _, c := range []struct {
		cols        []int
		want, first int
	}{{[]int{0}, 300, 0}, {[]int{1}, 300, 1}, {[]int{1, 0}, 300, 1}, {[]int{2}, 7, 0}, {[]int{2, 2, 3}, 7, 0}, {[]int{3}, 1, 0}, {[]int{2, 0}, 300, 0}, {[]int{0, 1, 2, 3}, 300, 0}, {nil, 1, -1}} {
		got, ok := checkCols(t, full, c.cols...)
		if !ok || len(got.Rows) != c.want || c.first >= 0 && got.Rows[0].V[0].N != c.first {
			t.Errorf("RelCols %v of a full relation: %s %v", c.cols, relShown(got), ok)
		}
	}
}

func TestRelColsWhereWrong(t *testing.T) {
	for _, r := range append(wrongRels(), tooManyRows()...) {
		for _, cols := range [][]int{nil, {0}, {0, 0}, {0, 1}, {-1}, {5}, {0, 0, 0, 0, 0, 0, 0}} {
			if got, ok := checkCols(t, r, cols...); ok || !noRel(got) {
				t.Errorf("RelCols of %s: %s %v", relShown(r), relShown(got), ok)
			}
		}
	}
}

func TestRelJoinByHand(t *testing.T) {
	one, three := relOf(0, impl.Row{}), numRel(1, 2, 3)
	a := pairRel([2]int{1, 2}, [2]int{1, 3}, [2]int{4, 2}, [2]int{5, 9})
	b := pairRel([2]int{2, 7}, [2]int{2, 8}, [2]int{3, 1}, [2]int{6, 6})
	triple := func(l ...[3]int) impl.Rel {
		out := relOf(3)
		for _, x := range l {
			out.Rows = append(out.Rows, rowOf(num(x[0]), num(x[1]), num(x[2])))
		}
		return out
	}
	for _, c := range []struct {
		a, b impl.Rel
		n    int
		want impl.Rel
	}{
		{a, b, 1, triple([3]int{1, 2, 7}, [3]int{1, 2, 8}, [3]int{1, 3, 1}, [3]int{4, 2, 7}, [3]int{4, 2, 8})}, {b, a, 1, triple([3]int{3, 1, 2}, [3]int{3, 1, 3})},
		{a, b, 2, relOf(2)}, {a, a, 2, a}, {a, pairRel([2]int{1, 3}, [2]int{3, 1}), 2, pairRel([2]int{1, 3})}, {a, a, 1, relOf(3)},
		{three, three, 1, three}, {three, numRel(2, 3, 4), 1, numRel(2, 3)}, {three, numRel(4), 1, relOf(1)}, {numRel(1, 2), numRel(8, 9), 0, pairRel([2]int{1, 8}, [2]int{1, 9}, [2]int{2, 8}, [2]int{2, 9})},
		{one, three, 0, three}, {three, one, 0, three}, {one, one, 0, one}, {relOf(0), three, 0, relOf(1)}, {three, relOf(0), 0, relOf(1)}, {relOf(0), one, 0, relOf(0)}, {one, relOf(0), 0, relOf(0)},
		{a, numRel(2, 9), 1, pairRel([2]int{1, 2}, [2]int{4, 2}, [2]int{5, 9})}, {numRel(1, 5), a, 1, pairRel([2]int{1, 2}, [2]int{1, 3}, [2]int{5, 9})},
		{relOf(1, rowOf(num(10)), rowOf(word("a"))), relOf(2, rowOf(num(9), num(1)), rowOf(num(10), word("x")), rowOf(word("a"), num(0)), rowOf(word("a0"), num(0))), 1, relOf(2, rowOf(num(10), word("x")), rowOf(word("a"), num(0)))},
		{triple([3]int{1, 2, 3}, [3]int{2, 2, 3}, [3]int{3, 3, 2}), triple([3]int{2, 3, 0}, [3]int{2, 3, 4}, [3]int{3, 2, 9}), 2, relOf(4, rowOf(num(1), num(2), num(3), num(0)), rowOf(num(1), num(2), num(3), num(4)), rowOf(num(2), num(2), num(3), num(0)), rowOf(num(2), num(2), num(3), num(4)), rowOf(num(3), num(3), num(2), num(9)))},
	} {
		if got, ok := checkJoin(t, c.a, c.b, c.n); !ok || !sameRel(got, c.want) {
			t.Errorf("RelJoin of %s and %s, %d: %s %v", relShown(c.a), relShown(c.b), c.n, relShown(got), ok)
		}
	}
}

// TestRelJoinEveryArity has all arities with each n, with and without rows on either side.
func TestRelJoinEveryArity(t *testing.T) {
	for i := range impl.MaxArity + 1 {
		for j := range impl.MaxArity + 1 {
			x, y := relOf(i, mixedRow(i)), relOf(j, mixedRow(j))
			for _, n := range append(farNumbers(), -1, 0, 1, 2, 3, 4, 5, 6, min(i, j), min(i, j)+1, i+j-6, i+j-7) {
				want := n >= 0 && n <= i && n <= j && i+j-n <= 6
				for _, pair := range [][2]impl.Rel{{x, y}, {relOf(i), y}, {x, relOf(j)}, {relOf(i), relOf(j)}} {
					got, ok := checkJoin(t, pair[0], pair[1], n)
					if ok != want || !want && !noRel(got) || want && got.Arity != i+j-n {
						t.Errorf("RelJoin with the arities %d and %d, %d: %s %v", i, j, n, relShown(got), ok)
					}
					if want && n == 0 && len(got.Rows) != len(pair[0].Rows)*len(pair[1].Rows) {
						t.Errorf("RelJoin of all with all: %s of %s and %s", relShown(got), relShown(pair[0]), relShown(pair[1]))
					}
				}
			}
		}
	}
}

// fan has each of the numbers from 0 to heads - 1 beside each from 0 to tails - 1.
func fan(heads int, tails int) impl.Rel {
	r := relOf(2)
	for i := range heads {
		for j := range tails {
			r.Rows = append(r.Rows, rowOf(num(i), num(j)))
		}
	}
	return r
}

func countTo(n int) impl.Rel {
	r := relOf(1)
	for i := range n {
		r.Rows = append(r.Rows, rowOf(num(i)))
	}
	return r
}

// TestRelJoinHowManyRows has what counts: the rows that come, not the pairs that are held against one another.
func TestRelJoinHowManyRows(t *testing.T) {
	chain := relOf(2)
	for i := range impl.MaxRows {
		chain.Rows = append(chain.Rows, rowOf(num(i), num(i+1)))
	}
	far := relOf(2)
	for i := range impl.MaxRows {
		far.Rows = append(far.Rows, rowOf(num(impl.MaxRows+i), num(0)))
	}
	one := relOf(2, append(fan(1, 9).Rows, rowOf(num(5), num(300)))...)
	for _, c := range []struct {
		name string
		a, b impl.Rel
		n    int
		want int
	}{
		{"all pairs, just full", countTo(15), countTo(20), 0, 300}, {"all pairs, full by one", countTo(300), countTo(1), 0, 300}, {"one by all", countTo(1), countTo(300), 0, 300},
		{"all pairs, one too many", countTo(7), countTo(43), 0, -1}, {"the other way", countTo(43), countTo(7), 0, -1}, {"all with all", countTo(300), countTo(300), 0, -1},
		{"two by all", countTo(2), countTo(300), 0, -1}, {"all by two", countTo(300), countTo(2), 0, -1}, {"all by none", countTo(300), relOf(1), 0, 0}, {"none by all", relOf(1), countTo(300), 0, 0},
		{"full and full, each with one", countTo(300), countTo(300), 1, 300}, {"full chains", chain, chain, 1, 299}, {"full chains, whole rows", chain, chain, 2, 300}, {"full, whole rows", far, far, 2, 300},
		{"full, meeting in one", chain, far, 1, 1}, {"full, not meeting", far, relOf(2, chain.Rows[1:]...), 1, 0}, {"fans, just full", fan(300, 1), fan(1, 1), 1, 300}, {"fans, full in the midst", fan(15, 1), fan(1, 20), 1, 300},
		{"fans, too many", fan(7, 1), fan(1, 43), 1, -1}, {"fans of all", fan(150, 1), fan(1, 150), 1, -1}, {"late, just full", fan(1, 300), fan(300, 1), 1, 300}, {"late, one less and one more", relOf(2, append(fan(1, 300).Rows, rowOf(num(1), num(299)))[1:]...), fan(300, 1), 1, 300},
		{"last one too many", relOf(2, append(fan(1, 299).Rows, rowOf(num(1), num(298)))...), relOf(2, append(fan(299, 1).Rows, rowOf(num(298), num(1)))...), 1, -1},
		{"a few with a full one", one, chain, 1, 9},
	} {
		got, ok := checkJoin(t, c.a, c.b, c.n)
		if ok != (c.want >= 0) || len(got.Rows) != max(c.want, 0) {
			t.Errorf("RelJoin, %s: %d rows %v, not %d", c.name, len(got.Rows), ok, c.want)
		}
	}
}

// TestRelJoinManyOnTheWay has relations of which far more than MaxRows pairs agree in a part of what is asked.
func TestRelJoinManyOnTheWay(t *testing.T) {
	a, b := relOf(3), relOf(3)
	for i := range impl.MaxRows {
		a.Rows = append(a.Rows, rowOf(num(i), num(1), num(i+1)))
		b.Rows = append(b.Rows, rowOf(num(1), num(i), word("x")))
	}
	for _, c := range []struct{ n, want int }{{0, -1}, {2, 299}} {
		if got, ok := checkJoin(t, a, b, c.n); ok != (c.want >= 0) || len(got.Rows) != max(c.want, 0) {
			t.Errorf("RelJoin with n %d: %d rows %v, not %d", c.n, len(got.Rows), ok, c.want)
		}
	}
	// The same with one value asked in the front, where all would meet, and all three, where none does.
	front, ok := impl.RelCols(b, []int{1, 0, 2})
	if !ok {
		t.Fatal("columns turned")
	}
	if got, ok := checkJoin(t, a, front, 3); !ok || len(got.Rows) != 0 {
		t.Errorf("RelJoin of whole rows that differ: %s %v", relShown(got), ok)
	}
}

func TestRelJoinWhereWrong(t *testing.T) {
	rights := []impl.Rel{relOf(0), relOf(0, impl.Row{}), relOf(1), numRel(10, 20), countedRel(2, 3), countedRel(6, 2), countedRel(1, impl.MaxRows)}
	for _, w := range append(wrongRels(), tooManyRows()...) {
		for _, r := range append(slices.Clone(rights), w) {
			for _, n := range []int{-1, 0, 1, 2} {
				for _, pair := range [][2]impl.Rel{{w, r}, {r, w}} {
					if got, ok := impl.RelJoin(pair[0], pair[1], n); ok || !noRel(got) {
						t.Errorf("RelJoin of %s and %s, %d: %s %v", relShown(pair[0]), relShown(pair[1]), n, relShown(got), ok)
					}
				}
			}
		}
		checkJoin(t, w, rights[3], 0)
		checkJoin(t, rights[3], w, 1)
	}
}

func TestEveryPairJoined(t *testing.T) {
	l := append(rightRels(), fewWrongRels()...)
	for _, a := range l {
		for _, b := range l {
			for n := -1; n <= impl.MaxArity+1; n++ {
				got, ok := impl.RelJoin(a, b, n)
				if want, wantOk := joinSpelled(a, b, n); ok != wantOk || !sameRel(got, want) {
					t.Errorf("RelJoin of %s and %s, %d: %s %v, not %s %v", relShown(a), relShown(b), n, relShown(got), ok, relShown(want), wantOk)
				}
			}
		}
	}
}

// chainRel leads on from a number by n rows, each by so much.
func chainRel(from int, n int, by int) impl.Rel {
	l := [][2]int{}
	for i := range n {
		l = append(l, [2]int{from + i*by, from + (i+1)*by})
	}
	return pairRel(l...)
}

func ringRel(from int, n int) impl.Rel {
	l := [][2]int{}
	for i := range n {
		l = append(l, [2]int{from + i, from + (i+1)%n})
	}
	return pairRel(l...)
}

// apartRel has n rows none of which leads on to another.
func apartRel(n int) impl.Rel {
	l := [][2]int{}
	for i := range n {
		l = append(l, [2]int{10000 + 2*i, 10001 + 2*i})
	}
	return pairRel(l...)
}

// together has the rows of all of l.
func together(l ...impl.Rel) impl.Rel {
	rows := []impl.Row{}
	for _, r := range l {
		rows = append(rows, r.Rows...)
	}
	return gathered(2, rows...)
}

func TestRelReachByHand(t *testing.T) {
	loop := pairRel([2]int{3, 3})
	for _, c := range []struct{ r, want impl.Rel }{
		{relOf(2), relOf(2)}, {pairRel([2]int{1, 2}), pairRel([2]int{1, 2})}, {loop, loop}, {pairRel([2]int{2, 1}), pairRel([2]int{2, 1})},
		{pairRel([2]int{1, 2}, [2]int{2, 3}), pairRel([2]int{1, 2}, [2]int{1, 3}, [2]int{2, 3})}, {pairRel([2]int{2, 3}, [2]int{3, 1}), pairRel([2]int{2, 1}, [2]int{2, 3}, [2]int{3, 1})},
		{pairRel([2]int{1, 2}, [2]int{2, 1}), fanFrom(1, 2)}, {ringRel(1, 3), fanFrom(1, 3)}, {fanFrom(1, 4), fanFrom(1, 4)},
		{pairRel([2]int{1, 2}, [2]int{3, 4}), pairRel([2]int{1, 2}, [2]int{3, 4})}, {pairRel([2]int{1, 2}, [2]int{3, 2}), pairRel([2]int{1, 2}, [2]int{3, 2})}, {pairRel([2]int{1, 2}, [2]int{1, 3}), pairRel([2]int{1, 2}, [2]int{1, 3})},
		{pairRel([2]int{1, 2}, [2]int{2, 2}), pairRel([2]int{1, 2}, [2]int{2, 2})}, {together(chainRel(1, 2, 1), chainRel(11, 2, 1)), pairRel([2]int{1, 2}, [2]int{1, 3}, [2]int{2, 3}, [2]int{11, 12}, [2]int{11, 13}, [2]int{12, 13})},
		{chainRel(1, 3, 1), pairRel([2]int{1, 2}, [2]int{1, 3}, [2]int{1, 4}, [2]int{2, 3}, [2]int{2, 4}, [2]int{3, 4})},
		{relOf(2, rowOf(num(1), word("a")), rowOf(word("a"), word("b")), rowOf(word("b"), num(0))), relOf(2, rowOf(num(1), num(0)), rowOf(num(1), word("a")), rowOf(num(1), word("b")), rowOf(word("a"), num(0)), rowOf(word("a"), word("b")), rowOf(word("b"), num(0)))},
		{relOf(2, rowOf(num(1), word("n1")), rowOf(word("n2"), num(1))), relOf(2, rowOf(num(1), word("n1")), rowOf(word("n2"), num(1)), rowOf(word("n2"), word("n1")))},
	} {
		if got, ok := checkReach(t, c.r); !ok || !sameRel(got, c.want) {
			t.Errorf("RelReach of %s: %s %v, not %s", relShown(c.r), relShown(got), ok, relShown(c.want))
		}
	}
}

// fanFrom leads from each of n numbers to each of them.
func fanFrom(from int, n int) impl.Rel {
	r := fan(n, n)
	for i := range r.Rows {
		r.Rows[i].V[0].N += from
		r.Rows[i].V[1].N += from
	}
	return r
}

func TestRelReachOtherArities(t *testing.T) {
	for arity := range impl.MaxArity + 1 {
		for _, r := range []impl.Rel{relOf(arity), relOf(arity, mixedRow(arity))} {
			if got, ok := checkReach(t, r); ok != (arity == 2) || !ok && !noRel(got) {
				t.Errorf("RelReach of the arity %d: %s %v", arity, relShown(got), ok)
			}
		}
		if arity > 0 {
			if _, ok := checkReach(t, countedRel(arity, 3)); ok != (arity == 2) {
				t.Errorf("RelReach of three rows of the arity %d: %v", arity, ok)
			}
		}
	}
}

func TestRelReachChainsAndRings(t *testing.T) {
	for n := 1; n <= 40; n++ {
		for _, by := range []int{1, 3} {
			got, ok := checkReach(t, chainRel(0, n, by))
			if want := n * (n + 1) / 2; ok != (want <= 300) || ok && len(got.Rows) != want {
				t.Errorf("RelReach of a chain of %d rows: %d rows %v", n, len(got.Rows), ok)
			}
		}
		got, ok := checkReach(t, ringRel(5, n))
		if ok != (n*n <= 300) || ok && !sameRel(got, fanFrom(5, n)) {
			t.Errorf("RelReach of a ring of %d rows: %d rows %v", n, len(got.Rows), ok)
		}
	}
}

// TestRelReachHowManyRows has what counts: the rows that come, not the ways that lead to them.
func TestRelReachHowManyRows(t *testing.T) {
	for _, c := range []struct {
		name string
		r    impl.Rel
		want int
	}{
		{"a chain, just full", chainRel(0, 24, 1), 300}, {"a chain and one apart", together(chainRel(0, 24, 1), apartRel(1)), -1}, {"a chain less, and as many apart", together(chainRel(0, 23, 1), apartRel(24)), 300},
		{"a chain less, and one more", together(chainRel(0, 23, 1), apartRel(25)), -1}, {"a ring and eleven", together(ringRel(0, 17), apartRel(11)), 300}, {"a ring and twelve", together(ringRel(0, 17), apartRel(12)), -1},
		{"full and closed", apartRel(300), 300}, {"full, and one would come", together(chainRel(0, 2, 1), apartRel(298)), -1}, {"nearly full, and one comes", together(chainRel(0, 2, 1), apartRel(297)), 300},
		{"all with all", fan(17, 17), 289}, {"all with all and more", together(fan(17, 17), apartRel(11)), 300}, {"a chain's reach", together(chainRel(0, 24, 1), pairRel([2]int{0, 24}, [2]int{0, 2})), 300},
		{"in and out", star(15, 16), 271}, {"in and out, full", together(star(16, 16), apartRel(12)), 300}, {"in and out, one more", together(star(16, 16), apartRel(13)), -1}, {"in and out of all", star(150, 150), -1},
		{"a long chain", chainRel(0, 300, 1), -1}, {"a long ring", ringRel(0, 300), -1}, {"a ring of eighteen", ringRel(0, 18), -1}, {"loops alone", loops(300), 300}, {"loops and a step", together(loops(299), pairRel([2]int{0, 1})), 300},
	} {
		got, ok := checkReach(t, c.r)
		if ok != (c.want >= 0) || len(got.Rows) != max(c.want, 0) {
			t.Errorf("RelReach, %s: %d rows %v, not %d", c.name, len(got.Rows), ok, c.want)
		}
	}
}

// star leads from in numbers to one, and from there to out others.
func star(in int, out int) impl.Rel {
	l := [][2]int{}
	for i := range in {
		l = append(l, [2]int{i, 5000})
	}
	for i := range out {
		l = append(l, [2]int{5000, 6000 + i})
	}
	return pairRel(l...)
}

func loops(n int) impl.Rel {
	l := [][2]int{}
	for i := range n {
		l = append(l, [2]int{i, i})
	}
	return pairRel(l...)
}

func TestRelReachWhereWrong(t *testing.T) {
	for _, r := range append(wrongRels(), append(tooManyRows(), apartRel(301), swapped(chainRel(0, 3, 1), 0, 1), pairRel([2]int{-1, 2}), pairRel([2]int{1, impl.MaxNum + 1}))...) {
		if got, ok := checkReach(t, r); ok || !noRel(got) {
			t.Errorf("RelReach of %s: %s %v", relShown(r), relShown(got), ok)
		}
	}
}

// TestRelReachEverySmall has every relation between three values.
func TestRelReachEverySmall(t *testing.T) {
	values := []impl.Value{num(2), num(10), word("a")}
	for bits := range 1 << 9 {
		r := relOf(2)
		for i := range 9 {
			if bits>>i&1 == 1 {
				r.Rows = append(r.Rows, rowOf(values[i/3], values[i%3]))
			}
		}
		if _, ok := checkReach(t, r); !ok {
			t.Errorf("RelReach of %s is refused", relShown(r))
		}
	}
}

// nodesRel has rows between so many nodes, half of them words.
func nodesRel(next func() int, nodes int, rows int) impl.Rel {
	node := func() impl.Value {
		n := next() % nodes
		if n%2 == 0 {
			return num(n)
		}
		return word("n" + impl.NumText(n))
	}
	l := []impl.Row{}
	for range rows {
		l = append(l, rowOf(node(), node()))
	}
	return gathered(2, l...)
}

func TestManyReached(t *testing.T) {
	next := scatter(1102)
	refused := 0
	for range 400 {
		nodes := 1 + next()%40
		if _, ok := checkReach(t, nodesRel(next, nodes, next()%(2*nodes+2))); !ok {
			refused++
		}
	}
	if refused < 10 || refused > 200 {
		t.Errorf("of 400 relations %d were refused", refused)
	}
}

func TestManyPickedAndCut(t *testing.T) {
	next := scatter(1103)
	for range 3000 {
		arity := next() % 7
		r := scatteredRel(next, arity)
		v := scatteredValue(next)
		if len(r.Rows) > 0 && arity > 0 && next()%3 > 0 {
			v = r.Rows[next()%len(r.Rows)].V[next()%arity]
		}
		checkPick(t, r, next()%(arity+2)-next()%2, v)
		cols := []int{}
		for range next() % 8 {
			cols = append(cols, next()%max(arity, 1))
		}
		if len(cols) > 0 && next()%12 == 0 {
			cols[next()%len(cols)] = next()%12 - 4
		}
		checkCols(t, r, cols...)
	}
}

func TestManyJoined(t *testing.T) {
	next := scatter(1104)
	rows, refused := 0, 0
	for range 4000 {
		i, j := next()%7, next()%7
		if next()%4 > 0 {
			i, j = next()%4, next()%4
		}
		n := next()%(min(i, j)+2) - next()%9/8
		got, ok := checkJoin(t, scatteredRel(next, i), scatteredRel(next, j), n)
		rows += len(got.Rows)
		if !ok {
			refused++
		}
	}
	if rows < 5000 || refused < 200 || refused > 3500 {
		t.Errorf("of 4000 joins %d were refused, and %d rows came", refused, rows)
	}
}

// TestManyAlgebraSpoiled has relations that are nearly right.
func TestManyAlgebraSpoiled(t *testing.T) {
	next := scatter(1105)
	wrong := wrongValues()
	for range 2000 {
		arity := 1 + next()%3
		a, b := scatteredRel(next, arity), scatteredRel(next, arity)
		if n := len(a.Rows); n > 0 {
			at := next() % n
			switch next() % 4 {
			case 0:
				a = swapped(a, at, next()%n)
			case 1:
				a = rowBetween(a, at, a.Rows[next()%n])
			case 2:
				a.Arity = next()%12 - 3
			case 3:
				a.Rows[at].V[next()%arity] = wrong[next()%len(wrong)]
			}
		}
		checkPick(t, a, next()%3, num(next()%3))
		checkCols(t, a, next()%2, next()%3)
		checkJoin(t, a, b, next()%2)
		checkJoin(t, b, a, next()%2)
		checkReach(t, a)
	}
}

// TestAlgebraFitsTogether has what holds between the four functions and those of sets.
func TestAlgebraFitsTogether(t *testing.T) {
	next := scatter(1106)
	s := sets{t}
	for range 400 {
		a, b, c := nodesRel(next, 6, next()%8), nodesRel(next, 6, next()%8), nodesRel(next, 6, next()%8)
		v := num(next() % 6)
		picked := s.must(impl.RelPick(a, 0, v))
		for i, pair := range [][2]impl.Rel{
			{s.must(impl.RelJoin(relOf(1, rowOf(v)), a, 1)), picked}, {s.must(impl.RelJoin(a, a, 2)), a}, {s.must(impl.RelJoin(a, b, 2)), s.both(a, b)},
			{s.must(impl.RelCols(s.must(impl.RelCols(a, []int{1, 0})), []int{1, 0})), a}, {s.must(impl.RelPick(s.must(impl.RelCols(a, []int{1, 0})), 1, v)), s.must(impl.RelCols(picked, []int{1, 0}))},
			{s.union(s.must(impl.RelJoin(a, b, 1)), s.must(impl.RelJoin(a, c, 1))), s.must(impl.RelJoin(a, s.union(b, c), 1))},
			{s.must(impl.RelJoin(s.must(impl.RelJoin(a, b, 1)), c, 1)), s.must(impl.RelJoin(a, s.must(impl.RelJoin(b, c, 1)), 1))},
			{s.must(impl.RelReach(s.must(impl.RelCols(a, []int{1, 0})))), s.must(impl.RelCols(s.must(impl.RelReach(a)), []int{1, 0}))},
			{s.must(impl.RelReach(s.union(a, b))), s.must(impl.RelReach(s.union(s.must(impl.RelReach(a)), s.must(impl.RelReach(b)))))},
			{s.union(s.must(impl.RelReach(a)), a), s.must(impl.RelReach(a))},
		} {
			if !impl.SameRel(pair[0], pair[1]) {
				t.Errorf("law %d of %s, %s, %s and %s: %s and %s", i, relShown(a), relShown(b), relShown(c), shown(v), relShown(pair[0]), relShown(pair[1]))
			}
		}
	}
}

// TestAlgebraAnswersApart has arguments whose rows lie in one list of values, and arguments that are one another's.
func TestAlgebraAnswersApart(t *testing.T) {
	l := []impl.Value{num(1), num(2), num(3), num(4), num(5)}
	r := relOf(2, rowOf(l[0:2]...), rowOf(l[1:3]...), rowOf(l[2:4]...), rowOf(l[3:5]...))
	before, given := copyRel(r), append(relSpots(relOf(0, r.Rows...))[:4], spots(l)...)
	answers := []impl.Rel{}
	keep := func(got impl.Rel, ok bool) {
		t.Helper()
		if !ok {
			t.Error("refused")
		}
		checkAnswer(t, got, ok, given)
		answers = append(answers, got)
	}
	keep(impl.RelPick(r, 0, num(2)))
	keep(impl.RelPick(relOf(2, rowOf(l[0:2]...)), 1, num(2)))
	keep(impl.RelCols(r, []int{0, 1}))
	keep(impl.RelCols(r, []int{1, 1, 0}))
	for n := range 3 {
		keep(impl.RelJoin(r, r, n))
	}
	keep(impl.RelJoin(r, relOf(0, impl.Row{V: l[:0]}), 0))
	keep(impl.RelJoin(relOf(0, impl.Row{V: l[:0]}), r, 0))
	keep(impl.RelReach(r))
	keep(impl.RelReach(relOf(2, r.Rows[0], r.Rows[2])))
	for _, got := range answers {
		for i, row := range got.Rows {
			got.Rows[i].V = append(row.V, num(98))
			got.Rows[i].V[0] = num(99)
		}
	}
	if !sameRel(r, before) || !slices.Equal(l, []impl.Value{num(1), num(2), num(3), num(4), num(5)}) {
		t.Error("writing to an answer changed an argument")
	}
}

// TestAlgebraSpareRoom has a relation that is the front of a longer list of rows.
func TestAlgebraSpareRoom(t *testing.T) {
	whole := chainRel(0, 12, 1)
	keep := copyRel(whole)
	for n := range 13 {
		front, back := relOf(2, whole.Rows[:n]...), relOf(2, whole.Rows[n:]...)
		impl.RelReach(front)
		impl.RelReach(back)
		impl.RelPick(front, 0, num(1))
		impl.RelCols(front, []int{1, 0})
		for k := range 3 {
			impl.RelJoin(front, back, k)
			impl.RelJoin(back, front, k)
			impl.RelJoin(front, whole, k)
		}
		if !sameRel(whole, keep) {
			t.Fatalf("a call on the first %d rows changed what lies behind them", n)
		}
	}
}

// TestAlgebraTwice asks the same twice, with other calls between.
func TestAlgebraTwice(t *testing.T) {
	next := scatter(1107)
	for range 100 {
		a, b := nodesRel(next, 8, 9), nodesRel(next, 8, 9)
		first, ok := impl.RelJoin(a, b, 1)
		reach, reached := impl.RelReach(a)
		impl.RelJoin(b, a, 1)
		impl.RelReach(b)
		second, also := impl.RelJoin(a, b, 1)
		again, too := impl.RelReach(a)
		if ok != also || reached != too || !sameRel(first, second) || !sameRel(reach, again) {
			t.Errorf("%s and %s are answered in two ways", relShown(a), relShown(b))
		}
	}
}
