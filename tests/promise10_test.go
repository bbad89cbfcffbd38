package tests

import (
	"fmt"
	"math"
	"slices"
	"strings"
	"testing"

	"loop.example/g00920/impl"
)

// emptied returns rows in which the cells of some numbers are empty.
func emptied(a [][]int64, numbers []int64) [][]int64 {
	n := int64(len(a))
	return slowFill(n, func(x, y int64) int64 {
		if slices.Contains(numbers, n*x+y) {
			return -1
		}
		return a[x][y]
	})
}

func emptyPartial(n int64) [][]int64 { return emptied(slowCyclic(n), upTo(n*n)) }

// slowIsPartial compares each cell with all others of its row and its column.
func slowIsPartial(p [][]int64) bool {
	n := len(p)
	if n < 1 || n > 10 {
		return false
	}
	for _, row := range p {
		if len(row) != n {
			return false
		}
	}
	for x := range n {
		for y := range n {
			for i := range n {
				if p[x][y] >= 0 && (i != y && p[x][i] == p[x][y] || i != x && p[i][y] == p[x][y]) {
					return false
				}
			}
			if p[x][y] < -1 || p[x][y] >= int64(n) {
				return false
			}
		}
	}
	return true
}

// smallPartials are all partial squares of an order of at most 3.
func smallPartials(n int64) [][][]int64 {
	var all [][][]int64
	for number := range power(n+1, n*n) {
		digits := slowDigits(number, n+1, n*n)
		p := slowFill(n, func(x, y int64) int64 { return digits[n*x+y] - 1 })
		if slowIsPartial(p) {
			all = append(all, p)
		}
	}
	return all
}

// greatPartials are partial squares of the orders 4 to 10, with and without completions.
func greatPartials() [][][]int64 {
	four := slowSquares(4)
	var list [][][]int64
	for i, a := range slices.Concat(greatSquares(), brokenSquares(), [][][]int64{four[0], four[100], four[333], slowCyclic(4)}) {
		n := int64(len(a))
		order := slices.Concat(mixed(min(n*n, 32), int64(i)), upTo(n * n)[min(n*n, 32):])
		for _, share := range []int64{0, 1, 2, 3, 5, 8, 10} {
			p := emptied(a, order[:n*n*share/10])
			list = append(list, p)
			// Another symbol in one more cell often leaves no completion.
			for _, symbol := range []int64{0, n / 2, n - 1} {
				q := changed(p, int(n/2), int(n-1), symbol)
				if slowIsPartial(q) {
					list = append(list, q)
				}
			}
		}
		list = append(list, emptied(a, upTo(n * n)[n*n-min(n*n, 2*n+3):]), emptied(a, upTo(n * n)[n:]), emptied(a, upTo(n * n)[:n+2]))
	}
	return list
}

// somePartials are all partial squares of the orders 1 and 2, and some of the greater orders.
func somePartials() [][][]int64 {
	list := slices.Concat(smallPartials(1), smallPartials(2))
	for i, p := range smallPartials(3) {
		if i%23 == 0 {
			list = append(list, p)
		}
	}
	return slices.Concat(list, greatPartials(), stuckPartials())
}

// stuckPartials have an empty cell without candidates.
func stuckPartials() [][][]int64 {
	nine := slowFill(10, func(x, y int64) int64 {
		switch {
		case x == 9 && y < 9:
			return y
		case x == 0 && y == 9:
			return 9
		}
		return -1
	})
	return [][][]int64{{{0, -1}, {-1, 1}}, {{-1, 0}, {1, -1}}, {{0, 1, -1}, {-1, -1, 2}, {-1, -1, -1}}, {{-1, -1, -1}, {2, -1, -1}, {-1, 0, 1}}, nine}
}

// notPartials are lists of rows that break one of the conditions each.
func notPartials() [][][]int64 {
	three, ten := slowCyclic(3), slowCyclic(10)
	list := [][][]int64{
		nil, {}, {nil}, {{}}, {{1}}, {{-2}}, {{math.MinInt64}}, {{math.MaxInt64}}, {{256}}, {{255}}, {{1 << 32}}, {{1<<32 - 1}}, {{32}}, {{0, -1}}, {{-1}, {-1}}, {{-1, -1}}, {{-1, -1}, nil}, {nil, {-1, -1}},
		{{-1, -1}, {-1}}, {{-1}, {-1, -1}}, {{-1, -1}, {-1, -1, -1}}, {{-1, -1}, {-1, -1}, {-1, -1}}, {{-1, -1, -1}, {-1, -1, -1}}, {{0, 0}, {-1, -1}}, {{0, -1}, {0, -1}}, {{-1, 1}, {-1, 1}}, {{-1, -1}, {1, 1}},
		{{0, 1}, {-1, 1}}, {{2, -1}, {-1, -1}}, {{-1, -1}, {-1, 2}}, {{-1, -2}, {-1, -1}}, {{-1, -1}, {-3, -1}}, {{-1, -1}, {-1, math.MinInt64}}, {{-1, -1}, {-1, math.MaxInt64}}, {{-1, -1}, {-1, 33}}, {{-1, -1}, {-1, 64}},
		{{0, -1, 0}, {-1, -1, -1}, {-1, -1, -1}}, {{2, -1, -1}, {-1, -1, -1}, {2, -1, -1}}, {{-1, -1, -1}, {-1, -1, -1}, {-1, -1, 3}}, changed(three, 0, 0, 3), changed(three, 2, 2, 0), changed(three, 1, 1, -2), three[:2],
		emptied(ten, upTo(50))[:9], changed(emptied(ten, upTo(99)), 0, 9, 8), changed(emptied(ten, upTo(99)), 9, 0, 8), changed(emptyPartial(10), 9, 9, 10), emptyPartial(11), emptyPartial(12), emptyPartial(33), slowCyclic(11),
		slices.Repeat([][]int64{{-1}}, 1000), {repeated(1000, -1)},
	}
	for _, bad := range notSquares() {
		if !slowIsPartial(bad) {
			list = append(list, bad)
		}
	}
	return list
}

func TestValidPartial(t *testing.T) {
	same(t, "limit", impl.MaxLimit, 1000)
	for _, c := range []struct{ n, numbers, least, valid int64 }{{1, 5, -3, 2}, {2, 5, -2, 35}, {3, 4, -1, 11776}} {
		valid := int64(0)
		for number := range power(c.numbers, c.n*c.n) {
			digits := slowDigits(number, c.numbers, c.n*c.n)
			p := slowFill(c.n, func(x, y int64) int64 { return digits[c.n*x+y] + c.least })
			if impl.ValidPartial(p) != slowIsPartial(p) {
				t.Errorf("validity of %v: got %v", p, impl.ValidPartial(p))
			}
			if impl.ValidPartial(p) {
				valid++
			}
		}
		same(t, fmt.Sprint("partial squares of order ", c.n), valid, c.valid)
	}
	for _, p := range slices.Concat(greatPartials(), someSquares(), stuckPartials()) {
		same(t, fmt.Sprint("validity of ", p), []bool{slowIsPartial(p), impl.ValidPartial(p)}, []bool{true, true})
	}
	for _, bad := range notPartials() {
		same(t, fmt.Sprintf("validity of %.99v", fmt.Sprint(bad)), []bool{slowIsPartial(bad), impl.ValidPartial(bad)}, []bool{false, false})
	}
	for n := int64(1); n <= 12; n++ {
		same(t, fmt.Sprint("validity of the empty partial square of order ", n), impl.ValidPartial(emptyPartial(n)), n <= 10)
	}
}

// cellsThat returns the numbers of the cells that are empty, or of those that are not.
func cellsThat(p [][]int64, empty bool) []int64 {
	var numbers []int64
	for x, row := range p {
		for y, symbol := range row {
			if (symbol == -1) == empty {
				numbers = append(numbers, int64(len(p)*x+y))
			}
		}
	}
	return numbers
}

func TestFilledAndClearedCells(t *testing.T) {
	for _, p := range somePartials() {
		n := int64(len(p))
		same(t, fmt.Sprint("filled cells of ", p), impl.FilledCells(p), len(cellsThat(p, false)))
		for _, cells := range [][]int64{nil, {0}, {n*n - 1}, {0, 0, 0}, {n*n - 1, 0}, upTo(n), upTo(n * n), reversed(n * n), cellsThat(p, true), cellsThat(p, false), slices.Repeat(upTo(n*n), 3)} {
			q, code := impl.ClearCells(p, cells)
			same(t, fmt.Sprint(p, " without ", cells), []any{q, code}, []any{emptied(p, cells), impl.OK})
			same(t, fmt.Sprint(p, " without ", cells, ", validity"), impl.ValidPartial(q), true)
		}
		for _, wrong := range []int64{-1, -2, n * n, n*n + 1, 100 + n*n, 256, 1 << 32, -1 << 32, math.MinInt64, math.MaxInt64} {
			for _, cells := range [][]int64{{wrong}, {0, wrong}, {wrong, 0}, append(upTo(n*n), wrong), {wrong, wrong}} {
				q, code := impl.ClearCells(p, cells)
				failed(t, fmt.Sprint(p, " without ", cells), code, impl.ErrRange, q)
			}
		}
	}
	for n := int64(1); n <= 10; n++ {
		same(t, fmt.Sprint("filled cells, order ", n), []int64{impl.FilledCells(emptyPartial(n)), impl.FilledCells(slowCyclic(n))}, []int64{0, n * n})
	}
}

// slowCandidates returns the symbols that are in no cell of a row or a column.
func slowCandidates(p [][]int64, x, y int64) []int64 {
	var list []int64
	for symbol := range int64(len(p)) {
		if !slices.Contains(p[x], symbol) && !slices.Contains(column(p, y), symbol) {
			list = append(list, symbol)
		}
	}
	return list
}

// checkCell checks the candidates of a cell, and what fills it.
func checkCell(t *testing.T, p [][]int64, x, y int64) {
	t.Helper()
	n := int64(len(p))
	what := fmt.Sprint("cell ", x, " ", y, " of ", p)
	list, code := impl.CandidatesAt(p, x, y)
	symbols := append(upTo(n), -1, -2, n, n+1, 31, 32, 64, 256, 1<<32, -1<<32, math.MinInt64, math.MaxInt64)
	if p[x][y] != -1 {
		failed(t, what, code, impl.ErrState, list)
		for _, symbol := range symbols {
			q, code := impl.FillCell(p, x, y, symbol)
			failed(t, fmt.Sprint(what, ", symbol ", symbol), code, impl.ErrState, q)
		}
		return
	}
	candidates := slowCandidates(p, x, y)
	same(t, what, []any{list, code}, []any{candidates, impl.OK})
	for _, symbol := range symbols {
		q, code := impl.FillCell(p, x, y, symbol)
		if !slices.Contains(candidates, symbol) {
			failed(t, fmt.Sprint(what, ", symbol ", symbol), code, impl.ErrExists, q)
			continue
		}
		same(t, fmt.Sprint(what, ", symbol ", symbol), []any{q, code}, []any{changed(p, int(x), int(y), symbol), impl.OK})
		back, code := impl.ClearCells(q, []int64{n*x + y})
		same(t, fmt.Sprint(what, ", symbol ", symbol, ", cleared"), []any{back, code, impl.ValidPartial(q)}, []any{p, impl.OK, true})
	}
}

func TestCandidates(t *testing.T) {
	t.Parallel()
	for i, p := range somePartials() {
		n := int64(len(p))
		for x := range n {
			for y := range n {
				if n < 6 || (x+y+int64(i))%5 == 0 {
					checkCell(t, p, x, y)
				}
			}
		}
		for _, wrong := range []int64{-1, n, n + 1, 10, 11, 32, 256, 1 << 32, -1 << 32, math.MinInt64, math.MaxInt64} {
			for _, other := range []int64{0, n - 1, wrong, -1} {
				for _, place := range [][2]int64{{wrong, other}, {other, wrong}} {
					list, one := impl.CandidatesAt(p, place[0], place[1])
					failed(t, fmt.Sprint("candidates at ", place, " of ", p), one, impl.ErrRange, list)
					for _, symbol := range []int64{0, -1, n, math.MaxInt64} {
						q, two := impl.FillCell(p, place[0], place[1], symbol)
						failed(t, fmt.Sprint("filling at ", place, " of ", p), two, impl.ErrRange, q)
					}
				}
			}
		}
	}
	none, code := impl.CandidatesAt([][]int64{{0, -1}, {-1, 1}}, 0, 1)
	same(t, "no candidates", []any{none, code}, []any{[]int64{}, impl.OK})
	all, code := impl.CandidatesAt(emptyPartial(10), 9, 9)
	same(t, "order 10", []any{all, code}, []any{upTo(10), impl.OK})
}

// slowPropagate fills the first cell with one candidate, again and again. It reports whether no cell is without candidates.
func slowPropagate(p [][]int64) ([][]int64, bool) {
	n := int64(len(p))
	right := true
	for _, number := range cellsThat(p, true) {
		list := slowCandidates(p, number/n, number%n)
		if len(list) == 1 {
			return slowPropagate(changed(p, int(number/n), int(number%n), list[0]))
		}
		right = right && len(list) > 0
	}
	return p, right
}

func TestPropagation(t *testing.T) {
	t.Parallel()
	found, lost := 0, 0
	for _, p := range slices.Concat(smallPartials(3), somePartials(), criticalSets()) {
		want, right := slowPropagate(p)
		what := fmt.Sprint("propagation of ", p)
		q, code := impl.PropagatePartial(p)
		before := slowFillingsOf(p)
		if !right {
			lost++
			failed(t, what, code, impl.ErrNotFound, q)
			same(t, what+", completions", len(before.list), 0)
			continue
		}
		found++
		same(t, what, []any{q, code}, []any{want, impl.OK})
		after := slowFillingsOf(q)
		if before.nodes <= impl.MaxBudget && len(before.list) <= impl.MaxLimit {
			same(t, what+", completions", after.list, before.list)
		}
		again, code := impl.PropagatePartial(q)
		same(t, what+", again", []any{again, code}, []any{q, impl.OK})
	}
	if found < 1000 || lost < 1000 {
		t.Errorf("propagations: %d found, %d lost", found, lost)
	}
}

func TestPropagationExamples(t *testing.T) {
	for _, c := range [][2]string{
		{"01./1../...", "012/120/201"}, {"0../.../...", "0../.../..."}, {".", "0"}, {"0", "0"}, {"../..", "../.."}, {"1./..", "10/01"}, {"012/120/201", "012/120/201"}, {"012/.../...", "012/.../..."},
		{"01./..2/...", ""}, {"0./.1", ""}, {".../2../.01", ""}, {"0123/1032/23../32..", "0123/1032/23../32.."}, {"0123/1032/230./32..", "0123/1032/2301/3210"},
		// Two cells of the first column have only the candidate 1.
		{"..23/..32/01../....", ""}, {"0.../.0../..1./...1", "0.../.0../..1./...1"},
	} {
		p, ok := impl.ReadPartial(c[0])
		q, code := impl.PropagatePartial(p)
		want := int64(impl.OK)
		if c[1] == "" {
			want = impl.ErrNotFound
		}
		same(t, "propagation of "+c[0], []any{ok, impl.PartialText(q), code}, []any{true, c[1], want})
	}
}

// slowFillings has the first completions of a partial square, at most 1001, and how many nodes are visited until each is found.
type slowFillings struct {
	partial [][]int64
	cells   []int64
	list    [][][]int64
	after   []int64
	// nodes are those of the whole search, or more than MaxBudget.
	nodes int64
}

func slowFillingsOf(p [][]int64) *slowFillings {
	s := &slowFillings{partial: emptied(p, nil), cells: cellsThat(p, true)}
	s.extend(0)
	return s
}

// extend tries all candidates in the cell with an index. It stops if nothing more is to be known.
func (s *slowFillings) extend(index int) {
	if index == len(s.cells) {
		s.list, s.after = append(s.list, emptied(s.partial, nil)), append(s.after, s.nodes)
		return
	}
	n := int64(len(s.partial))
	x, y := s.cells[index]/n, s.cells[index]%n
	for _, symbol := range slowCandidates(s.partial, x, y) {
		if s.nodes > impl.MaxBudget || len(s.list) > impl.MaxLimit {
			break
		}
		s.nodes++
		s.partial[x][y] = symbol
		s.extend(index + 1)
	}
	s.partial[x][y] = -1
}

// needed returns how many nodes are visited for a limit.
func (s *slowFillings) needed(limit int) int64 {
	if limit <= len(s.list) {
		return s.after[limit-1]
	}
	return s.nodes
}

func (s *slowFillings) checkFirst(t *testing.T, budget int64) {
	t.Helper()
	what := fmt.Sprint("completion of ", s.partial, ", budget ", budget)
	a, code := impl.CompletePartial(s.partial, budget)
	switch {
	case s.needed(1) > budget:
		failed(t, what, code, impl.ErrFull, a)
	case len(s.list) == 0:
		failed(t, what, code, impl.ErrNotFound, a)
	default:
		same(t, what, []any{a, code}, []any{s.list[0], impl.OK})
		same(t, what+", validity", impl.ValidSquare(a), true)
	}
}

func (s *slowFillings) checkCount(t *testing.T, limit int, budget int64) {
	t.Helper()
	what := fmt.Sprint("number of completions of ", s.partial, ", limit ", limit, ", budget ", budget)
	count, code := impl.CountCompletions(s.partial, int64(limit), budget)
	if s.needed(limit) > budget {
		failed(t, what, code, impl.ErrFull, count)
		return
	}
	same(t, what, []int64{count, code}, []int64{int64(min(limit, len(s.list))), impl.OK})
}

// countLimits returns limits from 1 to MaxLimit at and around a number of completions, and some others.
func countLimits(count int) []int {
	limits := []int{1, 2, impl.MaxLimit - 1, impl.MaxLimit}
	for _, limit := range []int{count / 2, count - 1, count, count + 1} {
		if limit >= 1 && limit <= impl.MaxLimit {
			limits = append(limits, limit)
		}
	}
	return limits
}

func TestCompletions(t *testing.T) {
	t.Parallel()
	for _, p := range slices.Concat(somePartials(), [][][]int64{emptyPartial(1), emptyPartial(3), emptyPartial(4), emptyPartial(5), emptyPartial(10)}) {
		s := slowFillingsOf(p)
		for _, budget := range budgetsAround(s.needed(1)) {
			s.checkFirst(t, budget)
		}
		for _, limit := range countLimits(len(s.list)) {
			for _, budget := range budgetsAround(s.needed(limit)) {
				s.checkCount(t, limit, budget)
			}
		}
	}
}

// TestAllBudgetsOfCompletions tries all limits and budgets for partial squares with few nodes.
func TestAllBudgetsOfCompletions(t *testing.T) {
	list := slices.Concat(smallPartials(1), smallPartials(2), stuckPartials()[:4], [][][]int64{emptyPartial(3), {{0, 1, 2}, {-1, -1, -1}, {-1, -1, -1}}, slowCyclic(10), emptied(slowCyclic(4), []int64{0, 2, 5, 8, 10, 13, 15})})
	for _, p := range list {
		s := slowFillingsOf(p)
		for budget := int64(1); budget <= s.nodes+2; budget++ {
			s.checkFirst(t, budget)
			for limit := 1; limit <= len(s.list)+2; limit++ {
				s.checkCount(t, limit, budget)
			}
		}
	}
}

// fitsInto reports whether a square has the symbols of a partial square.
func fitsInto(p, a [][]int64) bool {
	for x, row := range p {
		for y, symbol := range row {
			if symbol != -1 && symbol != a[x][y] {
				return false
			}
		}
	}
	return true
}

// completionsAmong returns the squares of a list that are completions, in their order.
func completionsAmong(squares [][][]int64, p [][]int64) [][][]int64 {
	var list [][][]int64
	for _, a := range squares {
		if fitsInto(p, a) {
			list = append(list, a)
		}
	}
	return list
}

// TestCompletionsAreComplete compares with all squares, in their order.
func TestCompletionsAreComplete(t *testing.T) {
	for n := int64(1); n <= 4; n++ {
		squares := slowSquares(n)
		list := [][][]int64{emptyPartial(n)}
		if n <= 3 {
			list = smallPartials(n)
		}
		for _, p := range greatPartials() {
			if len(p) == int(n) {
				list = append(list, p)
			}
		}
		for _, p := range list {
			want := completionsAmong(squares, p)
			count, one := impl.CountCompletions(p, impl.MaxLimit, impl.MaxBudget)
			same(t, fmt.Sprint("number of completions of ", p), []int64{count, one}, []int64{int64(len(want)), impl.OK})
			a, two := impl.CompletePartial(p, impl.MaxBudget)
			if len(want) == 0 {
				failed(t, fmt.Sprint("completion of ", p), two, impl.ErrNotFound, a)
				continue
			}
			same(t, fmt.Sprint("completion of ", p), []any{a, two}, []any{want[0], impl.OK})
		}
	}
}

func TestCompletionExamples(t *testing.T) {
	p := [][]int64{{0, 1, 2}, {-1, -1, -1}, {-1, -1, -1}}
	count, one := impl.CountCompletions(p, impl.MaxLimit, impl.MaxBudget)
	a, two := impl.CompletePartial(p, impl.MaxBudget)
	same(t, "first row", []any{count, one, impl.SquareText(a), two}, []any{2, impl.OK, "012/120/201", impl.OK})
	// The row 1,0 leaves no symbol for its last cell, so the first completion needs 7 nodes.
	_, short := impl.CompletePartial(p, 6)
	_, exact := impl.CompletePartial(p, 7)
	same(t, "budgets", []int64{short, exact}, []int64{impl.ErrFull, impl.OK})
	// There is nothing to fill, or nothing to fill it with.
	full, three := impl.CompletePartial(slowCyclic(10), 1)
	_, four := impl.CompletePartial([][]int64{{0, -1}, {-1, 1}}, 1)
	none, five := impl.CountCompletions([][]int64{{0, -1}, {-1, 1}}, 1000, 1)
	single, six := impl.CountCompletions(slowCyclic(10), 1000, 1)
	same(t, "no nodes", []any{full, three, four, none, five, single, six}, []any{slowCyclic(10), impl.OK, impl.ErrNotFound, 0, impl.OK, 1, impl.OK})
	// The one cell without a candidate is the last one of the first row, so all beginnings of this row are tried.
	_, seven := impl.CompletePartial(stuckPartials()[4], impl.MaxBudget)
	many, eight := impl.CountCompletions(emptyPartial(4), 576, impl.MaxBudget)
	more, nine := impl.CountCompletions(emptyPartial(4), 577, impl.MaxBudget)
	most, ten := impl.CountCompletions(emptyPartial(5), 1000, impl.MaxBudget)
	same(t, "many", []int64{seven, many, eight, more, nine, most, ten}, []int64{impl.ErrFull, 576, impl.OK, 576, impl.OK, 1000, impl.OK})
	two2, ok := impl.ReadPartial("0./.0")
	number, code := impl.CountCompletions(two2, 1000, 2)
	same(t, "example of texts", []any{ok, number, code}, []any{true, 1, impl.OK})
}

func TestLimitsAndBudgetsOfCompletions(t *testing.T) {
	for _, p := range slices.Concat(smallPartials(1), smallPartials(2), stuckPartials(), [][][]int64{emptyPartial(10), slowCyclic(10), slowCyclic(3)}) {
		for _, wrong := range []int64{math.MinInt64, -(1 << 32), -20000, -1, 0, impl.MaxBudget + 1, impl.MaxBudget + 2, 65537, 1<<32 + 1, math.MaxInt64} {
			a, one := impl.CompletePartial(p, wrong)
			failed(t, fmt.Sprint("completion of ", p, ", budget ", wrong), one, impl.ErrRange, a)
			yes, two := impl.IsCritical(p, wrong)
			failed(t, fmt.Sprint("whether critical: ", p, ", budget ", wrong), two, impl.ErrRange, yes)
			for _, limit := range []int64{-1, 0, 1, 500, 1000, 1001, wrong} {
				count, three := impl.CountCompletions(p, limit, wrong)
				failed(t, fmt.Sprint("number of completions of ", p, ", limit ", limit, ", budget ", wrong), three, impl.ErrRange, count)
			}
		}
		for _, wrong := range []int64{math.MinInt64, -(1 << 32), -1000, -1, 0, impl.MaxLimit + 1, impl.MaxLimit + 2, 1024, impl.MaxBudget, 1<<32 + 1, math.MaxInt64} {
			for _, budget := range []int64{-1, 0, 1, 2, impl.MaxBudget, impl.MaxBudget + 1, wrong} {
				count, code := impl.CountCompletions(p, wrong, budget)
				failed(t, fmt.Sprint("number of completions of ", p, ", limit ", wrong, ", budget ", budget), code, impl.ErrRange, count)
			}
		}
	}
}

// slowLeastRow returns the least row with a beginning that is all symbols and fits below rows; nil if there is none.
func slowLeastRow(rows [][]int64, n int64, beginning []int64) []int64 {
	y := len(beginning)
	if y == int(n) {
		return beginning
	}
	for symbol := range n {
		if slices.Contains(beginning, symbol) || slices.ContainsFunc(rows, func(row []int64) bool { return row[y] == symbol }) {
			continue
		}
		if row := slowLeastRow(rows, n, append(slices.Clone(beginning), symbol)); row != nil {
			return row
		}
	}
	return nil
}

func slowExtend(rows [][]int64, n int64) [][]int64 {
	for int64(len(rows)) < n {
		rows = append(slices.Clone(rows), slowLeastRow(rows, n, nil))
	}
	return rows
}

// rectangle returns the partial square with some rows and then empty ones.
func rectangle(rows [][]int64, n int64) [][]int64 {
	p := slices.Clone(rows)
	for int64(len(p)) < n {
		p = append(p, repeated(int(n), -1))
	}
	return p
}

// squaresForRectangles are squares of which the first rows are rectangles, all rectangles of the orders 1 to 4.
func squaresForRectangles() [][][]int64 {
	list := slices.Concat(someSquares(), squaresWithMates(), brokenSquares())
	for seed := range int64(60) {
		n := 5 + seed%6
		a := slices.Concat(greatSquares(), brokenSquares())[seed%20]
		if int64(len(a)) == n {
			a = slowIsotope(a, mixed(n, seed), mixed(n, seed+1), mixed(n, seed+2))
		}
		list = append(list, a)
	}
	return list
}

func TestRectangles(t *testing.T) {
	for _, a := range squaresForRectangles() {
		n := int64(len(a))
		for full := int64(0); full <= n; full++ {
			p := rectangle(a[:full], n)
			b, code := impl.ExtendRectangle(p)
			what := fmt.Sprint("extension of ", p)
			same(t, what, []any{b, code}, []any{slowExtend(a[:full], n), impl.OK})
			same(t, what+", validity", []bool{slowValid(b), fitsInto(p, b)}, []bool{true, true})
		}
	}
	for n := int64(1); n <= 10; n++ {
		b, code := impl.ExtendRectangle(emptyPartial(n))
		same(t, fmt.Sprint("extension of the empty rectangle of order ", n), []any{b, code, impl.IsReduced(b)}, []any{slowExtend(nil, n), impl.OK, true})
	}
	p, _ := impl.ReadPartial("012/.../...")
	b, code := impl.ExtendRectangle(p)
	same(t, "order 3", []any{impl.SquareText(b), code}, []any{"012/120/201", impl.OK})
}

// TestGreedyRectangles checks rows for which the least candidates of the first cells leave none for the last ones.
func TestGreedyRectangles(t *testing.T) {
	for _, c := range [][2]string{
		{"012/.../...", "012/120/201"}, {"201/.../...", "201/012/120"}, {"0123/1032/..../....", "0123/1032/2301/3210"}, {"3210/..../..../....", "3210/0123/1032/2301"}, {"0132/1023/..../....", "0132/1023/2301/3210"},
		{"12340/...../...../...../.....", "12340/01234/20413/34021/43102"}, {"01234/10342/...../...../.....", "01234/10342/23401/34120/42013"},
	} {
		p, ok := impl.ReadPartial(c[0])
		b, code := impl.ExtendRectangle(p)
		same(t, "extension of "+c[0], []any{ok, slowText(b), code}, []any{true, c[1], impl.OK})
	}
}

// slowIsRectangle looks for rows with some empty cells, and for rows without empty cells behind others.
func slowIsRectangle(p [][]int64) bool {
	before := 0
	for _, row := range p {
		empty := 0
		for _, symbol := range row {
			if symbol == -1 {
				empty++
			}
		}
		if empty < before || empty > 0 && empty < len(p) {
			return false
		}
		before = empty
	}
	return true
}

func TestNoRectangles(t *testing.T) {
	wrong := 0
	for _, p := range slices.Concat(smallPartials(3), somePartials()) {
		if slowIsRectangle(p) {
			continue
		}
		wrong++
		b, code := impl.ExtendRectangle(p)
		failed(t, fmt.Sprint("extension of ", p), code, impl.ErrState, b)
	}
	if wrong < 10000 {
		t.Errorf("no rectangles: %d", wrong)
	}
	ten := slowCyclic(10)
	for _, cells := range [][]int64{{0}, {99}, {9}, {90}, upTo(10), upTo(9), upTo(100)[90:99], upTo(100)[91:], upTo(100)[89:], append(upTo(100)[90:], 3), upTo(100)[50:60], upTo(99), upTo(100)[1:]} {
		b, code := impl.ExtendRectangle(emptied(ten, cells))
		failed(t, fmt.Sprint("extension without the cells ", cells), code, impl.ErrState, b)
	}
}

// criticalSets are critical sets of the orders 4 to 7, which are what is left if no more cells can be emptied.
func criticalSets() [][][]int64 {
	var list [][][]int64
	for seed, a := range [][][]int64{slowCyclic(4), slowProduct(slowCyclic(2), slowCyclic(2)), slowCyclic(5), looseSquare(), scrambled(5, 3), slowCyclic(6), turned(6), dihedral(3), fanoSquare()} {
		n := int64(len(a))
		p := a
		for _, number := range slices.Concat(mixed(min(n*n, 32), int64(seed)), upTo(n*n)) {
			q := emptied(p, []int64{number})
			s := slowFillingsOf(q)
			if s.nodes <= impl.MaxBudget && len(s.list) == 1 {
				p = q
			}
		}
		list = append(list, p)
	}
	return list
}

// slowIsCritical counts the completions for a partial square, and then without each of its cells. It also returns how many
// nodes the greatest of these counts needs.
func slowIsCritical(p [][]int64) (bool, int64) {
	s := slowFillingsOf(p)
	needed := s.needed(2)
	if len(s.list) != 1 {
		return false, needed
	}
	for _, number := range cellsThat(p, false) {
		s := slowFillingsOf(emptied(p, []int64{number}))
		needed = max(needed, s.needed(2))
		if len(s.list) < 2 {
			return false, needed
		}
	}
	return true, needed
}

func checkCritical(t *testing.T, p [][]int64, want bool, needed, budget int64) {
	t.Helper()
	what := fmt.Sprint("whether critical: ", p, ", budget ", budget)
	yes, code := impl.IsCritical(p, budget)
	if needed > budget {
		failed(t, what, code, impl.ErrFull, yes)
		return
	}
	same(t, what, []any{yes, code}, []any{want, impl.OK})
}

func TestCriticalSets(t *testing.T) {
	found := 0
	for _, p := range criticalSets() {
		n := int64(len(p))
		want, needed := slowIsCritical(p)
		if want {
			found++
		}
		for _, budget := range budgetsAround(needed) {
			checkCritical(t, p, want, needed, budget)
		}
		a := slowFillingsOf(p).list[0]
		for _, number := range upTo(n * n) {
			// A cell more can be left out, and a cell less leaves several completions.
			q := emptied(p, []int64{number})
			if p[number/n][number%n] == -1 {
				q = changed(p, int(number/n), int(number%n), a[number/n][number%n])
			}
			_, needed := slowIsCritical(q)
			for _, budget := range budgetsAround(needed) {
				checkCritical(t, q, false, needed, budget)
			}
		}
	}
	same(t, "critical sets that are found", found, len(criticalSets()))
}

// TestAllCriticalSets compares with all squares of the orders 1 to 3.
func TestAllCriticalSets(t *testing.T) {
	for n, want := range map[int]int{1: 1, 2: 8, 3: 324} {
		squares := slowSquares(int64(n))
		count := 0
		for _, p := range smallPartials(int64(n)) {
			critical := len(completionsAmong(squares, p)) == 1
			for _, number := range cellsThat(p, false) {
				critical = critical && len(completionsAmong(squares, emptied(p, []int64{number}))) > 1
			}
			yes, code := impl.IsCritical(p, impl.MaxBudget)
			same(t, fmt.Sprint("whether critical: ", p), []any{yes, code}, []any{critical, impl.OK})
			if yes {
				count++
			}
		}
		same(t, fmt.Sprint("critical sets of order ", n), count, want)
	}
}

func TestCriticalBudgets(t *testing.T) {
	t.Parallel()
	occur := map[int64]int{}
	for i, p := range somePartials() {
		want, needed := slowIsCritical(p)
		if len(p) > 6 && i%4 > 0 {
			continue
		}
		for _, budget := range budgetsAround(needed) {
			checkCritical(t, p, want, needed, budget)
		}
		_, code := impl.IsCritical(p, impl.MaxBudget)
		occur[code]++
	}
	if occur[impl.OK] < 100 || occur[impl.ErrFull] < 3 {
		t.Errorf("codes: %v", occur)
	}
}

func TestCriticalExamples(t *testing.T) {
	for _, c := range []struct {
		text   string
		budget int64
		want   bool
		code   int64
	}{
		{"01./1../...", 100, true, 0}, {"0./..", 100, true, 0}, {"012/120/201", 100, false, 0}, {"01./1../...", 1, false, impl.ErrFull}, {".", 1, true, 0}, {"0", 1, false, 0}, {"../..", 100, false, 0}, {"0./.0", 100, false, 0},
		{"0./.1", 1, false, 0}, {"01/..", 100, false, 0}, {"01./..2/...", 1, false, 0},
		// The counts for the only completion and for the two without the 0 need 3 and 8 nodes.
		{"0./..", 3, false, impl.ErrFull}, {"0./..", 7, false, impl.ErrFull}, {"0./..", 8, true, 0}, {"0./..", 2, false, impl.ErrFull},
		// The count that shows that this is not critical comes first.
		{"../..", 8, false, 0}, {"../..", 7, false, impl.ErrFull},
	} {
		p, ok := impl.ReadPartial(c.text)
		yes, code := impl.IsCritical(p, c.budget)
		same(t, fmt.Sprint("whether critical: ", c.text, ", budget ", c.budget), []any{ok, yes, code}, []any{true, c.want, c.code})
	}
}

// slowPartialText writes the rows by the formats of Go.
func slowPartialText(p [][]int64) string { return strings.ReplaceAll(slowText(p), "-1", ".") }

func TestPartialsAreRestored(t *testing.T) {
	for _, p := range slices.Concat(smallPartials(3), somePartials(), someSquares()) {
		text := impl.PartialText(p)
		same(t, fmt.Sprint("text of ", p), text, slowPartialText(p))
		q, ok := impl.ReadPartial(text)
		same(t, "partial square with the text "+text, []any{q, ok}, []any{p, true})
	}
	for _, bad := range notPartials() {
		same(t, fmt.Sprintf("text of %.99v", fmt.Sprint(bad)), impl.PartialText(bad), "")
		same(t, fmt.Sprintf("filled cells of %.99v", fmt.Sprint(bad)), impl.FilledCells(bad), 0)
	}
	same(t, "examples", []string{impl.PartialText([][]int64{{-1}}), impl.PartialText([][]int64{{0, -1}, {-1, 0}}), impl.PartialText(slowCyclic(3))}, []string{".", "0./.0", "012/120/201"})
	same(t, "order 10", impl.PartialText(emptied(slowCyclic(10), upTo(96))), strings.Repeat("........../", 9)+"......5678")
}

// TestShortPartialTexts reads all texts of at most 5 of some bytes.
func TestShortPartialTexts(t *testing.T) {
	bytes := []byte("012./-:\xd9")
	read := 0
	for length := range int64(6) {
		for number := range power(int64(len(bytes)), length) {
			s := make([]byte, length)
			for i, digit := range slowDigits(number, int64(len(bytes)), length) {
				s[i] = bytes[digit]
			}
			p, ok := impl.ReadPartial(string(s))
			if !ok {
				failed(t, fmt.Sprintf("partial square with the text %q", s), 0, 0, p)
				continue
			}
			read++
			same(t, "the text "+string(s), []any{slowPartialText(p), slowIsPartial(p)}, []any{string(s), true})
		}
	}
	same(t, "texts of partial squares", read, 2+35)
}

func TestNoPartialTexts(t *testing.T) {
	ten := slowPartialText(emptyPartial(10))
	for _, s := range []string{
		"", " ", "-", "-1", "a", "/", "//", "1", "00", "..", "./", "/.", "./.", ".//.", "0.", "0./", "0./.", "0./.0/", "/0./.0", "0.//.0", "0./.0/..", "0./.0 ", " 0./.0", "0./.0\n", "0./.0\x00", "0./.O", "0.\n.0", "0.,.0", "0.\\.0",
		"0..0", "0./0.", "00/..", ".1/.1", "../11", "2./..", "../.2", "0 ./. 0", "0-1/-10", "-10/0-1", "0_/_0", "0*/*0", "0./.\xb0", "0./.0\xff", "0./.\u0660", "0\u2024/\u20240", "\ufeff0./.0", ".../...", ".../.../..", ".../.../....",
		".../.../.../", ".../.../.../...", "0.0/.../...", "0../.../0..", "3../.../...", ten + "/", ten[1:], ten[:108], ten + ".", slowPartialText(emptyPartial(11)), strings.Repeat("./", 50000) + ".", strings.Repeat(".", 100000), strings.Repeat("/", 100000),
		strings.Replace(ten, ".", ":", 1), strings.Replace(ten, ".", "-1", 1), strings.Replace(ten, ".", "10", 1),
	} {
		p, ok := impl.ReadPartial(s)
		same(t, fmt.Sprintf("partial square with the text %.99q", s), ok, false)
		failed(t, fmt.Sprintf("partial square with the text %.99q", s), 0, 0, p)
	}
	for i := range ten {
		for _, c := range []byte("0.5/:- \xff") {
			s := ten[:i] + string([]byte{c}) + ten[i+1:]
			p, ok := impl.ReadPartial(s)
			isSymbol := i%11 != 10 && (c == '0' || c == '5')
			same(t, fmt.Sprintf("whether a partial square: %q", s), ok, isSymbol || c == ten[i])
			if ok {
				same(t, "restored text", impl.PartialText(p), s)
			}
		}
	}
}

func TestCompletionsWithoutPartials(t *testing.T) {
	for _, bad := range notPartials() {
		q, one := impl.PropagatePartial(bad)
		failed(t, "propagation", one, impl.ErrInvalid, q)
		q, two := impl.ExtendRectangle(bad)
		failed(t, "extension", two, impl.ErrInvalid, q)
		for _, number := range []int64{math.MinInt64, -1, 0, 1, 2, 1000, 1001, 20001, math.MaxInt64} {
			q, one := impl.ClearCells(bad, []int64{number})
			failed(t, "clearing", one, impl.ErrInvalid, q)
			list, two := impl.CandidatesAt(bad, number, 0)
			failed(t, "candidates", two, impl.ErrInvalid, list)
			list, three := impl.CandidatesAt(bad, 0, number)
			failed(t, "candidates", three, impl.ErrInvalid, list)
			q, four := impl.FillCell(bad, 0, number, number)
			failed(t, "filling", four, impl.ErrInvalid, q)
			q, five := impl.CompletePartial(bad, number)
			failed(t, "completion", five, impl.ErrInvalid, q)
			count, six := impl.CountCompletions(bad, number, 100)
			failed(t, "count", six, impl.ErrInvalid, count)
			count, seven := impl.CountCompletions(bad, 100, number)
			failed(t, "count", seven, impl.ErrInvalid, count)
			yes, eight := impl.IsCritical(bad, number)
			failed(t, "whether critical", eight, impl.ErrInvalid, yes)
		}
		q, code := impl.ClearCells(bad, nil)
		failed(t, "clearing nothing", code, impl.ErrInvalid, q)
	}
}
