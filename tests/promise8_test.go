package tests

import (
	"fmt"
	"math"
	"slices"
	"testing"

	"loop.example/g00920/impl"
)

// slowField returns the field whose size is the order of squares, and whether there is one.
func slowField(q int64) (impl.Field, bool) {
	switch q {
	case 2, 3, 5, 7:
		return impl.Field{Prime: q, Degree: 1, Poly: []int64{0, 1}}, true
	case 4:
		return impl.Field{Prime: 2, Degree: 2, Poly: []int64{1, 1, 1}}, true
	case 8:
		return impl.Field{Prime: 2, Degree: 3, Poly: []int64{1, 1, 0, 1}}, true
	case 9:
		return impl.Field{Prime: 3, Degree: 2, Poly: []int64{1, 0, 1}}, true
	}
	return impl.Field{}, false
}

// slowFieldSquare returns the square of a factor, which is not 0, for an order for which there is a field.
func slowFieldSquare(q, m int64) [][]int64 {
	f, _ := slowField(q)
	sums, products := slowTables(f)
	return slowFill(q, func(x, y int64) int64 { return sums[products[m][x]][y] })
}

// slowMols returns the squares of all factors for an order for which there is a field.
func slowMols(q int64) [][][]int64 {
	var list [][][]int64
	for m := int64(1); m < q; m++ {
		list = append(list, slowFieldSquare(q, m))
	}
	return list
}

// tenMols returns two orthogonal squares of order 10, which Parker found.
func tenMols() [][][]int64 {
	pairs := [][]int64{
		{0, 47, 18, 76, 29, 93, 85, 34, 61, 52}, {86, 11, 57, 28, 70, 39, 94, 45, 2, 63}, {95, 80, 22, 67, 38, 71, 49, 56, 13, 4}, {59, 96, 81, 33, 7, 48, 72, 60, 24, 15},
		{73, 69, 90, 82, 44, 17, 58, 1, 35, 26}, {68, 74, 9, 91, 83, 55, 27, 12, 46, 30}, {37, 8, 75, 19, 92, 84, 66, 23, 50, 41}, {14, 25, 36, 40, 51, 62, 3, 77, 88, 99},
		{21, 32, 43, 54, 65, 6, 10, 89, 97, 78}, {42, 53, 64, 5, 16, 20, 31, 98, 79, 87},
	}
	return [][][]int64{
		slowFill(10, func(x, y int64) int64 { return pairs[x][y] / 10 }),
		slowFill(10, func(x, y int64) int64 { return pairs[x][y] % 10 }),
	}
}

// slowOrthogonal compares the pairs of symbols of all cells of two squares.
func slowOrthogonal(a, b [][]int64) bool {
	if len(a) != len(b) {
		return false
	}
	seen := map[[2]int64]bool{}
	for x, row := range a {
		for y, symbol := range row {
			seen[[2]int64{symbol, b[x][y]}] = true
		}
	}
	return len(seen) == len(a)*len(a)
}

// wrongOrders are numbers from -5 to 70, without the orders for which there is a field, and numbers of many digits.
func wrongOrders() []int64 {
	orders := []int64{math.MinInt64, math.MaxInt64, 1 << 32, 1<<32 + 3, 256 + 3, -(1 << 32), 1000000, 1000001}
	for q := int64(-5); q <= 70; q++ {
		if _, ok := slowField(q); !ok {
			orders = append(orders, q)
		}
	}
	return orders
}

func rightOrders() []int64 { return []int64{2, 3, 4, 5, 7, 8, 9} }

func TestFieldSquares(t *testing.T) {
	for _, q := range rightOrders() {
		for m := int64(1); m < q; m++ {
			a, code := impl.FieldSquare(q, m)
			what := fmt.Sprint("square of order ", q, " with the factor ", m)
			same(t, what, []any{a, code}, []any{slowFieldSquare(q, m), impl.OK})
			same(t, what+", validity", impl.ValidSquare(a), true)
		}
		for _, m := range []int64{math.MinInt64, -q, -1, 0, q, q + 1, 2*q - 1, 256 + 1, 1<<32 + 1, math.MaxInt64} {
			a, code := impl.FieldSquare(q, m)
			failed(t, fmt.Sprint("square of order ", q, " with the factor ", m), code, impl.ErrRange, a)
		}
	}
	for _, q := range wrongOrders() {
		for _, m := range []int64{math.MinInt64, -1, 0, 1, 2, q - 1, q, math.MaxInt64} {
			a, code := impl.FieldSquare(q, m)
			failed(t, fmt.Sprint("square of order ", q, " with the factor ", m), code, impl.ErrRange, a)
		}
	}
	a, _ := impl.FieldSquare(3, 2)
	b, _ := impl.FieldSquare(4, 2)
	same(t, "examples", []string{impl.SquareText(a), impl.SquareText(b)}, []string{"012/201/120", "0123/2301/3210/1032"})
}

func TestFieldMols(t *testing.T) {
	for _, q := range rightOrders() {
		list, code := impl.FieldMols(q)
		same(t, fmt.Sprint("squares of order ", q), []any{list, code}, []any{slowMols(q), impl.OK})
		same(t, fmt.Sprint("whether the squares of order ", q, " are mutually orthogonal"), impl.ValidMols(list), true)
		for i, a := range list {
			for j, b := range list {
				what := fmt.Sprint("whether the squares ", i, " and ", j, " of order ", q, " are orthogonal")
				same(t, what, []bool{slowOrthogonal(a, b), impl.Orthogonal(a, b)}, []bool{i != j, i != j})
			}
		}
	}
	for _, q := range wrongOrders() {
		list, code := impl.FieldMols(q)
		failed(t, fmt.Sprint("squares of order ", q), code, impl.ErrRange, list)
	}
}

// checkPair compares what is said of two squares with slow computations.
func checkPair(t *testing.T, a, b [][]int64) {
	t.Helper()
	what := fmt.Sprint(a, " and ", b)
	numbers, code := impl.Superpose(a, b)
	if len(a) != len(b) {
		failed(t, what+", superposed", code, impl.ErrRange, numbers)
	} else {
		n := int64(len(a))
		want := slowFill(n, func(x, y int64) int64 { return n*a[x][y] + b[x][y] })
		same(t, what+", superposed", []any{numbers, code}, []any{want, impl.OK})
	}
	orthogonal := slowOrthogonal(a, b)
	same(t, what+", whether orthogonal", impl.Orthogonal(a, b), orthogonal)
	same(t, what+", whether both are mutually orthogonal", impl.ValidMols([][][]int64{a, b}), orthogonal)
	checkTransversalsOfMate(t, a, b, orthogonal)
}

// slowSymbolColumns returns, for each symbol, the columns in which it stands.
func slowSymbolColumns(b [][]int64) [][]int64 {
	columns := make([][]int64, len(b))
	for _, row := range b {
		for y, symbol := range row {
			columns[symbol] = append(columns[symbol], int64(y))
		}
	}
	return columns
}

func checkTransversalsOfMate(t *testing.T, a, b [][]int64, orthogonal bool) {
	t.Helper()
	what := fmt.Sprint("transversals of ", a, " by ", b)
	list, code := impl.TransversalsOfMate(a, b)
	if !orthogonal {
		failed(t, what, code, impl.ErrState, list)
		return
	}
	same(t, what, []any{list, code}, []any{slowSymbolColumns(b), impl.OK})
	for _, columns := range list {
		same(t, fmt.Sprint("whether ", columns, " is a transversal of ", a), []bool{slowIsTransversal(a, columns), impl.IsTransversal(a, columns)}, []bool{true, true})
	}
}

func TestPairs(t *testing.T) {
	few := fewSquares()
	for _, q := range rightOrders() {
		few = append(few, slowMols(q)...)
	}
	few = append(few, tenMols()...)
	for _, a := range few {
		for _, b := range few {
			if len(a) == len(b) {
				checkPair(t, a, b)
			}
		}
		for _, b := range [][][]int64{slowCyclic(1), slowCyclic(3), slowFieldSquare(4, 2), looseSquare(), slowCyclic(9), slowCyclic(10)} {
			checkPair(t, a, b)
			checkPair(t, b, a)
		}
	}
	same(t, "order 1", impl.Orthogonal([][]int64{{0}}, [][]int64{{0}}), true)
	ten := tenMols()
	same(t, "order 10", []bool{impl.ValidSquare(ten[0]), impl.ValidSquare(ten[1]), impl.Orthogonal(ten[0], ten[1]), impl.ValidMols(ten)}, []bool{true, true, true, true})
}

// TestAllPairs checks all pairs of squares of order 4.
func TestAllPairs(t *testing.T) {
	all := slowSquares(4)
	orthogonal := 0
	for _, a := range all {
		for _, b := range all {
			got := impl.Orthogonal(a, b)
			if got != slowOrthogonal(a, b) {
				t.Errorf("whether %v and %v are orthogonal: got %v", a, b, got)
			}
			if got {
				orthogonal++
			}
		}
	}
	// Each of the 144 squares that are isotopic to the product of two cyclic ones has two mates up to their symbols.
	same(t, "orthogonal pairs", orthogonal, 144*2*24)
}

func TestPairsWithoutSquares(t *testing.T) {
	for _, bad := range notSquares() {
		for _, good := range append(notSquares(), slowCyclic(1), slowCyclic(2), slowCyclic(3), slowCyclic(10)) {
			for _, pair := range [][][][]int64{{good, bad}, {bad, good}} {
				same(t, "whether no squares are orthogonal", []bool{impl.Orthogonal(pair[0], pair[1]), impl.ValidMols(pair)}, []bool{false, false})
				numbers, one := impl.Superpose(pair[0], pair[1])
				failed(t, "no squares superposed", one, impl.ErrInvalid, numbers)
				list, two := impl.TransversalsOfMate(pair[0], pair[1])
				failed(t, "transversals of no squares", two, impl.ErrInvalid, list)
			}
		}
	}
}

// slowValidMols compares all pairs of squares at different indices.
func slowValidMols(list [][][]int64) bool {
	for i, a := range list {
		for j, b := range list {
			if i != j && !slowOrthogonal(a, b) {
				return false
			}
		}
	}
	return len(list) >= 1 && len(list) <= 10
}

// TestMolsOfOrderThree checks all lists of at most three squares of order 3.
func TestMolsOfOrderThree(t *testing.T) {
	all := slowSquares(3)
	lists := [][][][]int64{nil}
	for range 3 {
		var longer [][][][]int64
		for _, list := range lists {
			for _, a := range all {
				longer = append(longer, append(slices.Clone(list), a))
			}
		}
		for _, list := range longer {
			same(t, fmt.Sprint("whether mutually orthogonal: ", list), impl.ValidMols(list), slowValidMols(list))
		}
		lists = longer
	}
}

func TestValidMols(t *testing.T) {
	one := [][][]int64{{{0}}}
	for count := range 13 {
		list := slices.Repeat(one, count)
		same(t, fmt.Sprint(count, " squares of order 1"), impl.ValidMols(list), count >= 1 && count <= 10)
	}
	for _, a := range fewSquares() {
		same(t, fmt.Sprint("whether one square is valid: ", a), impl.ValidMols([][][]int64{a}), true)
	}
	for _, q := range rightOrders()[2:] {
		list := slowMols(q)
		for i := range list {
			for _, wrong := range append(notSquares(), list[(i+1)%len(list)], slowCyclic(1), slowCyclic(2), slowCyclic(6)) {
				replaced := slices.Clone(list)
				replaced[i] = wrong
				same(t, fmt.Sprint("squares of order ", q, " with another one at ", i), impl.ValidMols(replaced), false)
			}
			same(t, fmt.Sprint("squares of order ", q, " with a repeated one"), impl.ValidMols(append(slices.Clone(list), list[i])), false)
			same(t, fmt.Sprint("squares of order ", q, " without one"), impl.ValidMols(slices.Concat(list[:i], list[i+1:])), true)
		}
	}
	three := slowMols(3)
	wrong := [][][][]int64{nil, {}, {nil}, {{nil}}, {three[0], three[1], three[0]}, {three[0], three[1], nil}, {nil, three[0], three[1]}, slices.Repeat(one, 1000), slices.Repeat(three, 500), append(slices.Repeat(one, 9), [][]int64{{1}})}
	for _, list := range wrong {
		same(t, fmt.Sprintf("whether mutually orthogonal: %.99v", fmt.Sprint(list)), impl.ValidMols(list), false)
	}
}

// someMols are lists of mutually orthogonal squares of several orders and lengths.
func someMols() [][][][]int64 {
	one := [][][]int64{{{0}}}
	lists := [][][][]int64{one, slices.Repeat(one, 3), slices.Repeat(one, 10), {{{1, 0}, {0, 1}}}, {looseSquare()}, {slowCyclic(6)}, {scrambled(10, 3)}, tenMols(), {slowMols(5)[3], slowMols(5)[1]}}
	for _, q := range rightOrders() {
		lists = append(lists, slowMols(q))
	}
	return lists
}

func TestProductsOfMols(t *testing.T) {
	for _, a := range someMols() {
		for _, b := range someMols() {
			what := fmt.Sprint("products of ", a, " and ", b)
			products, code := impl.ProductMols(a, b)
			if len(a[0])*len(b[0]) > 10 {
				failed(t, what, code, impl.ErrRange, products)
				continue
			}
			var want [][][]int64
			for i := range min(len(a), len(b)) {
				want = append(want, slowProduct(a[i], b[i]))
			}
			same(t, what, []any{products, code}, []any{want, impl.OK})
			same(t, what+", whether mutually orthogonal", []bool{slowValidMols(products), impl.ValidMols(products)}, []bool{true, true})
		}
	}
}

func TestProductsWithoutMols(t *testing.T) {
	one, three, four := [][][]int64{{{0}}}, slowMols(3), slowMols(4)
	wrong := [][][][]int64{nil, {}, {nil}, {three[0], three[0]}, {three[0], three[1], three[0]}, {three[0], four[0]}, {three[0], three[1], nil}, {four[0], four[1], four[2], four[1]}, slices.Repeat(one, 11), {slowCyclic(11)}}
	for _, bad := range notSquares() {
		wrong = append(wrong, [][][]int64{bad}, [][][]int64{three[0], bad}, [][][]int64{bad, three[0]})
	}
	for _, bad := range wrong {
		for _, a := range append(wrong, someMols()...) {
			first, code := impl.ProductMols(a, bad)
			failed(t, "products with wrong second squares", code, impl.ErrInvalid, first)
			second, code := impl.ProductMols(bad, a)
			failed(t, "products with wrong first squares", code, impl.ErrInvalid, second)
		}
	}
}

// slowIsTransversal counts the columns and the symbols of the cells, for a square.
func slowIsTransversal(a [][]int64, columns []int64) bool {
	if len(columns) != len(a) {
		return false
	}
	used, symbols := map[int64]bool{}, map[int64]bool{}
	for x, column := range columns {
		if column < 0 || column >= int64(len(a)) {
			return false
		}
		used[column] = true
		symbols[a[x][column]] = true
	}
	return len(used) == len(a) && len(symbols) == len(a)
}

// slowTransversals returns all transversals of a square in order.
func slowTransversals(a [][]int64) [][]int64 {
	var all [][]int64
	for _, columns := range slowPermutations(int64(len(a))) {
		if slowIsTransversal(a, columns) {
			all = append(all, columns)
		}
	}
	return all
}

func TestIsTransversal(t *testing.T) {
	squares := slices.Concat(slowSquares(1), slowSquares(2), slowSquares(3), slowSquares(4)[:9], slowMols(4), [][][]int64{looseSquare()})
	for _, a := range squares {
		n := int64(len(a))
		for number := range power(n+2, n) {
			columns := slowDigits(number, n+2, n)
			for i := range columns {
				columns[i]--
			}
			if got := impl.IsTransversal(a, columns); got != slowIsTransversal(a, columns) {
				t.Errorf("whether %v is a transversal of %v: got %v", columns, a, got)
			}
		}
	}
}

func TestTransversalsOfGreatSquares(t *testing.T) {
	for _, n := range []int64{5, 7, 9} {
		for shift := range n {
			columns := make([]int64, n)
			for x := range n {
				columns[x] = (x + shift) % n
			}
			same(t, fmt.Sprint("whether ", columns, " is a transversal of a cyclic square"), impl.IsTransversal(slowCyclic(n), columns), true)
			slices.Reverse(columns)
			same(t, fmt.Sprint("whether ", columns, " is a transversal of a cyclic square"), impl.IsTransversal(slowCyclic(n), columns), false)
		}
	}
	for _, a := range fewSquares() {
		n := int64(len(a))
		for _, columns := range append(notPermutations(), nil, upTo(n-1), upTo(n+1), reversed(n+1), upTo(32), upTo(33), repeated(int(n), n), append(upTo(n-1), n), append(upTo(n-1), -1), append(upTo(n), n-1)) {
			same(t, fmt.Sprint("whether ", columns, " is a transversal of ", a), impl.IsTransversal(a, columns), slowIsTransversal(a, columns))
		}
	}
}

func TestTransversalsOfNoSquares(t *testing.T) {
	for _, bad := range notSquares() {
		n := int64(len(bad))
		for _, columns := range [][]int64{nil, {0}, {1, 0}, {0, 1, 2}, {1, 2, 0}, upTo(n), reversed(n)} {
			same(t, fmt.Sprint("whether ", columns, " is a transversal of no square"), impl.IsTransversal(bad, columns), false)
		}
		for _, number := range []int64{math.MinInt64, -1, 0, 1, 50, 101, 20001, math.MaxInt64} {
			list, one := impl.TransversalsOf(bad, 1, number)
			failed(t, "transversals of no square", one, impl.ErrInvalid, list)
			list, two := impl.TransversalsOf(bad, number, 100)
			failed(t, "transversals of no square", two, impl.ErrInvalid, list)
			b, three := impl.MateOf(bad, number)
			failed(t, "mate of no square", three, impl.ErrInvalid, b)
		}
	}
}

// slowSearch has the first transversals of a square, at most 101, and how many nodes are visited until each of them is found.
type slowSearch struct {
	square [][]int64
	list   [][]int64
	after  []int64
	// nodes are those of the whole search, or more than MaxBudget.
	nodes int64
}

func slowSearchOf(a [][]int64) *slowSearch {
	s := &slowSearch{square: a}
	s.extend(nil)
	return s
}

// extend tries all columns in the next row. It stops if nothing more is to be known.
func (s *slowSearch) extend(columns []int64) {
	if len(columns) == len(s.square) {
		s.list, s.after = append(s.list, columns), append(s.after, s.nodes)
		return
	}
	row := s.square[len(columns)]
	for column := range int64(len(row)) {
		var symbols []int64
		for x, used := range columns {
			symbols = append(symbols, s.square[x][used])
		}
		if slices.Contains(columns, column) || slices.Contains(symbols, row[column]) {
			continue
		}
		if s.nodes > impl.MaxBudget || len(s.list) > impl.MaxList {
			return
		}
		s.nodes++
		s.extend(append(slices.Clone(columns), column))
	}
}

// needed returns how many nodes are visited for a limit.
func (s *slowSearch) needed(limit int) int64 {
	if limit <= len(s.list) {
		return s.after[limit-1]
	}
	return s.nodes
}

// checkTransversals checks the transversals for a limit and a budget.
func checkTransversals(t *testing.T, s *slowSearch, limit int, budget int64) {
	t.Helper()
	what := fmt.Sprint("transversals of ", s.square, ", limit ", limit, ", budget ", budget)
	list, code := impl.TransversalsOf(s.square, int64(limit), budget)
	if s.needed(limit) > budget {
		failed(t, what, code, impl.ErrFull, list)
		return
	}
	same(t, what, []any{list, code}, []any{s.list[:min(limit, len(s.list))], impl.OK})
}

// budgetsAround returns budgets from 1 to MaxBudget at and around a number of nodes, and some others.
func budgetsAround(nodes int64) []int64 {
	budgets := []int64{1, 2, impl.MaxBudget - 1, impl.MaxBudget}
	for _, budget := range []int64{nodes / 2, nodes - 1, nodes, nodes + 1} {
		if budget >= 1 && budget <= impl.MaxBudget {
			budgets = append(budgets, budget)
		}
	}
	return budgets
}

// limitsAround returns limits from 1 to MaxList at and around a number of transversals, and some others.
func limitsAround(count int) []int {
	limits := []int{1, 2, impl.MaxList - 1, impl.MaxList}
	for _, limit := range []int{count / 2, count - 1, count, count + 1} {
		if limit >= 1 && limit <= impl.MaxList {
			limits = append(limits, limit)
		}
	}
	return limits
}

func TestTransversals(t *testing.T) {
	squares := append(someSquares(), turned(6), turned(8), turned(10), tenMols()[0], tenMols()[1])
	for _, q := range rightOrders() {
		squares = append(squares, slowFieldSquare(q, q-1))
	}
	for _, a := range squares {
		s := slowSearchOf(a)
		for _, limit := range limitsAround(len(s.list)) {
			for _, budget := range budgetsAround(s.needed(limit)) {
				checkTransversals(t, s, limit, budget)
			}
		}
	}
}

// TestAllBudgets tries all limits and budgets for small squares.
func TestAllBudgets(t *testing.T) {
	for _, a := range [][][]int64{slowCyclic(1), slowCyclic(2), slowCyclic(3), {{1, 0, 2}, {0, 2, 1}, {2, 1, 0}}, slowCyclic(4), slowFieldSquare(4, 1), slowCyclic(5), looseSquare()} {
		s := slowSearchOf(a)
		for limit := 1; limit <= len(s.list)+2; limit++ {
			for budget := int64(1); budget <= s.nodes+2; budget++ {
				checkTransversals(t, s, limit, budget)
			}
		}
	}
}

// TestTransversalsAreComplete compares with all permutations, in their order.
func TestTransversalsAreComplete(t *testing.T) {
	counts := map[int64]int{1: 1, 2: 0, 3: 3, 4: 0, 5: 15, 6: 0, 7: 133}
	for n := int64(1); n <= 7; n++ {
		all := slowTransversals(slowCyclic(n))
		same(t, fmt.Sprint("number of transversals of the cyclic square of order ", n), len(all), counts[n])
	}
	squares := someSquares()
	for _, q := range []int64{4, 5, 7} {
		squares = append(squares, slowMols(q)...)
	}
	for _, a := range squares {
		if len(a) <= 7 {
			all := slowTransversals(a)
			list, code := impl.TransversalsOf(a, impl.MaxList, impl.MaxBudget)
			same(t, fmt.Sprint("transversals of ", a), []any{list, code}, []any{all[:min(len(all), impl.MaxList)], impl.OK})
		}
	}
}

func TestTransversalExamples(t *testing.T) {
	three, one := impl.TransversalsOf(slowCyclic(3), 100, 9)
	same(t, "order 3", []any{three, one}, []any{[][]int64{{0, 1, 2}, {1, 2, 0}, {2, 0, 1}}, impl.OK})
	four, two := impl.TransversalsOf(slowCyclic(4), 1, 20000)
	same(t, "order 4", []any{four, two}, []any{[][]int64{}, impl.OK})
	single, code := impl.TransversalsOf([][]int64{{0}}, 1, 1)
	same(t, "order 1", []any{single, code}, []any{[][]int64{{0}}, impl.OK})
	// The search for the first transversal of order 3 makes three choices, and the whole search three times as many.
	_, short := impl.TransversalsOf(slowCyclic(3), 1, 2)
	_, exact := impl.TransversalsOf(slowCyclic(3), 1, 3)
	_, third := impl.TransversalsOf(slowCyclic(3), 3, 9)
	_, most := impl.TransversalsOf(slowCyclic(3), 4, 8)
	same(t, "budgets", []int64{short, exact, third, most}, []int64{impl.ErrFull, impl.OK, impl.OK, impl.ErrFull})
	ten, full := impl.TransversalsOf(slowCyclic(10), 1, impl.MaxBudget)
	failed(t, "order 10", full, impl.ErrFull, ten)
}

func TestLimitsAndBudgets(t *testing.T) {
	for _, a := range fewSquares() {
		for _, wrong := range []int64{math.MinInt64, -(1 << 32), -20000, -100, -1, 0, impl.MaxBudget + 1, impl.MaxBudget + 2, 65537, 1<<32 + 1, math.MaxInt64} {
			for _, limit := range []int64{-1, 0, 1, 50, 100, 101, wrong} {
				list, code := impl.TransversalsOf(a, limit, wrong)
				failed(t, fmt.Sprint("transversals of ", a, ", limit ", limit, ", budget ", wrong), code, impl.ErrRange, list)
			}
			b, code := impl.MateOf(a, wrong)
			failed(t, fmt.Sprint("mate of ", a, ", budget ", wrong), code, impl.ErrRange, b)
		}
		for _, wrong := range []int64{math.MinInt64, -(1 << 32), -100, -1, 0, impl.MaxList + 1, impl.MaxList + 2, 257, impl.MaxBudget, 1<<32 + 1, math.MaxInt64} {
			for _, budget := range []int64{-1, 0, 1, 2, impl.MaxBudget, impl.MaxBudget + 1, wrong} {
				list, code := impl.TransversalsOf(a, wrong, budget)
				failed(t, fmt.Sprint("transversals of ", a, ", limit ", wrong, ", budget ", budget), code, impl.ErrRange, list)
			}
		}
	}
}

// slowMate has the mate of a square as far as it is found, with -1 in the other cells.
type slowMate struct {
	square, mate [][]int64
	found        bool
	// nodes are those of the search, or more than MaxBudget.
	nodes int64
}

func slowMateOf(a [][]int64) *slowMate {
	s := &slowMate{square: a, mate: slowFill(int64(len(a)), func(x, y int64) int64 { return -1 })}
	copy(s.mate[0], upTo(int64(len(a))))
	s.found = s.place(0, 1)
	return s
}

// fits reports whether no cell of the transversal k before the row x is in the column y or has the symbol of the cell.
func (s *slowMate) fits(k int64, x, y int) bool {
	for i, row := range s.mate[:x] {
		j := slices.Index(row, k)
		if j == y || s.square[i][j] == s.square[x][y] {
			return false
		}
	}
	return s.mate[x][y] < 0
}

// place finds cells for the transversal k from the row x on and for the later ones. It stops if there are too many nodes.
func (s *slowMate) place(k int64, x int) bool {
	n := len(s.square)
	if k == int64(n) {
		return true
	}
	if x == n {
		return s.place(k+1, 1)
	}
	for y := range n {
		if !s.fits(k, x, y) {
			continue
		}
		if s.nodes > impl.MaxBudget {
			return false
		}
		s.nodes++
		s.mate[x][y] = k
		if s.place(k, x+1) {
			return true
		}
		s.mate[x][y] = -1
	}
	return false
}

func (s *slowMate) check(t *testing.T, budget int64) {
	t.Helper()
	what := fmt.Sprint("mate of ", s.square, ", budget ", budget)
	b, code := impl.MateOf(s.square, budget)
	switch {
	case s.nodes > budget:
		failed(t, what, code, impl.ErrFull, b)
	case !s.found:
		failed(t, what, code, impl.ErrNotFound, b)
	default:
		same(t, what, []any{b, code}, []any{s.mate, impl.OK})
		same(t, what+", whether orthogonal", []bool{impl.ValidSquare(b), slowOrthogonal(s.square, b), impl.Orthogonal(s.square, b)}, []bool{true, true, true})
		checkTransversalsOfMate(t, s.square, b, true)
	}
}

// turned returns the cyclic square of an even order in which two symbols of two rows are exchanged. Of the orders 6 to 10, it
// has transversals.
func turned(n int64) [][]int64 {
	a, half := slowCyclic(n), n/2
	a[0][0], a[0][half], a[half][0], a[half][half] = half, 0, 0, half
	return a
}

// squaresWithMates are squares of fields, and isotopes of them.
func squaresWithMates() [][][]int64 {
	var squares [][][]int64
	for _, q := range rightOrders()[1:] {
		for m, a := range slowMols(q) {
			if m < 2 {
				squares = append(squares, a, slowIsotope(a, mixed(q, 1), mixed(q, 2), mixed(q, 3)), slowIsotope(a, mixed(q, 7), upTo(q), upTo(q)))
			}
		}
	}
	return append(squares, slowProduct(slowCyclic(2), slowFieldSquare(4, 1)), slowProduct(slowCyclic(3), slowCyclic(3)))
}

func TestMates(t *testing.T) {
	for _, a := range slices.Concat(someSquares(), squaresWithMates(), tenMols(), [][][]int64{turned(6), turned(8), turned(10)}) {
		s := slowMateOf(a)
		for _, budget := range budgetsAround(s.nodes) {
			s.check(t, budget)
		}
	}
}

// TestAllBudgetsOfMates tries all budgets for squares with few nodes.
func TestAllBudgetsOfMates(t *testing.T) {
	for _, a := range [][][]int64{slowCyclic(1), slowCyclic(2), slowCyclic(3), {{1, 0, 2}, {0, 2, 1}, {2, 1, 0}}, slowCyclic(4), slowFieldSquare(4, 1), slowCyclic(5), looseSquare()} {
		s := slowMateOf(a)
		for budget := int64(1); budget <= min(s.nodes+2, 500); budget++ {
			s.check(t, budget)
		}
	}
}

// TestMatesAreComplete compares the mates of all squares of order 4 with all squares.
func TestMatesAreComplete(t *testing.T) {
	all := slowSquares(4)
	with := 0
	for _, a := range all {
		var first [][]int64
		for _, b := range all {
			if slices.Equal(b[0], upTo(4)) && slowOrthogonal(a, b) && (first == nil || isEarlierMate(b, first)) {
				first = b
			}
		}
		b, code := impl.MateOf(a, impl.MaxBudget)
		what := fmt.Sprint("mate of ", a)
		if first == nil {
			failed(t, what, code, impl.ErrNotFound, b)
			continue
		}
		with++
		same(t, what, []any{b, code}, []any{first, impl.OK})
	}
	same(t, "squares with a mate", with, 144)
}

// isEarlierMate reports whether the transversals of the mate b come before those of the mate c.
func isEarlierMate(b, c [][]int64) bool {
	return slices.CompareFunc(slowSymbolColumns(b), slowSymbolColumns(c), slices.Compare[[]int64]) < 0
}

func TestMateExamples(t *testing.T) {
	three, one := impl.MateOf(slowCyclic(3), 6)
	same(t, "order 3", []any{impl.SquareText(three), one}, []any{"012/201/120", impl.OK})
	_, short := impl.MateOf(slowCyclic(3), 5)
	four, none := impl.MateOf(slowCyclic(4), impl.MaxBudget)
	failed(t, "order 4", none, impl.ErrNotFound, four)
	// In the orders 1 and 2 nothing is to be chosen.
	single, code := impl.MateOf([][]int64{{0}}, 1)
	_, two := impl.MateOf(slowCyclic(2), 1)
	same(t, "few nodes", []any{short, single, code, two}, []any{impl.ErrFull, [][]int64{{0}}, impl.OK, impl.ErrNotFound})
	ten, full := impl.MateOf(tenMols()[0], impl.MaxBudget)
	failed(t, "order 10", full, impl.ErrFull, ten)
}
