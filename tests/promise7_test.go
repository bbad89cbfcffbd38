package tests

import (
	"fmt"
	"math"
	"slices"
	"strings"
	"testing"

	"loop.example/g00920/impl"
)

// slowSquares returns all squares of an order, row by row.
func slowSquares(n int64) [][][]int64 {
	rows := slowPermutations(n)
	all := [][][]int64{nil}
	for range n {
		var longer [][][]int64
		for _, a := range all {
			for _, row := range rows {
				if fitsBelow(a, row) {
					longer = append(longer, append(slices.Clone(a), row))
				}
			}
		}
		all = longer
	}
	return all
}

// fitsBelow reports whether a row has no symbol below the same one.
func fitsBelow(a [][]int64, row []int64) bool {
	for _, above := range a {
		for y, symbol := range row {
			if above[y] == symbol {
				return false
			}
		}
	}
	return true
}

// slowValid counts each symbol in each row and column.
func slowValid(a [][]int64) bool {
	n := len(a)
	if n < 1 || n > 10 {
		return false
	}
	for _, row := range a {
		if len(row) != n {
			return false
		}
	}
	for symbol := range int64(n) {
		for i := range n {
			inRow, inColumn := 0, 0
			for j := range n {
				if a[i][j] == symbol {
					inRow++
				}
				if a[j][i] == symbol {
					inColumn++
				}
			}
			if inRow != 1 || inColumn != 1 {
				return false
			}
		}
	}
	return true
}

// slowFill returns rows with a symbol for each row and column.
func slowFill(n int64, symbol func(x, y int64) int64) [][]int64 {
	var a [][]int64
	for x := range n {
		var row []int64
		for y := range n {
			row = append(row, symbol(x, y))
		}
		a = append(a, row)
	}
	return a
}

func slowCyclic(n int64) [][]int64 {
	return slowFill(n, func(x, y int64) int64 { return (x + y) % n })
}

// scrambled returns a square that depends on the order and on a seed, without the symmetries of the cyclic square.
func scrambled(n, seed int64) [][]int64 {
	rows, columns, symbols := mixed(n, seed), mixed(n, seed+1), mixed(n, seed+2)
	return slowFill(n, func(x, y int64) int64 { return symbols[(rows[x]+columns[y])%n] })
}

// looseSquare is a square of order 5 that belongs to no group and differs from all its conjugates.
func looseSquare() [][]int64 {
	return [][]int64{{0, 1, 2, 3, 4}, {1, 0, 3, 4, 2}, {2, 3, 4, 0, 1}, {4, 2, 0, 1, 3}, {3, 4, 1, 2, 0}}
}

// greatSquares are some squares of the orders 5 to 10.
func greatSquares() [][][]int64 {
	loose := looseSquare()
	some := [][][]int64{loose, slowIsotope(loose, mixed(5, 1), mixed(5, 2), mixed(5, 3)), slowIsotope(loose, mixed(5, 4), mixed(5, 5), mixed(5, 6))}
	for n := int64(5); n <= 10; n++ {
		some = append(some, slowCyclic(n), scrambled(n, n), scrambled(n, 50+n))
	}
	return some
}

// someSquares are all squares of the orders 1 to 4, and some of the greater orders.
func someSquares() [][][]int64 {
	return slices.Concat(slowSquares(1), slowSquares(2), slowSquares(3), slowSquares(4), greatSquares())
}

// fewSquares are some squares of all orders.
func fewSquares() [][][]int64 {
	four := slowSquares(4)
	return slices.Concat(slowSquares(1), slowSquares(2), slowSquares(3), four[:3], four[200:203], greatSquares())
}

// changed returns rows with another symbol at one place.
func changed(a [][]int64, x, y int, symbol int64) [][]int64 {
	b := slices.Clone(a)
	b[x] = slices.Clone(a[x])
	b[x][y] = symbol
	return b
}

// notSquares are lists of rows that break one of the conditions each.
func notSquares() [][][]int64 {
	three, ten := slowCyclic(3), slowCyclic(10)
	return [][][]int64{
		nil, {}, {nil}, {{}}, {{1}}, {{-1}}, {{0, 0}}, {{0}, {0}}, {{0, 1}}, {{0}, {1}}, {{math.MinInt64}}, {{math.MaxInt64}}, {{256}}, {{1 << 32}},
		{{0, 1}, nil}, {nil, {0, 1}}, {{0, 1}, {1}}, {{0, 1}, {1, 0, 1}}, {{0, 1, 2}, {1, 0, 2}}, {{0, 1}, {1, 0}, {0, 1}}, {{0, 1}, {1, 0}, nil}, {{0, 1, 0}, {1, 0, 1}},
		{{0, 1}, {0, 1}}, {{0, 0}, {1, 1}}, {{0, 1}, {1, 2}}, {{1, 2}, {2, 1}}, {{0, -1}, {-1, 0}}, {{0, 2}, {2, 0}}, {{0, 257}, {257, 0}}, {{0, 1}, {1, 1}}, {{1, 1}, {1, 1}},
		{{0, 1, 2}, {1, 2, 0}, {1, 2, 0}}, {{0, 1, 2}, {1, 2, 0}, {2, 1, 0}}, {{0, 1, 1}, {1, 2, 2}, {2, 0, 0}}, three[:2], slices.Concat(three, three[:1]),
		changed(three, 0, 0, 3), changed(three, 2, 2, 0), changed(three, 1, 1, -1), changed(ten, 9, 9, 9), changed(ten, 9, 0, 10), changed(ten, 4, 5, math.MaxInt64), ten[:9],
		slowCyclic(11), slowCyclic(12), slowCyclic(32), slowCyclic(33), slices.Repeat([][]int64{{0}}, 1000), {upTo(1000)}, slices.Repeat([][]int64{upTo(10)}, 10),
	}
}

// slowText writes the rows by the formats of Go.
func slowText(a [][]int64) string {
	var rows []string
	for _, row := range a {
		rows = append(rows, strings.Trim(strings.ReplaceAll(fmt.Sprint(row), " ", ""), "[]"))
	}
	return strings.Join(rows, "/")
}

func TestValidSquare(t *testing.T) {
	same(t, "limit", impl.MaxOrder, 10)
	for n, count := range []int{1: 1, 2: 2, 3: 12, 4: 576} {
		if n > 0 {
			same(t, fmt.Sprint("squares of order ", n), len(slowSquares(int64(n))), count)
		}
	}
	for _, a := range someSquares() {
		same(t, fmt.Sprint("validity of ", a), []bool{slowValid(a), impl.ValidSquare(a)}, []bool{true, true})
	}
	for _, a := range notSquares() {
		same(t, fmt.Sprintf("validity of %.99v", fmt.Sprint(a)), []bool{slowValid(a), impl.ValidSquare(a)}, []bool{false, false})
	}
}

func TestAllGrids(t *testing.T) {
	for _, c := range []struct{ n, symbols, valid int64 }{{1, 3, 1}, {2, 4, 2}, {3, 3, 12}} {
		valid := int64(0)
		for number := range power(c.symbols, c.n*c.n) {
			digits := slowDigits(number, c.symbols, c.n*c.n)
			a := slowFill(c.n, func(x, y int64) int64 { return digits[c.n*x+y] })
			if impl.ValidSquare(a) != slowValid(a) {
				t.Errorf("validity of %v: got %v", a, impl.ValidSquare(a))
			}
			if impl.ValidSquare(a) {
				valid++
			}
		}
		same(t, fmt.Sprint("squares of order ", c.n), valid, c.valid)
	}
}

// TestChangedSquares changes each place of squares to each other symbol, which never leaves a square.
func TestChangedSquares(t *testing.T) {
	for _, a := range fewSquares() {
		for x := range a {
			for y := range a {
				for symbol := int64(-1); symbol <= int64(len(a)); symbol++ {
					b := changed(a, x, y, symbol)
					same(t, fmt.Sprint("validity of ", b), impl.ValidSquare(b), symbol == a[x][y])
					same(t, fmt.Sprint("equality of ", a, " and ", b), []bool{impl.SameSquare(a, b), impl.SameSquare(b, a)}, slices.Repeat([]bool{symbol == a[x][y]}, 2))
				}
			}
		}
	}
}

func TestSameSquare(t *testing.T) {
	different := append(notSquares()[4:], slowSquares(3)...)
	different = append(different, [][]int64{nil, nil}, [][]int64{{0}, nil}, [][]int64{nil, {0}}, [][]int64{{0}}, nil, [][]int64{nil})
	for i, a := range different {
		for j, b := range different {
			what := fmt.Sprintf("equality of %.99v and %.99v", fmt.Sprint(a), fmt.Sprint(b))
			same(t, what, impl.SameSquare(a, b), i == j)
			same(t, what+", copied", impl.SameSquare(rowsWithRoom(a), b), i == j)
		}
	}
	empty := [][]bool{{impl.SameSquare(nil, [][]int64{}), impl.SameSquare([][]int64{}, nil)}, {impl.SameSquare([][]int64{nil}, [][]int64{{}}), impl.SameSquare([][]int64{{0}, {}}, [][]int64{{0}, nil})}}
	same(t, "nil and empty", empty, [][]bool{{true, true}, {true, true}})
}

func TestCyclicSquares(t *testing.T) {
	for n := int64(-5); n <= 40; n++ {
		a, code := impl.CyclicSquare(n)
		if n < 1 || n > 10 {
			failed(t, fmt.Sprint("cyclic square of order ", n), code, impl.ErrRange, a)
			continue
		}
		same(t, fmt.Sprint("cyclic square of order ", n), []any{a, code, impl.ValidSquare(a), impl.IsReduced(a)}, []any{slowCyclic(n), impl.OK, true, true})
	}
	for _, n := range []int64{math.MinInt64, math.MaxInt64, 1 << 32, 1<<32 + 3, -(1 << 32)} {
		a, code := impl.CyclicSquare(n)
		failed(t, fmt.Sprint("cyclic square of order ", n), code, impl.ErrRange, a)
	}
}

func slowProduct(a, b [][]int64) [][]int64 {
	n, m := int64(len(a)), int64(len(b))
	product := slowFill(n*m, func(x, y int64) int64 { return -1 })
	for x := range n {
		for y := range n {
			for i := range m {
				for j := range m {
					product[m*x+i][m*y+j] = m*a[x][y] + b[i][j]
				}
			}
		}
	}
	return product
}

func TestProducts(t *testing.T) {
	for _, a := range fewSquares() {
		for _, b := range fewSquares() {
			what := fmt.Sprint("product of ", a, " and ", b)
			product, code := impl.ProductSquare(a, b)
			if len(a)*len(b) > 10 {
				failed(t, what, code, impl.ErrRange, product)
				continue
			}
			same(t, what, []any{product, code}, []any{slowProduct(a, b), impl.OK})
			same(t, what+", validity", impl.ValidSquare(product), true)
		}
	}
	two := slowCyclic(2)
	product, code := impl.ProductSquare(two, two)
	same(t, "example", []any{impl.SquareText(product), code}, []any{"0123/1032/2301/3210", impl.OK})
}

func TestProductErrors(t *testing.T) {
	for _, bad := range notSquares() {
		for _, a := range [][][]int64{slowCyclic(1), slowCyclic(2), slowCyclic(6), slowCyclic(10), bad} {
			first, one := impl.ProductSquare(a, bad)
			second, two := impl.ProductSquare(bad, a)
			failed(t, "not a square second", one, impl.ErrInvalid, first)
			failed(t, "not a square first", two, impl.ErrInvalid, second)
		}
	}
}

// kindOrders has, for each kind of conjugate, which part of a cell becomes the row, the column and the symbol.
func kindOrders() [][]int64 {
	return [][]int64{{0, 1, 2}, {0, 2, 1}, {1, 0, 2}, {1, 2, 0}, {2, 0, 1}, {2, 1, 0}}
}

// slowConjugate puts the cells of a square into another one.
func slowConjugate(a [][]int64, order []int64) [][]int64 {
	b := slowFill(int64(len(a)), func(x, y int64) int64 { return -1 })
	for x, row := range a {
		for y, symbol := range row {
			t := []int64{int64(x), int64(y), symbol}
			b[t[order[0]]][t[order[1]]] = t[order[2]]
		}
	}
	return b
}

func mustConjugate(t *testing.T, a [][]int64, kind int64) [][]int64 {
	t.Helper()
	b, code := impl.Conjugate(a, kind)
	if code != impl.OK {
		t.Fatalf("conjugate of the kind %d of %v: got the code %d", kind, a, code)
	}
	return b
}

func TestConjugates(t *testing.T) {
	for _, a := range someSquares() {
		for kind, order := range kindOrders() {
			b := mustConjugate(t, a, int64(kind))
			what := fmt.Sprint("conjugate of the kind ", kind, " of ", a)
			same(t, what, b, slowConjugate(a, order))
			same(t, what+", validity", impl.ValidSquare(b), true)
			same(t, what+", undone", mustConjugate(t, b, int64([]int{0, 1, 2, 4, 3, 5}[kind])), a)
		}
		same(t, "kind 0", mustConjugate(t, a, 0), a)
		same(t, "kind 2", mustConjugate(t, a, 2), slowFill(int64(len(a)), func(x, y int64) int64 { return a[y][x] }))
	}
}

// TestConjugatesCompose checks that the kind of a conjugate of a conjugate has the permutation that is composed of the
// later one and then the earlier one.
func TestConjugatesCompose(t *testing.T) {
	orders := kindOrders()
	for _, a := range someSquares() {
		for k, p := range orders {
			for l, q := range orders {
				kind, _ := impl.RankPermutation(mustCompose(t, q, p))
				twice := mustConjugate(t, mustConjugate(t, a, int64(k)), int64(l))
				same(t, fmt.Sprint("conjugate of the kind ", l, " of that of the kind ", k, " of ", a), twice, mustConjugate(t, a, kind))
			}
		}
	}
}

func TestConjugateExamples(t *testing.T) {
	example := mustConjugate(t, slowCyclic(3), 1)
	same(t, "example", []string{impl.SquareText(example), impl.SquareText(mustConjugate(t, example, 2))}, []string{"012/201/120", "021/102/210"})
	loose := looseSquare()
	var texts []string
	for kind := range int64(6) {
		texts = append(texts, impl.SquareText(mustConjugate(t, loose, kind)))
	}
	same(t, "conjugates", texts, []string{
		"01234/10342/23401/42013/34120", "01234/10423/34012/23140/42301", "01243/10324/23401/34012/42130",
		"01243/10324/34012/23401/42130", "01324/10432/24013/32140/43201", "01324/10432/23041/42103/34210",
	})
}

func TestConjugateErrors(t *testing.T) {
	kinds := []int64{-1, 6, 7, 256, 1 << 32, -(1 << 32), math.MinInt64, math.MaxInt64}
	for _, a := range fewSquares() {
		for _, kind := range kinds {
			b, code := impl.Conjugate(a, kind)
			failed(t, fmt.Sprint("conjugate of the kind ", kind), code, impl.ErrRange, b)
		}
	}
	for _, bad := range notSquares() {
		for _, kind := range append(kinds, 0, 1, 2, 3, 4, 5) {
			b, code := impl.Conjugate(bad, kind)
			failed(t, fmt.Sprint("conjugate of the kind ", kind, " of what is not a square"), code, impl.ErrInvalid, b)
		}
	}
}

func slowIsotope(a [][]int64, rows, columns, symbols []int64) [][]int64 {
	b := slowFill(int64(len(a)), func(x, y int64) int64 { return -1 })
	for x, row := range a {
		for y, symbol := range row {
			b[rows[x]][columns[y]] = symbols[symbol]
		}
	}
	return b
}

// move has the permutations of the rows, the columns and the symbols.
type move [3][]int64

func mustIsotope(t *testing.T, a [][]int64, m move) [][]int64 {
	t.Helper()
	b, code := impl.Isotope(a, m[0], m[1], m[2])
	if code != impl.OK {
		t.Fatalf("isotope of %v by %v: got the code %d", a, m, code)
	}
	return b
}

// someMoves are all moves of the orders 1 to 3, and some of the greater orders.
func someMoves(n int64) []move {
	var moves []move
	if n > 3 {
		for seed := range int64(4) {
			moves = append(moves, move{mixed(n, 3*seed), mixed(n, 3*seed+1), mixed(n, 3*seed+2)})
		}
		return append(moves, move{upTo(n), upTo(n), upTo(n)}, move{mixed(n, 9), upTo(n), upTo(n)}, move{upTo(n), mixed(n, 9), upTo(n)}, move{upTo(n), upTo(n), mixed(n, 9)})
	}
	all := slowPermutations(n)
	for _, p := range all {
		for _, q := range all {
			for _, r := range all {
				moves = append(moves, move{p, q, r})
			}
		}
	}
	return moves
}

func TestIsotopes(t *testing.T) {
	for _, a := range someSquares() {
		for _, m := range someMoves(int64(len(a))) {
			b := mustIsotope(t, a, m)
			what := fmt.Sprint("isotope of ", a, " by ", m)
			same(t, what, b, slowIsotope(a, m[0], m[1], m[2]))
			same(t, what+", validity", impl.ValidSquare(b), true)
			same(t, what+", undone", mustIsotope(t, b, move{slowInverse(m[0]), slowInverse(m[1]), slowInverse(m[2])}), a)
		}
		n := int64(len(a))
		same(t, fmt.Sprint("identical isotope of ", a), mustIsotope(t, a, move{upTo(n), upTo(n), upTo(n)}), a)
	}
}

func TestIsotopesCompose(t *testing.T) {
	for _, a := range fewSquares() {
		moves := someMoves(int64(len(a)))
		for i, first := range moves {
			second := moves[(7*i+5)%len(moves)]
			both := move{mustCompose(t, first[0], second[0]), mustCompose(t, first[1], second[1]), mustCompose(t, first[2], second[2])}
			twice := mustIsotope(t, mustIsotope(t, a, first), second)
			same(t, fmt.Sprint("isotope of ", a, " by ", first, " and then by ", second), twice, mustIsotope(t, a, both))
		}
	}
}

// TestConjugatesOfIsotopes checks that the permutations of an isotope are conjugated like the parts of cells.
func TestConjugatesOfIsotopes(t *testing.T) {
	for _, a := range fewSquares() {
		for _, m := range someMoves(int64(len(a))) {
			for kind, p := range kindOrders() {
				first := mustConjugate(t, mustIsotope(t, a, m), int64(kind))
				second := mustIsotope(t, mustConjugate(t, a, int64(kind)), move{m[p[0]], m[p[1]], m[p[2]]})
				same(t, fmt.Sprint("conjugate of the kind ", kind, " of the isotope of ", a, " by ", m), first, second)
			}
		}
	}
}

func TestIsotopeErrors(t *testing.T) {
	for _, a := range fewSquares() {
		n := int64(len(a))
		good := mixed(n, 4)
		bads := append(notPermutations(), nil, upTo(n-1), upTo(n+1), reversed(n+1), upTo(32), append(upTo(n-1), n), append(upTo(n-1), -1), repeated(int(n), n), append(upTo(n), n-1))
		for _, bad := range bads {
			if int64(len(bad)) == n && slices.Equal(slices.Sorted(slices.Values(bad)), upTo(n)) {
				t.Fatalf("%v is a permutation of the order %d", bad, n)
			}
			for which, m := range []move{{bad, good, good}, {good, bad, good}, {good, good, bad}, {bad, bad, good}, {bad, good, bad}, {good, bad, bad}, {bad, bad, bad}} {
				b, code := impl.Isotope(a, m[0], m[1], m[2])
				failed(t, fmt.Sprint("isotope of ", a, ", wrong permutations ", which), code, impl.ErrRange, b)
			}
		}
	}
	for _, bad := range notSquares() {
		n := int64(len(bad))
		for _, p := range [][]int64{nil, upTo(n), upTo(n + 1), repeated(3, -1), {0}, {1, 0}} {
			b, code := impl.Isotope(bad, p, p, p)
			failed(t, "isotope of what is not a square", code, impl.ErrInvalid, b)
		}
	}
}

func slowIsReduced(a [][]int64) bool {
	for i := range a {
		if a[0][i] != int64(i) || a[i][0] != int64(i) {
			return false
		}
	}
	return true
}

// slowReduced sorts the columns by the first row, and then the rows by the first column.
func slowReduced(a [][]int64) [][]int64 {
	n := int64(len(a))
	columns := slowFill(n, func(x, y int64) int64 { return a[y][x] })
	slices.SortFunc(columns, slices.Compare[[]int64])
	rows := slowFill(n, func(x, y int64) int64 { return columns[y][x] })
	slices.SortFunc(rows, slices.Compare[[]int64])
	return rows
}

func mustReduce(t *testing.T, a [][]int64) [][]int64 {
	t.Helper()
	b, code := impl.ReducedSquare(a)
	if code != impl.OK {
		t.Fatalf("reduced form of %v: got the code %d", a, code)
	}
	return b
}

func TestReducedSquares(t *testing.T) {
	for _, a := range someSquares() {
		b := mustReduce(t, a)
		what := fmt.Sprint("reduced form of ", a)
		same(t, what, b, slowReduced(a))
		same(t, what+", validity", []bool{impl.ValidSquare(b), impl.IsReduced(b)}, []bool{true, true})
		same(t, what+", reduced again", mustReduce(t, b), b)
		same(t, fmt.Sprint("whether reduced: ", a), impl.IsReduced(a), slowIsReduced(a))
		same(t, fmt.Sprint("whether reduced: ", b), slowIsReduced(b), true)
	}
	for n, count := range []int{1: 1, 2: 1, 3: 1, 4: 4} {
		if n > 0 {
			same(t, fmt.Sprint("reduced squares of order ", n), countReduced(int64(n)), count)
		}
	}
}

func countReduced(n int64) int {
	reduced := 0
	for _, a := range slowSquares(n) {
		if impl.IsReduced(a) {
			reduced++
		}
	}
	return reduced
}

// TestReducedIsotopes checks reduced forms of squares with moved rows and columns; the order of the rows but the first one
// does not matter.
func TestReducedIsotopes(t *testing.T) {
	for _, a := range fewSquares() {
		n := int64(len(a))
		for seed := range int64(5) {
			rows := append([]int64{0}, shifted(mixed(n-1, seed))...)
			b := mustIsotope(t, a, move{rows, upTo(n), upTo(n)})
			same(t, fmt.Sprint("reduced form of ", a, " with rows moved by ", rows), mustReduce(t, b), mustReduce(t, a))
			c := mustIsotope(t, a, move{mixed(n, seed), mixed(n, seed+9), upTo(n)})
			same(t, fmt.Sprint("reduced form of ", c), mustReduce(t, c), slowReduced(c))
		}
	}
}

// shifted adds 1 to the numbers of a list.
func shifted(list []int64) []int64 {
	var sum []int64
	for _, x := range list {
		sum = append(sum, x+1)
	}
	return sum
}

func TestNotReduced(t *testing.T) {
	for _, a := range [][][]int64{{{1, 0}, {0, 1}}, {{0, 1, 2}, {2, 0, 1}, {1, 2, 0}}, {{0, 2, 1}, {1, 0, 2}, {2, 1, 0}}, {{2, 0, 1}, {0, 1, 2}, {1, 2, 0}}} {
		same(t, fmt.Sprint("whether reduced: ", a), []bool{impl.ValidSquare(a), impl.IsReduced(a)}, []bool{true, false})
	}
	for _, bad := range append(notSquares(), [][]int64{{0, 1}, {1, 1}}, [][]int64{{0, 1, 2}, {1, 0, 2}, {2, 1, 0}}, slices.Concat([][]int64{upTo(10)}, slowCyclic(10)[1:9], [][]int64{{9, 9, 9, 9, 9, 9, 9, 9, 9, 9}})) {
		same(t, fmt.Sprintf("whether reduced: %.99v", fmt.Sprint(bad)), impl.IsReduced(bad), false)
		b, code := impl.ReducedSquare(bad)
		failed(t, "reduced form of what is not a square", code, impl.ErrInvalid, b)
	}
}

func TestSymbolColumns(t *testing.T) {
	wrong := []int64{-1, 10, 11, 256, 1 << 32, math.MinInt64, math.MaxInt64}
	for _, a := range someSquares() {
		n := int64(len(a))
		for symbol := range n {
			var want []int64
			for _, row := range a {
				want = append(want, int64(slices.Index(row, symbol)))
			}
			columns, code := impl.SymbolColumns(a, symbol)
			same(t, fmt.Sprint("columns of the symbol ", symbol, " in ", a), []any{columns, code}, []any{want, impl.OK})
			// They are the column of the conjugate in which the columns have become the symbols.
			same(t, "the conjugate", column(mustConjugate(t, a, 1), symbol), columns)
		}
		for _, symbol := range append(wrong, n, n+1) {
			columns, code := impl.SymbolColumns(a, symbol)
			failed(t, fmt.Sprint("columns of the symbol ", symbol, " in ", a), code, impl.ErrRange, columns)
		}
	}
	for _, bad := range notSquares() {
		for _, symbol := range append(wrong, 0, 1, 2) {
			columns, code := impl.SymbolColumns(bad, symbol)
			failed(t, fmt.Sprint("columns of the symbol ", symbol, " in what is not a square"), code, impl.ErrInvalid, columns)
		}
	}
}

func column(a [][]int64, y int64) []int64 {
	var symbols []int64
	for _, row := range a {
		symbols = append(symbols, row[y])
	}
	return symbols
}

func TestSquaresAreRestored(t *testing.T) {
	for _, a := range someSquares() {
		text := impl.SquareText(a)
		same(t, fmt.Sprint("text of ", a), text, slowText(a))
		b, ok := impl.ReadSquare(text)
		same(t, "square with the text "+text, []any{b, ok}, []any{a, true})
	}
	for _, bad := range notSquares() {
		same(t, fmt.Sprintf("text of %.99v", fmt.Sprint(bad)), impl.SquareText(bad), "")
	}
	same(t, "examples", []string{impl.SquareText(slowCyclic(3)), impl.SquareText([][]int64{{0}})}, []string{"012/120/201", "0"})
	same(t, "order 10", impl.SquareText(slowCyclic(10)), "0123456789/1234567890/2345678901/3456789012/4567890123/5678901234/6789012345/7890123456/8901234567/9012345678")
}

func TestNoSquares(t *testing.T) {
	for _, s := range []string{
		"", " ", "-", "-1", "a", "/", "//", "1", "00", "0/", "/0", "0/0", "0//0", "01", "01/", "01/1", "01/10/", "/01/10", "01//10", "01/10/01", "01/10 ", " 01/10", "01/10\n", "01/10\x00", "01/1O",
		".", "..", "./.", "0./.0", "../..", "01/1.", "01/10.", "01.10", "012/120/20.", "01\n10", "01,10", "01\\10", "01|10", "0110", "01/01", "00/11", "01/12", "12/21", "10/10", "0 1/1 0", "0,1/1,0", "+0", "-0", "00/00", "0.", "01/1\xb0", "01/1\xff0",
		"\u0660", "\uff10", "\u0660\u0661/\u0661\u0660", "01\u204410", "01/10\ufeff", "\ufeff01/10", "012/120", "012/120/20", "012/120/2011", "012/120/201/", "012/120/201/012", "012/120/210",
		"012/102/210", "0123/1032/2301/321", "0123/1032/2301/3201", slowText(slowCyclic(11)), slowText(slowCyclic(10)[:9]), slowText(slowCyclic(10)) + "/", "abc/bca/cab",
		"0123456789:/123456789:0/23456789:01/3456789:012/456789:0123/56789:01234/6789:012345/789:0123456/89:01234567/9:012345678/:0123456789",
		strings.Repeat("0/", 50000) + "0", strings.Repeat("/", 100000), strings.Repeat("0", 100000),
	} {
		a, ok := impl.ReadSquare(s)
		same(t, fmt.Sprintf("square with the text %.99q", s), ok, false)
		failed(t, fmt.Sprintf("square with the text %.99q", s), 0, 0, a)
	}
}

// TestShortTexts reads all texts of at most 5 of some bytes.
func TestShortTexts(t *testing.T) {
	bytes := []byte("012/.-:\xd9")
	var read []string
	for length := range int64(6) {
		for number := range power(int64(len(bytes)), length) {
			s := make([]byte, length)
			for i, digit := range slowDigits(number, int64(len(bytes)), length) {
				s[i] = bytes[digit]
			}
			if a, ok := impl.ReadSquare(string(s)); ok {
				read = append(read, string(s))
				same(t, "the text "+string(s), slowText(a), string(s))
			}
		}
	}
	slices.Sort(read)
	same(t, "texts of squares", read, []string{"0", "01/10", "10/01"})
}

// TestDamagedTexts changes, removes and inserts each byte of texts, which never leaves the text of a square.
func TestDamagedTexts(t *testing.T) {
	for _, a := range fewSquares() {
		text := slowText(a)
		for i := range text {
			for _, c := range []byte("0123456789/. :-a\x00\xff") {
				if text[i] != c {
					checkNoSquare(t, text[:i]+string([]byte{c})+text[i+1:])
				}
				checkNoSquare(t, text[:i]+string([]byte{c})+text[i:])
				checkNoSquare(t, text+string([]byte{c}))
			}
			checkNoSquare(t, text[:i]+text[i+1:])
		}
	}
}

func checkNoSquare(t *testing.T, s string) {
	t.Helper()
	if a, ok := impl.ReadSquare(s); ok || len(a) > 0 {
		t.Errorf("square with the text %q: got %v", s, a)
	}
}
