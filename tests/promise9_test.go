package tests

import (
	"fmt"
	"math"
	"slices"
	"testing"

	"loop.example/g00920/impl"
)

// linearSquares are squares whose symbols are p x + q y + r modulo n, of all orders.
func linearSquares() [][][]int64 {
	var list [][][]int64
	for n := int64(1); n <= 10; n++ {
		for p := int64(1); p <= n; p++ {
			for q := int64(1); q <= n; q++ {
				if slowGcd(p, n) == 1 && slowGcd(q, n) == 1 {
					list = append(list, slowFill(n, func(x, y int64) int64 { return (p*x + q*y + p - q + n) % n }), slowFill(n, func(x, y int64) int64 { return (p*x + q*y) % n }))
				}
			}
		}
	}
	return list
}

// tableOf returns the multiplication of the permutations of a list, which must be closed.
func tableOf(elements [][]int64) [][]int64 {
	return slowFill(int64(len(elements)), func(x, y int64) int64 {
		product := slowCompose(elements[x], elements[y])
		return int64(slices.IndexFunc(elements, func(p []int64) bool { return slices.Equal(p, product) }))
	})
}

// dihedral returns the multiplication of the symmetries of a polygon.
func dihedral(corners int64) [][]int64 {
	turn := append(shifted(upTo(corners-1)), 0)
	return tableOf(slowGroup(corners, [][]int64{turn, reversed(corners)}))
}

// quaternions returns the multiplication of the group of order 8 in which all elements but two have the order 4.
func quaternions() [][]int64 {
	return tableOf(slowGroup(8, [][]int64{{1, 2, 3, 0, 5, 6, 7, 4}, {4, 7, 6, 5, 2, 1, 0, 3}}))
}

// groupSquares are multiplications of all groups of the orders 1 to 10, for each with the number of its automorphisms.
func groupSquares() ([][][]int64, []int) {
	two, three, four := slowCyclic(2), slowCyclic(3), slowCyclic(4)
	list := [][][]int64{slowCyclic(1), two, three, four, slowProduct(two, two), slowCyclic(5), slowCyclic(6), dihedral(3), slowCyclic(7),
		slowCyclic(8), slowProduct(two, four), slowProduct(two, slowProduct(two, two)), dihedral(4), quaternions(), slowCyclic(9), slowProduct(three, three), slowCyclic(10), dihedral(5)}
	return list, []int{1, 1, 2, 2, 6, 4, 2, 6, 6, 4, 8, 168, 8, 24, 6, 48, 4, 20}
}

// tripleSquare returns the idempotent symmetric square of the triples of a Steiner triple system.
func tripleSquare(n int64, triples [][]int64) [][]int64 {
	return slowFill(n, func(x, y int64) int64 {
		for _, t := range triples {
			if x != y && slices.Contains(t, x) && slices.Contains(t, y) {
				return t[0] + t[1] + t[2] - x - y
			}
		}
		return x
	})
}

// fanoSquare belongs to the triple system with seven points.
func fanoSquare() [][]int64 {
	return tripleSquare(7, [][]int64{{0, 1, 3}, {1, 2, 4}, {2, 3, 5}, {3, 4, 6}, {0, 4, 5}, {1, 5, 6}, {0, 2, 6}})
}

// fanoLoop is the square of order 8 in which 7 is the unit and all squares are 7.
func fanoLoop() [][]int64 {
	fano := fanoSquare()
	return slowFill(8, func(x, y int64) int64 {
		switch {
		case x == y:
			return 7
		case x == 7 || y == 7:
			return min(x, y)
		}
		return fano[x][y]
	})
}

// brokenSquares are squares of the orders 6 to 10 that are made from those of groups by exchanges in a part of their cells.
func brokenSquares() [][][]int64 {
	return [][][]int64{turned(6), turned(8), turned(10), tenMols()[0], tenMols()[1], fanoSquare(), fanoLoop()}
}

// manySquares are squares of all orders with and without identities.
func manySquares() [][][]int64 {
	groups, _ := groupSquares()
	list := slices.Concat(someSquares(), linearSquares(), groups, brokenSquares())
	for i, a := range slices.Concat(groups, brokenSquares()) {
		n, seed := int64(len(a)), int64(3*i)
		list = append(list, slowIsotope(a, mixed(n, seed), mixed(n, seed+1), mixed(n, seed+2)), slowIsotope(a, mixed(n, seed), mixed(n, seed), mixed(n, seed)))
	}
	return list
}

// slowIdentities looks at all x, y and z.
func slowIdentities(a [][]int64) []int64 {
	holds := make([]bool, 9)
	for kind := range holds {
		holds[kind] = true
	}
	left, right := 0, 0
	for x, row := range a {
		if slices.Equal(row, upTo(int64(len(a)))) {
			left++
		}
		if slices.Equal(column(a, int64(x)), upTo(int64(len(a)))) {
			right++
		}
		for y, symbol := range row {
			holds[impl.QgIdempotent] = holds[impl.QgIdempotent] && a[x][x] == int64(x)
			holds[impl.QgUnipotent] = holds[impl.QgUnipotent] && a[x][x] == a[y][y]
			holds[impl.QgCommutative] = holds[impl.QgCommutative] && symbol == a[y][x]
			holds[impl.QgSemi] = holds[impl.QgSemi] && a[x][a[y][x]] == int64(y)
			for z := range a {
				holds[impl.QgAssociative] = holds[impl.QgAssociative] && a[symbol][z] == a[x][a[y][z]]
			}
		}
	}
	holds[impl.QgLeftUnit], holds[impl.QgRightUnit] = left > 0, right > 0
	holds[impl.QgTotally] = holds[impl.QgCommutative] && holds[impl.QgSemi]
	var kinds []int64
	for kind := int64(1); kind <= 8; kind++ {
		if holds[kind] {
			kinds = append(kinds, kind)
		}
	}
	return kinds
}

func TestIdentityNames(t *testing.T) {
	names := map[int64]string{1: "idempotent", 2: "unipotent", 3: "commutative", 4: "left-unit", 5: "right-unit", 6: "associative", 7: "semisymmetric", 8: "symmetric"}
	for _, kind := range []int64{impl.QgIdempotent, impl.QgUnipotent, impl.QgCommutative, impl.QgLeftUnit, impl.QgRightUnit, impl.QgAssociative, impl.QgSemi, impl.QgTotally} {
		same(t, fmt.Sprint("whether the kind ", kind, " has a name"), names[kind] != "", true)
	}
	same(t, "kinds", []int64{impl.QgIdempotent, impl.QgTotally}, []int64{1, 8})
	for _, kind := range []int64{math.MinInt64, -1 << 32, 256, 257, 1 << 32, 1<<32 + 1, math.MaxInt64} {
		same(t, fmt.Sprint("name of the kind ", kind), impl.IdentityName(kind), "")
	}
	for kind := int64(-20); kind <= 40; kind++ {
		same(t, fmt.Sprint("name of the kind ", kind), impl.IdentityName(kind), names[kind])
	}
}

func TestIdentitiesOf(t *testing.T) {
	occur := map[int64]int{}
	for _, a := range manySquares() {
		kinds, code := impl.IdentitiesOf(a)
		same(t, fmt.Sprint("identities of ", a), []any{kinds, code}, []any{slowIdentities(a), impl.OK})
		for _, kind := range kinds {
			occur[kind]++
		}
	}
	same(t, "kinds that occur", len(occur), 8)
	for _, c := range []struct {
		a    [][]int64
		want []int64
	}{
		{slowCyclic(4), []int64{3, 4, 5, 6}}, {slowCyclic(1), upTo(9)[1:]}, {slowCyclic(10), []int64{3, 4, 5, 6}}, {slowCyclic(2), []int64{2, 3, 4, 5, 6, 7, 8}},
		{fanoSquare(), []int64{1, 3, 7, 8}}, {fanoLoop(), []int64{2, 3, 4, 5, 6, 7, 8}}, {dihedral(5), []int64{4, 5, 6}}, {quaternions(), []int64{4, 5, 6}}, {looseSquare(), slowIdentities(looseSquare())},
		{slowFill(10, func(x, y int64) int64 { return (y - x + 10) % 10 }), []int64{2, 4}}, {slowFill(10, func(x, y int64) int64 { return (x - y + 10) % 10 }), []int64{2, 5}},
		{slowFill(9, func(x, y int64) int64 { return (18 - x - y) % 9 }), []int64{3, 7, 8}}, {slowFill(9, func(x, y int64) int64 { return (10 - x - y + 9) % 9 }), []int64{3, 7, 8}},
		{slowFill(7, func(x, y int64) int64 { return (5*x + 3*y) % 7 }), []int64{1, 7}}, {slowFill(7, func(x, y int64) int64 { return (6*x + 2*y) % 7 }), []int64{1}},
		{slowFieldSquare(4, 1), []int64{2, 3, 4, 5, 6, 7, 8}}, {slowFieldSquare(4, 2), []int64{4}},
	} {
		kinds, code := impl.IdentitiesOf(c.a)
		same(t, fmt.Sprint("identities of ", c.a), []any{kinds, code}, []any{c.want, impl.OK})
	}
}

// slowUnit multiplies each symbol with all others from both sides.
func slowUnit(a [][]int64) (int64, bool) {
	for e := range a {
		if slices.Equal(a[e], upTo(int64(len(a)))) && slices.Equal(column(a, int64(e)), a[e]) {
			return int64(e), true
		}
	}
	return 0, false
}

func TestUnits(t *testing.T) {
	units := map[int64]int{}
	for _, a := range manySquares() {
		e, ok := impl.UnitOf(a)
		unit, is := slowUnit(a)
		same(t, fmt.Sprint("unit of ", a), []any{e, ok}, []any{unit, is})
		if ok {
			units[e]++
		}
	}
	if len(units) < 8 {
		t.Errorf("units that occur: %v", units)
	}
	e, ok := impl.UnitOf(fanoLoop())
	same(t, "unit of a loop", []any{e, ok}, []any{7, true})
	// A square that has a unit on one side only.
	for _, a := range [][][]int64{slowFill(10, func(x, y int64) int64 { return (y - x + 10) % 10 }), slowFill(10, func(x, y int64) int64 { return (x - y + 10) % 10 }), {{1, 2, 0}, {0, 1, 2}, {2, 0, 1}}} {
		e, ok := impl.UnitOf(a)
		same(t, fmt.Sprint("unit of ", a), []any{e, ok}, []any{0, false})
	}
}

// slowQuadrangles looks at all rows r, s, u, v and all columns c, d, e, f.
func slowQuadrangles(a [][]int64) bool {
	n := int64(len(a))
	for number := range power(n, 8) {
		i := slowDigits(number, n, 8)
		r, s, u, v, c, d, e, f := i[0], i[1], i[2], i[3], i[4], i[5], i[6], i[7]
		if a[r][c] == a[u][e] && a[r][d] == a[u][f] && a[s][c] == a[v][e] && a[s][d] != a[v][f] {
			return false
		}
	}
	return true
}

func isGroup(t *testing.T, what string, a [][]int64, want bool) {
	t.Helper()
	same(t, "whether from a group and with quadrangles: "+what, []bool{impl.IsGroupBased(a), impl.QuadranglesHold(a)}, []bool{want, want})
}

func TestQuadrangles(t *testing.T) {
	squares := slices.Concat(slowSquares(1), slowSquares(2), slowSquares(3))
	for i, a := range slowSquares(4) {
		if i%48 == 0 {
			squares = append(squares, a)
		}
	}
	for seed := int64(1); seed < 30; seed += 3 {
		squares = append(squares, slowIsotope(looseSquare(), mixed(5, seed), mixed(5, seed+1), mixed(5, seed+2)))
	}
	for _, a := range append(squares, slowCyclic(5), looseSquare(), turned(6), tenMols()[0]) {
		isGroup(t, fmt.Sprint(a), a, slowQuadrangles(a))
	}
}

// TestAllSquaresOfGroups counts the reduced squares that belong to groups: there are (n - 1)! for a group of order n, divided
// by the number of its automorphisms. Those of other squares are not associative.
func TestAllSquaresOfGroups(t *testing.T) {
	groups, automorphisms := groupSquares()
	want := map[int]int{}
	for i, a := range groups {
		want[len(a)] += len(slowPermutations(min(int64(len(a)-1), 6))) / automorphisms[i]
	}
	for n := int64(1); n <= 6; n++ {
		count := 0
		for _, a := range reducedSquares(n) {
			if impl.IsGroupBased(a) {
				count++
			}
			if impl.IsGroupBased(a) != impl.QuadranglesHold(a) {
				t.Errorf("group and quadrangles of %v", a)
			}
		}
		same(t, fmt.Sprint("reduced squares of groups of order ", n), count, want[int(n)])
	}
}

// reducedSquares returns all reduced squares of an order, row by row.
func reducedSquares(n int64) [][][]int64 {
	rows := slowPermutations(n)
	all := [][][]int64{{upTo(n)}}
	for x := int64(1); x < n; x++ {
		var longer [][][]int64
		for _, a := range all {
			for _, row := range rows {
				if row[0] == x && fitsBelow(a, row) {
					longer = append(longer, append(slices.Clone(a), row))
				}
			}
		}
		all = longer
	}
	return all
}

func TestSquaresOfGroups(t *testing.T) {
	groups, _ := groupSquares()
	for _, a := range groups {
		kinds, _ := impl.IdentitiesOf(a)
		same(t, fmt.Sprint("whether a group: ", a), slices.Contains(kinds, impl.QgAssociative), true)
		for _, m := range someMoves(int64(len(a))) {
			b := slowIsotope(a, m[0], m[1], m[2])
			for _, order := range kindOrders() {
				c := slowConjugate(b, order)
				isGroup(t, fmt.Sprint(c), c, true)
			}
		}
	}
	for _, a := range linearSquares() {
		isGroup(t, fmt.Sprint(a), a, true)
	}
}

func TestSquaresOfNoGroups(t *testing.T) {
	list := [][][]int64{looseSquare(), turned(6), turned(8), turned(10), tenMols()[0], tenMols()[1], fanoSquare()}
	for _, a := range list {
		for _, m := range someMoves(int64(len(a))) {
			b := slowIsotope(a, m[0], m[1], m[2])
			isGroup(t, fmt.Sprint(b), b, false)
		}
	}
	isGroup(t, "the loop of the triple system with seven points", fanoLoop(), true)
}

// subsetsOf returns all sets of numbers less than n.
func subsetsOf(n int64) [][]int64 {
	var sets [][]int64
	for number := range uint64(1) << n {
		sets = append(sets, bitsSet(number))
	}
	return sets
}

// isClosed reports whether a set has the products of its elements.
func isClosed(a [][]int64, set []int64) bool {
	for _, x := range set {
		for _, y := range set {
			if !slices.Contains(set, a[x][y]) {
				return false
			}
		}
	}
	return true
}

// slowClosure returns the meet of all closed sets that contain a set.
func slowClosure(closed [][]int64, n int64, set []int64) []int64 {
	meet := upTo(n)
	for _, other := range closed {
		if hasAll(other, set) {
			meet = slices.DeleteFunc(meet, func(x int64) bool { return !slices.Contains(other, x) })
		}
	}
	return meet
}

func hasAll(list, part []int64) bool {
	for _, x := range part {
		if !slices.Contains(list, x) {
			return false
		}
	}
	return true
}

func TestClosures(t *testing.T) {
	groups, _ := groupSquares()
	four := slowSquares(4)
	for _, a := range slices.Concat(slowSquares(1), slowSquares(2), slowSquares(3), four[:40], four[300:340], groups, brokenSquares(), [][][]int64{looseSquare(), scrambled(9, 1), scrambled(10, 2)}) {
		n := int64(len(a))
		sets := subsetsOf(n)
		var closed [][]int64
		for _, set := range sets {
			if isClosed(a, set) {
				closed = append(closed, set)
			}
		}
		for i, set := range sets {
			if n > 8 && i%7 > 0 && len(set) > 2 {
				continue
			}
			closure, code := impl.ClosureIn(a, set)
			same(t, fmt.Sprint("closure of ", set, " in ", a), []any{closure, code}, []any{slowClosure(closed, n, set), impl.OK})
		}
	}
	for _, c := range []struct {
		n         int64
		set, want []int64
	}{{4, []int64{2}, []int64{0, 2}}, {4, nil, nil}, {1, []int64{0}, []int64{0}}, {10, []int64{4}, []int64{0, 2, 4, 6, 8}}, {10, []int64{5}, []int64{0, 5}}, {10, []int64{2, 5}, upTo(10)}, {10, upTo(10), upTo(10)}, {9, []int64{0}, []int64{0}}} {
		closure, code := impl.ClosureIn(slowCyclic(c.n), c.set)
		same(t, fmt.Sprint("closure of ", c.set, " in the cyclic square of order ", c.n), []any{closure, code}, []any{c.want, impl.OK})
	}
}

// notSetsOf are lists that are not strictly increasing lists of numbers less than n.
func notSetsOf(n int64) [][]int64 {
	lists := [][]int64{{-1}, {n}, {0, n}, {n - 1, n}, {-1, 0}, {0, 0}, {n - 1, n - 1}, {n - 1, 0, n}, {math.MinInt64}, {math.MaxInt64}, {256}, {1 << 32}, {-1 << 32}, {31}, {32}, {64}, upTo(n + 1), repeated(int(n)+1, 0), upTo(33), upTo(100)}
	if n > 1 {
		lists = append(lists, []int64{1, 0}, reversed(n), append(upTo(n), n-1), append([]int64{0}, upTo(n)...))
	}
	return lists
}

func TestClosureErrors(t *testing.T) {
	for _, a := range fewSquares() {
		for _, set := range notSetsOf(int64(len(a))) {
			closure, code := impl.ClosureIn(a, set)
			failed(t, fmt.Sprint("closure of ", set, " in ", a), code, impl.ErrRange, closure)
		}
	}
}

// slowIsSubsquare counts the symbols, for sets of rows and columns.
func slowIsSubsquare(a [][]int64, rows, columns []int64) bool {
	symbols := map[int64]bool{}
	for _, x := range rows {
		for _, y := range columns {
			symbols[a[x][y]] = true
		}
	}
	return len(rows) > 0 && len(rows) == len(columns) && len(symbols) == len(rows)
}

func TestSubsquares(t *testing.T) {
	four := slowSquares(4)
	for _, a := range slices.Concat(slowSquares(1), slowSquares(2), slowSquares(3), four[:20], four[300:320], [][][]int64{looseSquare(), slowCyclic(5), slowCyclic(6), turned(6), dihedral(3), fanoSquare()}) {
		sets := subsetsOf(int64(len(a)))
		for _, rows := range sets {
			for _, columns := range sets {
				if got := impl.IsSubsquare(a, rows, columns); got != slowIsSubsquare(a, rows, columns) {
					t.Errorf("whether the rows %v and the columns %v are a part of %v: got %v", rows, columns, a, got)
				}
			}
		}
	}
	ten := slowCyclic(10)
	for _, c := range []struct {
		rows, columns []int64
		want          bool
	}{
		{upTo(10), upTo(10), true}, {[]int64{9}, []int64{9}, true}, {[]int64{0, 5}, []int64{4, 9}, true}, {[]int64{0, 5}, []int64{4, 8}, false}, {[]int64{0, 2, 4, 6, 8}, []int64{1, 3, 5, 7, 9}, true},
		{[]int64{0, 2, 4, 6, 8}, []int64{1, 3, 5, 7, 8}, false}, {upTo(9), upTo(9), false}, {upTo(10), upTo(9), false}, {upTo(9), upTo(10), false}, {nil, nil, false}, {nil, []int64{0}, false}, {[]int64{0}, nil, false},
	} {
		same(t, fmt.Sprint("whether the rows ", c.rows, " and the columns ", c.columns, " are a part"), impl.IsSubsquare(ten, c.rows, c.columns), c.want)
	}
}

func TestNoSubsquares(t *testing.T) {
	for _, a := range fewSquares() {
		n := int64(len(a))
		for _, bad := range notSetsOf(n) {
			for _, set := range [][]int64{nil, {0}, {n - 1}, upTo(n), bad} {
				same(t, fmt.Sprint("whether ", bad, " and ", set, " are a part"), []bool{impl.IsSubsquare(a, bad, set), impl.IsSubsquare(a, set, bad)}, []bool{false, false})
			}
		}
	}
}

// slowIntercalates returns r, s, c, d of all intercalates.
func slowIntercalates(a [][]int64) [][]int64 {
	var list [][]int64
	for r := range a {
		for s := r + 1; s < len(a); s++ {
			for c := range a {
				d := slices.Index(a[s], a[r][c])
				if c < d && a[r][d] == a[s][c] {
					list = append(list, []int64{int64(r), int64(s), int64(c), int64(d)})
				}
			}
		}
	}
	return list
}

func TestIntercalates(t *testing.T) {
	for _, a := range manySquares() {
		list, code := impl.IntercalatesOf(a)
		want := slowIntercalates(a)
		slices.SortFunc(want, slices.Compare[[]int64])
		same(t, fmt.Sprint("intercalates of ", a), []any{list, code}, []any{want, impl.OK})
		for _, which := range list {
			same(t, fmt.Sprint("whether ", which, " is a subsquare of ", a), impl.IsSubsquare(a, which[:2], which[2:]), true)
		}
	}
	three, two := slowCyclic(3), slowCyclic(2)
	// An element of order 2 of a group of order n gives n times n / 4 intercalates.
	for _, c := range []struct {
		a     [][]int64
		count int
	}{{slowCyclic(1), 0}, {two, 1}, {three, 0}, {slowCyclic(4), 4}, {slowProduct(two, two), 12}, {slowCyclic(10), 25}, {dihedral(5), 125}, {slowProduct(two, slowProduct(two, two)), 112}, {quaternions(), 16}, {slowCyclic(9), 0}} {
		list, code := impl.IntercalatesOf(c.a)
		same(t, fmt.Sprint("number of intercalates of ", c.a), []any{len(list), code}, []any{c.count, impl.OK})
	}
	kinds, _ := impl.IdentitiesOf(slowCyclic(4))
	list, _ := impl.IntercalatesOf(slowCyclic(4))
	same(t, "example", []any{len(list), kinds}, []any{4, []int64{impl.QgCommutative, impl.QgLeftUnit, impl.QgRightUnit, impl.QgAssociative}})
}

// slowSwitch exchanges the symbols of an intercalate.
func slowSwitch(a [][]int64, which []int64) [][]int64 {
	r, s, c, d := which[0], which[1], which[2], which[3]
	b := slowFill(int64(len(a)), func(x, y int64) int64 { return a[x][y] })
	b[r][c], b[s][c], b[r][d], b[s][d] = a[s][c], a[r][c], a[s][d], a[r][d]
	return b
}

func TestSwitches(t *testing.T) {
	for _, a := range manySquares() {
		for _, which := range slowIntercalates(a) {
			b, code := impl.SwitchIntercalate(a, which)
			what := fmt.Sprint("switch of ", which, " in ", a)
			same(t, what, []any{b, code}, []any{slowSwitch(a, which), impl.OK})
			same(t, what+", validity", []bool{slowValid(b), impl.ValidSquare(b), impl.SameSquare(a, b)}, []bool{true, true, false})
			c, code := impl.SwitchIntercalate(b, which)
			same(t, what+", undone", []any{c, code}, []any{a, impl.OK})
		}
	}
	b, code := impl.SwitchIntercalate(slowCyclic(4), []int64{0, 2, 0, 2})
	same(t, "order 4", []any{impl.SquareText(b), code}, []any{"2103/1230/0321/3012", impl.OK})
	b, code = impl.SwitchIntercalate(slowCyclic(10), []int64{0, 5, 0, 5})
	same(t, "order 10", []any{b, code}, []any{turned(10), impl.OK})
}

func TestSwitchErrors(t *testing.T) {
	for _, a := range fewSquares() {
		n := int64(len(a))
		wrong := append(notSetsOf(n), nil, []int64{0}, []int64{0, 1}, []int64{0, 1, 0}, []int64{0, 1, 0, 1, 0}, []int64{0, 1, 0, 1, 2, 3}, []int64{0, n, 0, 1}, []int64{0, 1, 0, n}, []int64{-1, 0, 0, 1}, []int64{0, 1, -1, 0},
			[]int64{0, 0, 0, 0}, []int64{0, 0, 0, 1}, []int64{0, 1, 0, 0}, []int64{math.MinInt64, 0, 0, math.MaxInt64}, []int64{0, math.MaxInt64, 0, 1}, []int64{0, 1 << 32, 0, 1 << 32}, []int64{0, 32, 0, 32}, []int64{256, 257, 256, 257})
		for _, which := range slowIntercalates(a) {
			r, s, c, d := which[0], which[1], which[2], which[3]
			wrong = append(wrong, []int64{s, r, c, d}, []int64{r, s, d, c}, []int64{s, r, d, c}, []int64{r, s, c}, []int64{r, s, c, d, d}, []int64{r, c, s, d, 0})
		}
		for _, which := range wrong {
			b, code := impl.SwitchIntercalate(a, which)
			failed(t, fmt.Sprint("switch of ", which, " in ", a), code, impl.ErrState, b)
		}
	}
}

// TestAllSwitches tries all lists of four numbers.
func TestAllSwitches(t *testing.T) {
	for _, a := range [][][]int64{slowCyclic(1), slowCyclic(2), slowCyclic(3), slowCyclic(4), slowProduct(slowCyclic(2), slowCyclic(2)), looseSquare(), turned(6)} {
		n := int64(len(a))
		right := slowIntercalates(a)
		for number := range power(n+2, 4) {
			which := slowDigits(number, n+2, 4)
			for i := range which {
				which[i]--
			}
			b, code := impl.SwitchIntercalate(a, which)
			if slices.ContainsFunc(right, func(list []int64) bool { return slices.Equal(list, which) }) {
				same(t, fmt.Sprint("switch of ", which, " in ", a), []any{b, code}, []any{slowSwitch(a, which), impl.OK})
			} else if code != impl.ErrState || len(b) > 0 {
				t.Errorf("switch of %v in %v: got %v and the code %d", which, a, b, code)
			}
		}
	}
}

func TestRowMaps(t *testing.T) {
	for _, a := range slices.Concat(fewSquares(), brokenSquares(), slowSquares(4)[100:150]) {
		n := int64(len(a))
		for from := range n {
			for to := range n {
				p, code := impl.RowMap(a, from, to)
				what := fmt.Sprint("from the row ", from, " to the row ", to, " of ", a)
				same(t, what, []any{impl.ValidPermutation(p), code}, []any{true, impl.OK})
				same(t, what, slowCompose(a[from], p), a[to])
				back, _ := impl.RowMap(a, to, from)
				same(t, what+" and back", slowCompose(p, back), upTo(n))
			}
			p, code := impl.RowMap(a, from, from)
			same(t, fmt.Sprint("from the row ", from, " of ", a, " to itself"), []any{p, code}, []any{upTo(n), impl.OK})
		}
	}
	p, code := impl.RowMap(slowCyclic(4), 1, 3)
	same(t, "order 4", []any{p, code}, []any{[]int64{2, 3, 0, 1}, impl.OK})
	q, code := impl.RowMap([][]int64{{2, 0, 1}, {0, 1, 2}, {1, 2, 0}}, 0, 1)
	same(t, "order 3", []any{q, code}, []any{[]int64{1, 2, 0}, impl.OK})
}

func TestRowMapErrors(t *testing.T) {
	for _, a := range fewSquares() {
		n := int64(len(a))
		for _, wrong := range []int64{-1, n, n + 1, 10, 11, 256, 1 << 32, -1 << 32, math.MinInt64, math.MaxInt64} {
			for _, row := range []int64{0, n - 1, wrong} {
				p, one := impl.RowMap(a, wrong, row)
				q, two := impl.RowMap(a, row, wrong)
				failed(t, fmt.Sprint("from the row ", wrong, " of ", a), one, impl.ErrRange, p)
				failed(t, fmt.Sprint("to the row ", wrong, " of ", a), two, impl.ErrRange, q)
			}
		}
	}
}

// slowParity returns how many lists are odd permutations, modulo 2.
func slowParity(lists [][]int64) int64 {
	odd := int64(0)
	for _, p := range lists {
		if slowSign(p) < 0 {
			odd = 1 - odd
		}
	}
	return odd
}

func TestParities(t *testing.T) {
	occur := map[string]bool{}
	for _, a := range manySquares() {
		n := int64(len(a))
		want := []int64{slowParity(a), slowParity(slowFill(n, func(x, y int64) int64 { return a[y][x] })), slowParity(slowSymbolColumns(a))}
		parities, code := impl.ParitiesOf(a)
		same(t, fmt.Sprint("parities of ", a), []any{parities, code}, []any{want, impl.OK})
		// The sum of the three depends on the order only.
		same(t, fmt.Sprint("sum of the parities of ", a), (want[0]+want[1]+want[2])%2, n*(n-1)/2%2)
		occur[fmt.Sprint(parities)] = true
	}
	same(t, "parities that occur", len(occur), 8)
	for _, c := range []struct {
		a    [][]int64
		want []int64
	}{{slowCyclic(1), []int64{0, 0, 0}}, {slowCyclic(2), []int64{1, 1, 1}}, {slowCyclic(3), []int64{0, 0, 1}}, {slowCyclic(4), []int64{0, 0, 0}}} {
		parities, code := impl.ParitiesOf(c.a)
		same(t, fmt.Sprint("parities of ", c.a), []any{parities, code}, []any{c.want, impl.OK})
	}
}

func TestQuasigroupsWithoutSquares(t *testing.T) {
	for _, bad := range notSquares() {
		e, ok := impl.UnitOf(bad)
		same(t, "unit", []any{e, ok}, []any{0, false})
		isGroup(t, "no square", bad, false)
		kinds, one := impl.IdentitiesOf(bad)
		failed(t, "identities", one, impl.ErrInvalid, kinds)
		list, two := impl.IntercalatesOf(bad)
		failed(t, "intercalates", two, impl.ErrInvalid, list)
		parities, three := impl.ParitiesOf(bad)
		failed(t, "parities", three, impl.ErrInvalid, parities)
		for _, set := range [][]int64{nil, {0}, {-1}, {0, 1}, {1, 0}, {0, 1, 0, 1}, {0, 1, 2, 3}, upTo(33)} {
			same(t, "subsquare", impl.IsSubsquare(bad, set, set), false)
			closure, four := impl.ClosureIn(bad, set)
			failed(t, "closure", four, impl.ErrInvalid, closure)
			b, five := impl.SwitchIntercalate(bad, set)
			failed(t, "switch", five, impl.ErrInvalid, b)
		}
		for _, row := range []int64{math.MinInt64, -1, 0, 1, 11, math.MaxInt64} {
			p, six := impl.RowMap(bad, row, 0)
			failed(t, "map of rows", six, impl.ErrInvalid, p)
			p, seven := impl.RowMap(bad, 0, row)
			failed(t, "map of rows", seven, impl.ErrInvalid, p)
		}
	}
}
