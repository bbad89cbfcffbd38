package tests

import (
	"fmt"
	"math"
	"math/bits"
	"slices"
	"testing"

	"loop.example/g00920/impl"
)

// rightPoints are the numbers of points of all systems that a design can be.
func rightPoints() []int64 { return []int64{3, 7, 9, 13, 15, 19, 21, 25, 27} }

// middleOf returns the symbol for two symbols that are added modulo n: half of the sum for an odd n, and else the
// number with the index of the sum in the list 0, n/2, 1, n/2 + 1, and so on.
func middleOf(x, y, n int64) int64 {
	sum := (x + y) % n
	if n%2 == 1 {
		for z := range n {
			if 2*z%n == sum {
				return z
			}
		}
	}
	var list []int64
	for z := range n / 2 {
		list = append(list, z, z+n/2)
	}
	return list[sum]
}

// slowTriples returns the system that the document describes for a number of points.
func slowTriples(v int64) impl.Design {
	n := v / 3
	point := func(x, i int64) int64 { return x + n*(i%3) }
	var blocks [][]int64
	add := func(points ...int64) {
		slices.Sort(points)
		blocks = append(blocks, points)
	}
	upright := n
	if v%3 == 1 {
		upright = n / 2
	}
	for x := range upright {
		add(point(x, 0), point(x, 1), point(x, 2))
		for i := int64(0); v%3 == 1 && i < 3; i++ {
			add(v-1, point(x+n/2, i), point(x, i+1))
		}
	}
	for y := range n {
		for x := range y {
			for i := range int64(3) {
				add(point(x, i), point(y, i), point(middleOf(x, y, n), i+1))
			}
		}
	}
	return inOrder(v, blocks)
}

// triplesWith returns the system in which any two points have a third one as given.
func triplesWith(v int64, third func(x, y int64) int64) impl.Design {
	var blocks [][]int64
	for x := range v {
		for y := x + 1; y < v; y++ {
			if z := third(x, y); z > y {
				blocks = append(blocks, []int64{x, y, z})
			}
		}
	}
	return inOrder(v, blocks)
}

// binarySpace is the system of the lines of the projective space over two elements.
func binarySpace(v int64) impl.Design {
	return triplesWith(v, func(x, y int64) int64 { return ((x + 1) ^ (y + 1)) - 1 })
}

// ternarySpace is the system of the lines of the affine space over three elements with a number of coordinates.
func ternarySpace(coordinates int64) impl.Design {
	return triplesWith(power(3, coordinates), func(x, y int64) int64 {
		var digits []int64
		other := slowDigits(y, 3, coordinates)
		for i, digit := range slowDigits(x, 3, coordinates) {
			digits = append(digits, (6-digit-other[i])%3)
		}
		return slowNumber(digits, 3)
	})
}

// cyclicSystems are systems in which 1 can be added to all points.
func cyclicSystems() []impl.Design {
	return []impl.Design{
		fano(), developed(7, []int64{1, 2, 4}), developed(13, []int64{0, 1, 4}, []int64{0, 2, 7}), developed(19, []int64{0, 1, 6}, []int64{0, 2, 10}, []int64{0, 3, 7}),
		developed(25, []int64{0, 1, 3}, []int64{0, 4, 11}, []int64{0, 5, 13}, []int64{0, 6, 15}),
	}
}

// ownSystems are systems of all numbers of points.
func ownSystems() []impl.Design {
	list := slices.Concat(cyclicSystems(), []impl.Design{slowPlane(3), binarySpace(3), binarySpace(7), binarySpace(15), ternarySpace(1), ternarySpace(2), ternarySpace(3)})
	for _, v := range rightPoints() {
		list = append(list, slowTriples(v))
	}
	return list
}

// renamed returns the system with other names of its points.
func renamed(d impl.Design, p []int64) impl.Design { return inOrder(d.Points, relabeled(d.Blocks, p)) }

// someSystems are systems with several names of their points.
func someSystems() []impl.Design {
	var list []impl.Design
	for i, d := range ownSystems() {
		list = append(list, d, renamed(d, mixed(d.Points, int64(i))), renamed(d, mixed(d.Points, int64(i+50))))
	}
	return list
}

// allSystems returns all systems with seven points, and many with nine.
func allSystems() []impl.Design {
	seen := map[string]bool{}
	var list []impl.Design
	add := func(d impl.Design) {
		if text := fmt.Sprint(d); !seen[text] {
			seen[text] = true
			list = append(list, d)
		}
	}
	for _, p := range slowPermutations(7) {
		add(renamed(fano(), p))
	}
	for seed := range int64(60) {
		add(renamed(slowPlane(3), mixed(9, seed)))
	}
	return list
}

func slowIsSystem(d impl.Design) bool {
	if !slowIsDesign(d) || d.Points < 3 {
		return false
	}
	for _, block := range d.Blocks {
		if len(block) != 3 {
			return false
		}
	}
	pairs := slowPairCounts(d)
	return slices.Min(pairs) == 1 && slices.Max(pairs) == 1
}

// withBlock returns a design with another block at an index.
func withBlock(d impl.Design, i int, block ...int64) impl.Design {
	blocks := slices.Clone(d.Blocks)
	blocks[i] = block
	return inOrder(d.Points, blocks)
}

// notSystems are designs, which need not be valid, that are no triple systems.
func notSystems() []impl.Design {
	list := append(notDesigns(), designWith(1), designWith(2), designWith(3), designWith(7), designWith(32), designWith(1, []int64{0}), designWith(1, []int64{0}, []int64{0}), designWith(2, []int64{0, 1}), designWith(2, []int64{0}, []int64{0, 1}),
		designWith(3, []int64{0, 1, 2}, []int64{0, 1, 2}), designWith(3, []int64{0, 1}, []int64{0, 1, 2}), designWith(3, []int64{0}, []int64{0, 1, 2}), designWith(3, []int64{0, 1, 2}, []int64{2}), designWith(4, []int64{0, 1, 2}), designWith(4, []int64{1, 2, 3}), designWith(6, []int64{0, 1, 2}, []int64{3, 4, 5}),
		allBlocks(3, 2), allBlocks(4, 2), allBlocks(4, 3), allBlocks(5, 3), allBlocks(6, 3), allBlocks(7, 3), allBlocks(10, 3), allBlocks(3, 1), designWith(4, upTo(4)), designWith(32, upTo(32)), slowPlane(2), slowPlane(5), crosses(), developed(13, []int64{0, 1, 3, 9}), developed(21, []int64{0, 1, 4, 14, 16}),
		withBlock(fano(), 0, fano().Blocks[1]...), withBlock(fano(), 6, 0, 1, 2), withBlock(fano(), 0, 0, 1), withBlock(fano(), 0, 0, 1, 2, 3), withBlock(slowTriples(13), 20, 0, 11, 12), scattered(9, 12), scattered(27, 117))
	for _, v := range rightPoints() {
		d := slowTriples(v)
		list = append(list, times(d, 2), times(d, 18), designWith(v+1, d.Blocks...), designWith(v-1, d.Blocks...), designWith(v, d.Blocks[1:]...), designWith(v, d.Blocks[:len(d.Blocks)-1]...), designWith(v, append(slices.Clone(d.Blocks), d.Blocks[0])...),
			inOrder(v, append(slices.Clone(d.Blocks), d.Blocks[0])), inOrder(v, append(slices.Clone(d.Blocks), upTo(v))), inOrder(v, append(slices.Clone(d.Blocks), []int64{v - 1})))
	}
	return list
}

func TestIsTripleSystem(t *testing.T) {
	for _, d := range slices.Concat(someSystems(), allSystems()) {
		same(t, fmt.Sprintf("%.200v is a system", fmt.Sprint(d)), []bool{slowIsSystem(d), impl.IsTripleSystem(d)}, []bool{true, true})
	}
	for _, d := range notSystems() {
		same(t, fmt.Sprintf("%.200v is a system", fmt.Sprint(d)), []bool{slowIsSystem(d), impl.IsTripleSystem(d)}, []bool{false, false})
	}
	for _, d := range someDesigns() {
		same(t, fmt.Sprintf("%.200v is a system", fmt.Sprint(d)), impl.IsTripleSystem(d), slowIsSystem(d))
	}
	for _, d := range ownSystems() {
		for i := range d.Blocks {
			other := withBlock(d, i, d.Blocks[(i+1)%len(d.Blocks)]...)
			same(t, "a system with another block", impl.IsTripleSystem(other), len(d.Blocks) == 1)
			backward := slices.Clone(d.Blocks)
			backward[0], backward[i] = backward[i], backward[0]
			same(t, "a system with exchanged blocks", impl.IsTripleSystem(designWith(d.Points, backward...)), i == 0)
		}
	}
}

func TestNumbersOfPoints(t *testing.T) {
	same(t, "numbers of points", impl.TripleOrders(), rightPoints())
	same(t, "systems with seven points", len(allSystems()) >= 30 && allSystems()[29].Points == 7 && allSystems()[30].Points == 9, true)
	for _, v := range rightPoints() {
		d, code := impl.MakeTriples(v)
		same(t, fmt.Sprint("system with points ", v), []any{d, code}, []any{slowTriples(v), impl.OK})
		inBalance(t, "the system", d, code, impl.Parameters{V: v, B: v * (v - 1) / 6, R: (v - 1) / 2, K: 3, Lambda: 1})
		same(t, fmt.Sprint("system with points ", v, " is one"), []bool{impl.IsTripleSystem(d), slowIsSystem(d)}, []bool{true, true})
	}
	wrong := []int64{math.MinInt64, math.MinInt64 + 1, math.MinInt64 + 3, math.MinInt64 + 9, -1 << 32, 1 << 32, 1<<32 + 3, 1<<32 + 7, 1<<32 + 9, 1<<33 + 27, 1<<63 - 4, math.MaxInt64 - 1, math.MaxInt64}
	for v := int64(-100); v <= 1000; v++ {
		if !slices.Contains(rightPoints(), v) {
			wrong = append(wrong, v)
		}
	}
	for _, v := range wrong {
		d, code := impl.MakeTriples(v)
		failed(t, fmt.Sprint("system with points ", v), code, impl.ErrRange, d)
	}
}

func TestExamplesOfSystems(t *testing.T) {
	for _, want := range []impl.Design{
		designWith(3, []int64{0, 1, 2}),
		designWith(7, []int64{0, 1, 3}, []int64{0, 2, 4}, []int64{0, 5, 6}, []int64{1, 2, 6}, []int64{1, 4, 5}, []int64{2, 3, 5}, []int64{3, 4, 6}),
		designWith(9, []int64{0, 1, 5}, []int64{0, 2, 4}, []int64{0, 3, 6}, []int64{0, 7, 8}, []int64{1, 2, 3}, []int64{1, 4, 7}, []int64{1, 6, 8}, []int64{2, 5, 8}, []int64{2, 6, 7}, []int64{3, 4, 8}, []int64{3, 5, 7}, []int64{4, 5, 6}),
		designWith(13, []int64{0, 1, 6}, []int64{0, 2, 5}, []int64{0, 3, 7}, []int64{0, 4, 8}, []int64{0, 9, 11}, []int64{0, 10, 12}, []int64{1, 2, 7}, []int64{1, 3, 4}, []int64{1, 5, 9}, []int64{1, 8, 10}, []int64{1, 11, 12}, []int64{2, 3, 6}, []int64{2, 4, 12}, []int64{2, 8, 9}, []int64{2, 10, 11}, []int64{3, 5, 12}, []int64{3, 8, 11}, []int64{3, 9, 10}, []int64{4, 5, 10}, []int64{4, 6, 9}, []int64{4, 7, 11}, []int64{5, 6, 11}, []int64{5, 7, 8}, []int64{6, 7, 10}, []int64{6, 8, 12}, []int64{7, 9, 12}),
	} {
		d, code := impl.MakeTriples(want.Points)
		same(t, fmt.Sprint("blocks of points ", want.Points), []any{d, code}, []any{want, impl.OK})
	}
}

func slowThird(d impl.Design, a, b int64) int64 {
	for _, block := range d.Blocks {
		if slices.Contains(block, a) && slices.Contains(block, b) {
			return pointsThat(block, []int64{a, b}, false)[0]
		}
	}
	return -1
}

// notPointsOf returns numbers that are no points of a design.
func notPointsOf(d impl.Design) []int64 {
	return []int64{math.MinInt64, -1 << 32, -d.Points, -2, -1, d.Points, d.Points + 1, 32, 64, 1 << 32, 1<<32 + 1, math.MaxInt64}
}

// pairFunctions are the functions of a system and two points, with all their results but the code.
func pairFunctions() map[string]func(d impl.Design, a, b int64) (any, int64) {
	return map[string]func(d impl.Design, a, b int64) (any, int64){
		"third point": func(d impl.Design, a, b int64) (any, int64) {
			point, code := impl.ThirdPoint(d, a, b)
			return point, code
		},
		"cycles": func(d impl.Design, a, b int64) (any, int64) {
			lengths, code := impl.CyclesOfPair(d, a, b)
			return lengths, code
		},
	}
}

func TestPairsOfPoints(t *testing.T) {
	for _, d := range ownSystems() {
		for name, f := range pairFunctions() {
			for a := range d.Points {
				value, code := f(d, a, a)
				failed(t, fmt.Sprint(name, " of equal points ", a), code, impl.ErrRange, value)
				for _, no := range notPointsOf(d) {
					value, code = f(d, a, no)
					failed(t, fmt.Sprint(name, " of ", a, " and ", no), code, impl.ErrRange, value)
					value, code = f(d, no, a)
					failed(t, fmt.Sprint(name, " of ", no, " and ", a), code, impl.ErrRange, value)
				}
			}
			for _, no := range notPointsOf(d) {
				for _, other := range notPointsOf(d) {
					value, code := f(d, no, other)
					failed(t, fmt.Sprint(name, " of ", no, " and ", other), code, impl.ErrRange, value)
				}
			}
		}
	}
	for _, bad := range notSystems() {
		for name, f := range pairFunctions() {
			for _, points := range [][2]int64{{0, 1}, {1, 0}, {0, 0}, {2, 1}, {-1, 0}, {0, -1}, {0, 3}, {6, 7}, {0, 1 << 32}, {math.MinInt64, math.MaxInt64}} {
				value, code := f(bad, points[0], points[1])
				failed(t, fmt.Sprintf("%s of %.200v", name, fmt.Sprint(bad)), code, impl.ErrInvalid, value)
			}
		}
	}
}

func TestThirdPoints(t *testing.T) {
	for _, d := range slices.Concat(someSystems(), allSystems()) {
		for a := range d.Points {
			for b := range d.Points {
				if a == b {
					continue
				}
				third, code := impl.ThirdPoint(d, a, b)
				same(t, fmt.Sprint("third point of ", a, " and ", b, " in ", d.Blocks), []int64{third, code}, []int64{slowThird(d, a, b), impl.OK})
			}
		}
	}
}

// slowLoop returns the square with a unit of a system.
func slowLoop(d impl.Design) [][]int64 {
	n := d.Points
	return slowFill(n+1, func(x, y int64) int64 {
		switch {
		case x == y:
			return n
		case x == n || y == n:
			return min(x, y)
		}
		return slowThird(d, x, y)
	})
}

func TestTripleSquares(t *testing.T) {
	for _, d := range slices.Concat(someSystems(), allSystems()) {
		what := fmt.Sprintf("%.200v", fmt.Sprint(d))
		square, one := impl.TripleSquare(d)
		loop, two := impl.TripleLoop(d)
		if d.Points > 9 {
			failed(t, "square of "+what, one, impl.ErrFull, square)
			failed(t, "loop of "+what, two, impl.ErrFull, loop)
			continue
		}
		same(t, "square of "+what, []any{square, one}, []any{tripleSquare(d.Points, d.Blocks), impl.OK})
		same(t, "loop of "+what, []any{loop, two}, []any{slowLoop(d), impl.OK})
		same(t, "validity of squares", []bool{impl.ValidSquare(square), impl.ValidSquare(loop)}, []bool{true, true})
		back, code := impl.TriplesOfSquare(square)
		same(t, "a system is restored from its square", []any{back, code}, []any{d, impl.OK})
		back, code = impl.TriplesOfSquare(loop)
		failed(t, "system of the loop of "+what, code, impl.ErrState, back)
		unit, ok := impl.UnitOf(loop)
		same(t, "unit of the loop of "+what, []any{unit, ok}, []any{d.Points, true})
	}
	square, code := impl.TripleSquare(slowTriples(3))
	same(t, "square of the least system", []any{square, code}, []any{[][]int64{{0, 2, 1}, {2, 1, 0}, {1, 0, 2}}, impl.OK})
	loop, code := impl.TripleLoop(slowTriples(3))
	same(t, "loop of the least system", []any{loop, code}, []any{[][]int64{{3, 2, 1, 0}, {2, 3, 0, 1}, {1, 0, 3, 2}, {0, 1, 2, 3}}, impl.OK})
	loop, code = impl.TripleLoop(fano())
	same(t, "loop of seven points", []any{loop, code}, []any{fanoLoop(), impl.OK})
}

func TestIdentitiesOfTripleSquares(t *testing.T) {
	for _, d := range slices.Concat(someSystems(), allSystems()) {
		if d.Points > 9 {
			continue
		}
		square, _ := impl.TripleSquare(d)
		kinds, code := impl.IdentitiesOf(square)
		same(t, "identities of a square", []any{kinds, code}, []any{[]int64{impl.QgIdempotent, impl.QgCommutative, impl.QgSemi, impl.QgTotally}, impl.OK})
		loop, _ := impl.TripleLoop(d)
		want := []int64{impl.QgUnipotent, impl.QgCommutative, impl.QgLeftUnit, impl.QgRightUnit, impl.QgAssociative, impl.QgSemi, impl.QgTotally}
		if d.Points == 9 {
			want = slices.Delete(want, 4, 5)
		}
		kinds, code = impl.IdentitiesOf(loop)
		same(t, "identities of a loop", []any{kinds, code}, []any{want, impl.OK})
	}
}

func TestTriplesOfSquares(t *testing.T) {
	found := 0
	squares := slices.Concat(manySquares(), slowSquares(3))
	for _, d := range allSystems() {
		squares = append(squares, tripleSquare(d.Points, d.Blocks), slowLoop(d))
	}
	for _, a := range squares {
		d, code := impl.TriplesOfSquare(a)
		kinds := slowIdentities(a)
		if len(a) < 3 || !slices.Contains(kinds, impl.QgIdempotent) || !slices.Contains(kinds, impl.QgTotally) {
			failed(t, fmt.Sprint("system of ", a), code, impl.ErrState, d)
			continue
		}
		found++
		same(t, fmt.Sprint("system of ", a), []any{d, code}, []any{triplesWith(int64(len(a)), func(x, y int64) int64 { return a[x][y] }), impl.OK})
		back, code := impl.TripleSquare(d)
		same(t, "a square is restored from its system", []any{back, code}, []any{a, impl.OK})
	}
	if found < len(allSystems()) {
		t.Errorf("only %d squares have systems", found)
	}
	for _, a := range notSquares() {
		d, code := impl.TriplesOfSquare(a)
		failed(t, fmt.Sprintf("system of %.200v", fmt.Sprint(a)), code, impl.ErrInvalid, d)
	}
}

func TestSquaresWithoutSystems(t *testing.T) {
	linear := func(n, p, q, r int64) [][]int64 {
		return slowFill(n, func(x, y int64) int64 { return (p*x + q*y + r) % n })
	}
	nine := tripleSquare(9, slowPlane(3).Blocks)
	for _, a := range [][][]int64{
		{{0}}, {{0, 1}, {1, 0}}, {{1, 0}, {0, 1}}, slowCyclic(3), linear(3, 2, 2, 1), linear(3, 2, 2, 2), slowCyclic(9), slowCyclic(10),
		linear(5, 3, 3, 0), linear(7, 4, 4, 0), linear(9, 5, 5, 0), // idempotent and commutative
		linear(7, 5, 3, 0), linear(7, 3, 5, 0), // idempotent and semisymmetric
		linear(7, 6, 6, 0), linear(4, 3, 3, 0), linear(10, 9, 9, 3), // symmetric
		slowIsotope(nine, upTo(9), upTo(9), mixed(9, 3)), slowIsotope(nine, mixed(9, 3), upTo(9), upTo(9)), slowIsotope(fanoSquare(), mixed(7, 1), mixed(7, 1), upTo(7)),
	} {
		d, code := impl.TriplesOfSquare(a)
		failed(t, fmt.Sprint("system of ", a), code, impl.ErrState, d)
	}
	cyclic := linear(3, 2, 2, 0)
	d, code := impl.TriplesOfSquare(cyclic)
	same(t, "system of the order 3", []any{d, code}, []any{designWith(3, upTo(3)), impl.OK})
	for x := range 9 {
		for symbol := int64(-1); symbol <= 9; symbol++ {
			if symbol != nine[x][(x+2)%9] {
				d, code := impl.TriplesOfSquare(changed(nine, x, (x+2)%9, symbol))
				failed(t, "system of a square with another symbol", code, impl.ErrInvalid, d)
			}
		}
	}
}

// slowCyclesOf returns the sizes of the parts of the points without a, b and their third point in which each point is
// connected with its third points for a and b.
func slowCyclesOf(d impl.Design, a, b int64) []int64 {
	part := upTo(d.Points)
	for range d.Points {
		for x := range d.Points {
			for _, y := range []int64{a, b} {
				if x == y {
					continue
				}
				z := slowThird(d, x, y)
				part[x], part[z] = min(part[x], part[z]), min(part[x], part[z])
			}
		}
	}
	block := []int64{a, b, slowThird(d, a, b)}
	sizes := make([]int64, d.Points)
	for _, x := range pointsThat(upTo(d.Points), block, false) {
		sizes[part[x]]++
	}
	sizes = slices.DeleteFunc(sizes, func(size int64) bool { return size == 0 })
	slices.Sort(sizes)
	return sizes
}

func TestCyclesOfPairs(t *testing.T) {
	for i, d := range someSystems() {
		for a := range d.Points {
			for b := range d.Points {
				if a == b || d.Points > 15 && (a*d.Points+b)%11 != int64(i)%11 {
					continue
				}
				lengths, code := impl.CyclesOfPair(d, a, b)
				what := fmt.Sprint("cycles of ", a, " and ", b, " in ", d.Blocks)
				same(t, what, []any{lengths, code}, []any{slowCyclesOf(d, a, b), impl.OK})
				other, code := impl.CyclesOfPair(d, b, a)
				same(t, what+" in the other order", []any{other, code}, []any{lengths, impl.OK})
			}
		}
	}
}

func TestCyclesInTheory(t *testing.T) {
	for _, c := range []struct {
		d    impl.Design
		want []int64
	}{
		{slowTriples(3), nil}, {slowTriples(7), []int64{4}}, {fano(), []int64{4}}, {slowTriples(9), []int64{6}}, {slowPlane(3), []int64{6}},
		{binarySpace(15), []int64{4, 4, 4}}, {ternarySpace(3), []int64{6, 6, 6, 6}},
	} {
		for a := range c.d.Points {
			for b := range c.d.Points {
				if a == b {
					continue
				}
				lengths, code := impl.CyclesOfPair(c.d, a, b)
				same(t, fmt.Sprint("cycles of ", a, " and ", b), []any{lengths, code}, []any{c.want, impl.OK})
			}
		}
	}
	lengths, code := impl.CyclesOfPair(slowTriples(13), 0, 12)
	same(t, "one cycle", []any{lengths, code}, []any{[]int64{10}, impl.OK})
	for _, d := range someSystems() {
		short := int64(0)
		for _, pair := range subsetsWith(upTo(d.Points), 2) {
			lengths, code := impl.CyclesOfPair(d, pair[0], pair[1])
			sum := int64(0)
			for _, length := range lengths {
				sum += length
				if length == 4 {
					short++
				}
			}
			same(t, "sum of the lengths", []int64{sum, code}, []int64{d.Points - 3, impl.OK})
		}
		list, code := impl.PaschsOf(d)
		// Each cycle of the length 4 is a quadrilateral in which the pair is opposite, which are three pairs of each.
		same(t, "cycles of the length 4", []any{short, code}, []any{3 * len(list), impl.OK})
	}
}

// masksOf returns the blocks as sets of bits.
func masksOf(blocks [][]int64) []uint64 {
	var masks []uint64
	for _, block := range blocks {
		mask := uint64(0)
		for _, x := range block {
			mask |= 1 << x
		}
		masks = append(masks, mask)
	}
	return masks
}

// slowPaschs looks at all sets of four blocks for those with six points, each of them in two blocks.
func slowPaschs(d impl.Design) [][]int64 {
	masks := masksOf(d.Blocks)
	var list [][]int64
	for i, first := range masks {
		for j, second := range masks[:i] {
			for k, third := range masks[:j] {
				for l, fourth := range masks[:k] {
					if bits.OnesCount64(first|second|third|fourth) == 6 && eachTwice(first, second, third, fourth) {
						list = append(list, []int64{int64(l), int64(k), int64(j), int64(i)})
					}
				}
			}
		}
	}
	slices.SortFunc(list, slices.Compare[[]int64])
	return list
}

// eachTwice reports whether each point of some sets is in two of them.
func eachTwice(masks ...uint64) bool {
	var counts [64]int
	for _, mask := range masks {
		for _, x := range bitsSet(mask) {
			counts[x]++
		}
	}
	for _, count := range counts {
		if count != 0 && count != 2 {
			return false
		}
	}
	return true
}

func TestPaschs(t *testing.T) {
	for _, d := range slices.Concat(someSystems(), allSystems()) {
		list, code := impl.PaschsOf(d)
		same(t, fmt.Sprintf("quadrilaterals of %.200v", fmt.Sprint(d)), []any{list, code}, []any{slowPaschs(d), impl.OK})
	}
	for _, c := range []struct {
		d     impl.Design
		count int
	}{
		{slowTriples(3), 0}, {slowTriples(7), 7}, {fano(), 7}, {slowTriples(9), 0}, {slowPlane(3), 0}, {ternarySpace(3), 0}, {binarySpace(15), 105}, {cyclicSystems()[2], 13}, {slowTriples(13), 13},
	} {
		list, code := impl.PaschsOf(c.d)
		same(t, fmt.Sprint("number of quadrilaterals of ", c.d.Points, " points"), []any{len(list), code}, []any{c.count, impl.OK})
	}
	list, code := impl.PaschsOf(fano())
	same(t, "quadrilaterals of seven points", []any{list, code}, []any{[][]int64{{0, 1, 3, 6}, {0, 1, 4, 5}, {0, 2, 3, 5}, {0, 2, 4, 6}, {1, 2, 3, 4}, {1, 2, 5, 6}, {3, 4, 5, 6}}, impl.OK})
}

// slowSwitched returns the designs that result from the exchange of each pair of opposite points of a quadrilateral.
func slowSwitched(d impl.Design, which []int64) []impl.Design {
	four := permuted(d.Blocks, which)
	points := slices.Concat(four...)
	slices.Sort(points)
	var list []impl.Design
	for _, x := range slices.Compact(points) {
		opposite := slices.Clone(points)
		for _, block := range four {
			if slices.Contains(block, x) {
				opposite = pointsThat(opposite, block, false)
			}
		}
		p := upTo(d.Points)
		p[x], p[opposite[0]] = opposite[0], x
		blocks := slices.Clone(d.Blocks)
		for _, i := range which {
			blocks[i] = slowImage(p, blocks[i])
		}
		list = append(list, inOrder(d.Points, blocks))
	}
	return list
}

// indicesIn returns the indices of the blocks of d that are not in other.
func indicesIn(d, other impl.Design) []int64 {
	var list []int64
	for i, block := range d.Blocks {
		if !slices.ContainsFunc(other.Blocks, func(b []int64) bool { return slices.Equal(b, block) }) {
			list = append(list, int64(i))
		}
	}
	return list
}

func checkSwitch(t *testing.T, d impl.Design, which []int64) {
	t.Helper()
	what := fmt.Sprint("switch of ", which, " in ", d.Blocks)
	other, code := impl.SwitchPasch(d, which)
	want := slowSwitched(d, which)
	same(t, "number of points of a quadrilateral", len(want), 6)
	for _, w := range want {
		same(t, what, []any{other, code}, []any{w, impl.OK})
	}
	same(t, what+" is a system", []bool{slowIsSystem(other), impl.IsTripleSystem(other)}, []bool{true, true})
	same(t, what+" changes four blocks", indicesIn(d, other), which)
	back, code := impl.SwitchPasch(other, indicesIn(other, d))
	same(t, what+" twice", []any{back, code}, []any{d, impl.OK})
}

func TestSwitchedQuadrilaterals(t *testing.T) {
	for _, d := range slices.Concat(someSystems(), allSystems()) {
		for i, which := range slowPaschs(d) {
			if d.Points <= 15 || i%5 == 0 {
				checkSwitch(t, d, which)
			}
		}
	}
	// There are two systems with thirteen points, which a switch leads to one another.
	for _, which := range slowPaschs(cyclicSystems()[2]) {
		other, code := impl.SwitchPasch(cyclicSystems()[2], which)
		same(t, "quadrilaterals of the other system", []any{len(slowPaschs(other)), code}, []any{8, impl.OK})
	}
}

// TestChainsOfSwitches switches again and again, so that systems follow that no construction makes.
func TestChainsOfSwitches(t *testing.T) {
	for _, v := range []int64{7, 13, 15, 19, 21, 25} {
		d := slowTriples(v)
		for step := range 40 {
			list, code := impl.PaschsOf(d)
			if len(list) == 0 {
				break
			}
			next, second := impl.SwitchPasch(d, list[7*step%len(list)])
			same(t, fmt.Sprint("switch ", step, " of ", v, " points"), []any{code, second, slowIsSystem(next), impl.IsTripleSystem(next)}, []any{impl.OK, impl.OK, true, true})
			d = next
		}
		list, code := impl.PaschsOf(d)
		same(t, fmt.Sprint("quadrilaterals at the end of ", v, " points"), []any{list, code}, []any{slowPaschs(d), impl.OK})
	}
}

func isSwitchable(t *testing.T, d impl.Design, which []int64, paschs [][]int64) {
	t.Helper()
	want := slices.ContainsFunc(paschs, func(list []int64) bool { return slices.Equal(list, which) })
	other, code := impl.SwitchPasch(d, which)
	if want {
		same(t, fmt.Sprint("switch of ", which), code, impl.OK)
		return
	}
	failed(t, fmt.Sprintf("switch of %.200v", fmt.Sprint(which)), code, impl.ErrState, other)
}

func TestAllListsOfIndices(t *testing.T) {
	for _, d := range []impl.Design{fano(), slowTriples(3)} {
		paschs := slowPaschs(d)
		for number := range power(9, 4) {
			which := slowDigits(number, 9, 4)
			for i := range which {
				which[i]--
			}
			isSwitchable(t, d, which, paschs)
		}
	}
	for _, d := range []impl.Design{slowTriples(13), slowPlane(3)} {
		paschs := slowPaschs(d)
		for _, which := range subsetsWith(upTo(int64(len(d.Blocks))), 4) {
			isSwitchable(t, d, which, paschs)
		}
	}
}

func TestListsThatAreNoQuadrilaterals(t *testing.T) {
	for _, d := range someSystems() {
		count := int64(len(d.Blocks))
		lists := [][]int64{nil, {}, {0}, upTo(3), upTo(5), upTo(count), upTo(1000), {0, 0, 0, 0}, {0, 0, 1, 1}, {count, count + 1, count + 2, count + 3}, {-4, -3, -2, -1}, {math.MinInt64, math.MinInt64 + 1, math.MaxInt64 - 1, math.MaxInt64}, repeated(4, math.MinInt64)}
		for i, good := range slowPaschs(d) {
			if i%20 != 0 {
				continue
			}
			for j, index := range good {
				for _, wrong := range []int64{-1, index - 1, index + 1, count, index + 32, index + 64, index + 128, index + 256, index + 1<<32, -index - 1, good[(j+1)%4], math.MinInt64, math.MaxInt64} {
					list := slices.Clone(good)
					list[j] = wrong
					lists = append(lists, list)
				}
				lists = append(lists, slices.Delete(slices.Clone(good), j, j+1), slices.Insert(slices.Clone(good), j, index))
			}
			for _, p := range slowPermutations(4)[1:] {
				lists = append(lists, permuted(good, p))
			}
			lists = append(lists, append(slices.Clone(good), count-1), append(slices.Clone(good), count), append([]int64{-1}, good...), slices.Repeat(good, 2))
		}
		paschs := slowPaschs(d)
		for _, which := range lists {
			isSwitchable(t, d, which, paschs)
		}
	}
}

// slowTripleProduct returns the product that the document describes.
func slowTripleProduct(a, b impl.Design) impl.Design {
	n := b.Points
	var blocks [][]int64
	add := func(points ...int64) {
		slices.Sort(points)
		blocks = append(blocks, points)
	}
	for _, x := range a.Blocks {
		for _, y := range b.Blocks {
			for i := range b.Points {
				add(n*x[0]+i, n*x[1]+i, n*x[2]+i)
			}
			for i := range a.Points {
				add(n*i+y[0], n*i+y[1], n*i+y[2])
			}
			for _, p := range slowPermutations(3) {
				add(n*x[0]+y[p[0]], n*x[1]+y[p[1]], n*x[2]+y[p[2]])
			}
		}
	}
	d := inOrder(a.Points*n, blocks)
	d.Blocks = slices.CompactFunc(d.Blocks, slices.Equal[[]int64])
	return d
}

func TestTripleProducts(t *testing.T) {
	full := 0
	for _, a := range someSystems() {
		for _, b := range someSystems() {
			product, code := impl.ProductTriples(a, b)
			what := fmt.Sprint("product of ", a.Points, " and ", b.Points, " points")
			if a.Points*b.Points > 32 {
				failed(t, what, code, impl.ErrFull, product)
				full++
				continue
			}
			same(t, what, []any{product, code}, []any{slowTripleProduct(a, b), impl.OK})
			same(t, what+" is a system", []bool{slowIsSystem(product), impl.IsTripleSystem(product)}, []bool{true, true})
			checkPlacesInProduct(t, a, b, product)
		}
	}
	same(t, "some products are too great", full > 0, true)
	for _, p := range [][2]int64{{3, 13}, {13, 3}, {3, 15}, {15, 3}, {7, 7}, {9, 7}, {27, 27}, {3, 27}, {25, 3}} {
		product, code := impl.ProductTriples(slowTriples(p[0]), slowTriples(p[1]))
		failed(t, fmt.Sprint("product of the points ", p), code, impl.ErrFull, product)
	}
}

// checkPlacesInProduct checks that both systems are where they should be, and that squares have the same product.
func checkPlacesInProduct(t *testing.T, a, b, product impl.Design) {
	t.Helper()
	for p := range product.Points {
		q := (p*p + 5) % product.Points
		if p == q {
			continue
		}
		third, code := impl.ThirdPoint(product, p, q)
		x, y := p/b.Points, p%b.Points
		if other := q / b.Points; other != x {
			x = slowThird(a, x, other)
		}
		if other := q % b.Points; other != y {
			y = slowThird(b, y, other)
		}
		same(t, fmt.Sprint("third point of ", p, " and ", q), []int64{third, code}, []int64{b.Points*x + y, impl.OK})
	}
	if product.Points == 9 {
		square, code := impl.TripleSquare(product)
		same(t, "square of a product", []any{square, code}, []any{slowProduct(tripleSquare(3, a.Blocks), tripleSquare(3, b.Blocks)), impl.OK})
	}
}

func TestExampleOfProduct(t *testing.T) {
	three := slowTriples(3)
	product, code := impl.ProductTriples(three, three)
	same(t, "product of the least systems", []any{product, code}, []any{designWith(9, []int64{0, 1, 2}, []int64{0, 3, 6}, []int64{0, 4, 8}, []int64{0, 5, 7}, []int64{1, 3, 8}, []int64{1, 4, 7}, []int64{1, 5, 6},
		[]int64{2, 3, 7}, []int64{2, 4, 6}, []int64{2, 5, 8}, []int64{3, 4, 5}, []int64{6, 7, 8}), impl.OK})
	for _, c := range []struct{ a, b, blocks int64 }{{3, 3, 12}, {3, 7, 70}, {7, 3, 70}, {3, 9, 117}, {9, 3, 117}} {
		product, code := impl.ProductTriples(slowTriples(c.a), slowTriples(c.b))
		inBalance(t, "the product", product, code, impl.Parameters{V: c.a * c.b, B: c.blocks, R: (c.a*c.b - 1) / 2, K: 3, Lambda: 1})
	}
}

func TestFunctionsOfNoSystems(t *testing.T) {
	good := []impl.Design{slowTriples(3), fano(), slowTriples(9), slowTriples(13), slowTriples(27)}
	for _, bad := range notSystems() {
		what := fmt.Sprintf(" of %.200v", fmt.Sprint(bad))
		square, code := impl.TripleSquare(bad)
		failed(t, "square"+what, code, impl.ErrInvalid, square)
		loop, code := impl.TripleLoop(bad)
		failed(t, "loop"+what, code, impl.ErrInvalid, loop)
		paschs, code := impl.PaschsOf(bad)
		failed(t, "quadrilaterals"+what, code, impl.ErrInvalid, paschs)
		for _, which := range [][]int64{nil, upTo(4), {0, 1, 3, 4}, {3, 4, 5, 6}, {0, 0, 1, 1}, {-1, 0, 1, 2}, upTo(1000)} {
			other, code := impl.SwitchPasch(bad, which)
			failed(t, "switch"+what, code, impl.ErrInvalid, other)
		}
		for _, d := range append(good, bad, impl.Design{}) {
			product, code := impl.ProductTriples(d, bad)
			failed(t, "product"+what, code, impl.ErrInvalid, product)
			product, code = impl.ProductTriples(bad, d)
			failed(t, "product"+what, code, impl.ErrInvalid, product)
		}
	}
}
