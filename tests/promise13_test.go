package tests

import (
	"fmt"
	"math"
	"slices"
	"testing"

	"loop.example/g00920/impl"
)

// planeOrders are the orders of all planes that a design can be.
func planeOrders() []int64 { return []int64{2, 3, 4, 5} }

// slowAffine returns the affine plane over a field, line by line.
func slowAffine(q int64) impl.Design {
	f, _ := slowField(q)
	sums, products := slowTables(f)
	var blocks [][]int64
	for c := range q {
		var upright []int64
		for y := range q {
			upright = append(upright, q*c+y)
		}
		blocks = append(blocks, upright)
	}
	for m := range q {
		for b := range q {
			var line []int64
			for x := range q {
				line = append(line, q*x+sums[products[m][x]][b])
			}
			blocks = append(blocks, line)
		}
	}
	return inOrder(q*q, blocks)
}

// slowVectors returns the triples of elements whose first element other than 0 is 1.
func slowVectors(q int64) [][]int64 {
	var list [][]int64
	for number := range q * q * q {
		digits := []int64{number / q / q, number / q % q, number % q}
		first := slices.IndexFunc(digits, func(d int64) bool { return d != 0 })
		if first >= 0 && digits[first] == 1 {
			list = append(list, digits)
		}
	}
	return list
}

// slowProjective returns the projective plane over a field.
func slowProjective(q int64) impl.Design {
	f, _ := slowField(q)
	sums, products := slowTables(f)
	vectors := slowVectors(q)
	var blocks [][]int64
	for _, u := range vectors {
		var line []int64
		for point, v := range vectors {
			sum := int64(0)
			for i := range u {
				sum = sums[sum][products[u[i]][v[i]]]
			}
			if sum == 0 {
				line = append(line, int64(point))
			}
		}
		blocks = append(blocks, line)
	}
	return inOrder(int64(len(vectors)), blocks)
}

// ownProjective are projective planes that are made in different ways.
func ownProjective() []impl.Design {
	list := []impl.Design{fano(), binarySpace(7), slowTriples(7), developed(13, []int64{0, 1, 3, 9}), developed(21, []int64{0, 1, 4, 14, 16}), developed(31, []int64{1, 5, 11, 24, 25, 27})}
	for _, q := range planeOrders() {
		list = append(list, slowProjective(q))
	}
	return list
}

// ownAffine are affine planes that are made in different ways.
func ownAffine() []impl.Design {
	list := []impl.Design{allBlocks(4, 2), slowPlane(2), slowPlane(3), slowPlane(5), slowTriples(9), ternarySpace(2)}
	for _, q := range planeOrders() {
		list = append(list, slowAffine(q))
	}
	for _, d := range ownProjective() {
		for _, index := range []int{0, 3, len(d.Blocks) - 1} {
			points, blocks, _ := slowPart(d, index, false)
			list = append(list, inOrder(points, blocks))
		}
	}
	return list
}

// withOtherNames returns designs, each also with other names of its points.
func withOtherNames(designs []impl.Design) []impl.Design {
	var list []impl.Design
	for i, d := range designs {
		list = append(list, d, renamed(d, reversed(d.Points)))
		for seed := range int64(4) {
			list = append(list, renamed(d, mixed(d.Points, 10*int64(i)+seed)))
		}
	}
	return list
}

func affinePlanes() []impl.Design { return withOtherNames(ownAffine()) }

func projectivePlanes() []impl.Design { return withOtherNames(ownProjective()) }

// almostPlanes are designs that differ from a plane by one condition.
func almostPlanes() []impl.Design {
	var list []impl.Design
	for _, d := range slices.Concat(ownAffine(), ownProjective()) {
		v, last := d.Points, len(d.Blocks)-1
		list = append(list, times(d, 2), times(d, 3), designWith(v+1, d.Blocks...), designWith(v, d.Blocks[1:]...), designWith(v, d.Blocks[:last]...), inOrder(v, append(slices.Clone(d.Blocks), d.Blocks[1])), inOrder(v, append(slices.Clone(d.Blocks), []int64{0})),
			inOrder(v, append(slices.Clone(d.Blocks), upTo(v))), withBlock(d, last, d.Blocks[0]...), withBlock(d, 0, d.Blocks[0][1:]...), withBlock(d, 0, upTo(v)...), allBlocksIfFew(v))
	}
	return list
}

// allBlocksIfFew returns the design of all pairs, or of all points, if there are too many pairs.
func allBlocksIfFew(points int64) impl.Design {
	if points <= 16 && points != 4 {
		return allBlocks(points, 2)
	}
	return designWith(points, upTo(points))
}

// notPlanes are valid designs that are no planes.
func notPlanes() []impl.Design {
	list := append(almostPlanes(), designWith(1), designWith(2), designWith(3), designWith(4), designWith(7), designWith(9), designWith(32), designWith(1, []int64{0}), times(designWith(1, []int64{0}), 2), times(designWith(1, []int64{0}), 3), designWith(2, upTo(2)), designWith(3, upTo(3)), designWith(4, upTo(4)), designWith(7, upTo(7)),
		allBlocks(2, 1), allBlocks(3, 1), allBlocks(3, 2), times(allBlocks(3, 2), 2), allBlocks(4, 1), allBlocks(4, 3), allBlocks(5, 2), allBlocks(6, 2), allBlocks(7, 2), allBlocks(7, 3), allBlocks(9, 2), allBlocks(9, 4), allBlocks(13, 2), allBlocks(16, 2),
		slowTriples(13), slowTriples(21), slowTriples(25), slowTriples(27), crosses(), developed(25, []int64{0, 1, 3}, []int64{0, 4, 11}, []int64{0, 5, 13}, []int64{0, 6, 15}), designWith(16, upTo(16)), designWith(32, upTo(32)), inOrder(28, allBlocks(7, 3).Blocks), scattered(9, 12), scattered(16, 20), scattered(25, 30), scattered(31, 31))
	for _, b := range balancedDesigns() {
		if b.want.Lambda > 1 {
			list = append(list, b.d)
		}
	}
	return list
}

// slowOrders returns the order as an affine and as a projective plane, or 0.
func slowOrders(d impl.Design) []int64 {
	if !slowIsDesign(d) {
		return []int64{0, 0}
	}
	parameters, ok := slowParameters(d)
	orders := []int64{0, 0}
	for n := int64(2); ok && n <= 32; n++ {
		if parameters.V == n*n && parameters.K == n && parameters.Lambda == 1 {
			orders[0] = n
		}
		if parameters.V == n*n+n+1 && parameters.K == n+1 && parameters.Lambda == 1 {
			orders[1] = n
		}
	}
	return orders
}

func checkOrders(t *testing.T, d impl.Design, want ...int64) {
	t.Helper()
	what := fmt.Sprintf("orders of %.200v", fmt.Sprint(d))
	same(t, what, []int64{impl.AffineOrder(d), impl.ProjectiveOrder(d)}, want)
	same(t, what+" by their definition", slowOrders(d), want)
}

// rootOf returns the number whose square is n.
func rootOf(n int64) int64 { return int64(math.Sqrt(float64(n))) }

func TestOrdersOfPlanes(t *testing.T) {
	for _, d := range affinePlanes() {
		checkOrders(t, d, rootOf(d.Points), 0)
	}
	for _, d := range projectivePlanes() {
		checkOrders(t, d, 0, rootOf(d.Points))
	}
	for _, d := range slices.Concat(notPlanes(), notDesigns()) {
		checkOrders(t, d, 0, 0)
	}
	for _, d := range someDesigns() {
		checkOrders(t, d, slowOrders(d)...)
	}
	for _, d := range slices.Concat(ownAffine(), ownProjective()) {
		backward := slices.Clone(d.Blocks)
		slices.Reverse(backward)
		checkOrders(t, designWith(d.Points, backward...), 0, 0)
		checkOrders(t, designWith(d.Points-1, d.Blocks...), 0, 0)
	}
}

// noPlaneOrders are numbers from -40 to 1000 for which there is no plane over a field, and numbers of many digits.
func noPlaneOrders() []int64 {
	orders := []int64{math.MinInt64, math.MinInt64 + 2, -1 << 32, 1 << 31, 1 << 32, 1<<32 + 2, 1<<32 + 3, 1 << 62, 1<<62 + 3, 3037000500, 4294967291, 6074001000, math.MaxInt64}
	for q := int64(-40); q <= 1000; q++ {
		if !slices.Contains(planeOrders(), q) {
			orders = append(orders, q)
		}
	}
	return orders
}

func TestPlanesOfFields(t *testing.T) {
	for _, q := range planeOrders() {
		d, code := impl.AffinePlane(q)
		same(t, fmt.Sprint("affine plane ", q), []any{d, code}, []any{slowAffine(q), impl.OK})
		inBalance(t, fmt.Sprint("affine plane ", q), d, code, impl.Parameters{V: q * q, B: q*q + q, R: q + 1, K: q, Lambda: 1})
		checkOrders(t, d, q, 0)
		d, code = impl.ProjectivePlane(q)
		same(t, fmt.Sprint("projective plane ", q), []any{d, code}, []any{slowProjective(q), impl.OK})
		inBalance(t, fmt.Sprint("projective plane ", q), d, code, impl.Parameters{V: q*q + q + 1, B: q*q + q + 1, R: q + 1, K: q + 1, Lambda: 1})
		checkOrders(t, d, 0, q)
	}
	for _, q := range noPlaneOrders() {
		d, code := impl.AffinePlane(q)
		failed(t, fmt.Sprint("affine plane ", q), code, impl.ErrRange, d)
		d, code = impl.ProjectivePlane(q)
		failed(t, fmt.Sprint("projective plane ", q), code, impl.ErrRange, d)
	}
}

func TestPlaneExamples(t *testing.T) {
	d, code := impl.AffinePlane(2)
	same(t, "affine plane of order 2", []any{d, code}, []any{allBlocks(4, 2), impl.OK})
	d, code = impl.AffinePlane(3)
	same(t, "affine plane of order 3", []any{d, code}, []any{designWith(9, []int64{0, 1, 2}, []int64{0, 3, 6}, []int64{0, 4, 8}, []int64{0, 5, 7}, []int64{1, 3, 8}, []int64{1, 4, 7}, []int64{1, 5, 6}, []int64{2, 3, 7}, []int64{2, 4, 6}, []int64{2, 5, 8}, []int64{3, 4, 5}, []int64{6, 7, 8}), impl.OK})
	d, code = impl.AffinePlane(4)
	same(t, "lines of the affine plane of order 4", []any{d.Blocks[:6], code}, []any{[][]int64{{0, 1, 2, 3}, {0, 4, 8, 12}, {0, 5, 10, 15}, {0, 6, 11, 13}, {0, 7, 9, 14}, {1, 4, 11, 14}}, impl.OK})
	d, code = impl.ProjectivePlane(2)
	same(t, "projective plane of order 2", []any{d, code}, []any{designWith(7, []int64{0, 1, 2}, []int64{0, 3, 4}, []int64{0, 5, 6}, []int64{1, 3, 5}, []int64{1, 4, 6}, []int64{2, 3, 6}, []int64{2, 4, 5}), impl.OK})
	d, code = impl.ProjectivePlane(3)
	same(t, "lines of the projective plane of order 3", []any{d.Blocks[:6], code}, []any{[][]int64{{0, 1, 2, 3}, {0, 4, 5, 6}, {0, 7, 8, 9}, {0, 10, 11, 12}, {1, 4, 7, 10}, {1, 5, 8, 11}}, impl.OK})
}

// slowParallels returns the parallel classes, each as the indices of the lines that do not cross its first one.
func slowParallels(d impl.Design) [][]int64 {
	var classes [][]int64
	for i, first := range d.Blocks {
		class := []int64{}
		for j, other := range d.Blocks {
			if i == j || len(pointsThat(first, other, true)) == 0 {
				class = append(class, int64(j))
			}
		}
		if class[0] == int64(i) {
			classes = append(classes, class)
		}
	}
	return classes
}

func TestParallelClasses(t *testing.T) {
	for _, d := range affinePlanes() {
		n := rootOf(d.Points)
		classes, code := impl.ParallelClasses(d)
		same(t, fmt.Sprint("classes of ", d), []any{classes, code}, []any{slowParallels(d), impl.OK})
		same(t, "number of classes", int64(len(classes)), n+1)
		for _, class := range classes {
			var points []int64
			for _, index := range class {
				points = append(points, d.Blocks[index]...)
			}
			slices.Sort(points)
			same(t, "points of the lines of a class", points, upTo(d.Points))
		}
	}
	classes, code := impl.ParallelClasses(allBlocks(4, 2))
	same(t, "classes of the least plane", []any{classes, code}, []any{[][]int64{{0, 5}, {1, 4}, {2, 3}}, impl.OK})
	classes, code = impl.ParallelClasses(renamed(slowPlane(3), []int64{0, 2, 5, 8, 1, 3, 4, 7, 6}))
	same(t, "classes of a plane with other names", []any{classes, code}, []any{[][]int64{{0, 7, 11}, {1, 5, 10}, {2, 6, 8}, {3, 4, 9}}, impl.OK})
}

// slowCompletion returns an affine plane with a new point for each class, and the block of all new points.
func slowCompletion(d impl.Design) impl.Design {
	blocks := slices.Clone(d.Blocks)
	var added []int64
	for i, class := range slowParallels(d) {
		point := d.Points + int64(i)
		for _, index := range class {
			blocks[index] = append(slices.Clone(blocks[index]), point)
		}
		added = append(added, point)
	}
	return inOrder(d.Points+int64(len(added)), append(blocks, added))
}

func TestCompletePlanes(t *testing.T) {
	for _, d := range affinePlanes() {
		n := rootOf(d.Points)
		completed, code := impl.CompletePlane(d)
		same(t, fmt.Sprint("completion of ", d), []any{completed, code}, []any{slowCompletion(d), impl.OK})
		checkOrders(t, completed, 0, n)
		for index := range completed.Blocks {
			points, blocks, _ := slowPart(completed, index, false)
			left, code := impl.RemoveLine(completed, int64(index))
			checkDesign(t, fmt.Sprint("plane without the line ", index, " of ", completed), left, code, impl.OK, points, blocks)
			checkOrders(t, left, n, 0)
		}
		added := upTo(completed.Points)[d.Points:]
		index := slices.IndexFunc(completed.Blocks, func(block []int64) bool { return slices.Equal(block, added) })
		left, code := impl.RemoveLine(completed, int64(index))
		same(t, "plane without the line that was added", []any{left, code}, []any{d, impl.OK})
	}
	completed, code := impl.CompletePlane(allBlocks(4, 2))
	same(t, "completion of the least plane", []any{completed, code}, []any{designWith(7, []int64{0, 1, 4}, []int64{0, 2, 5}, []int64{0, 3, 6}, []int64{1, 2, 6}, []int64{1, 3, 5}, []int64{2, 3, 4}, []int64{4, 5, 6}), impl.OK})
	completed, _ = impl.CompletePlane(slowPlane(5))
	same(t, "points of the greatest plane", []int64{completed.Points, int64(len(completed.Blocks))}, []int64{31, 31})
	again, code := impl.CompletePlane(completed)
	failed(t, "completion of a completed plane", code, impl.ErrState, again)
}

// namesAfterRemoval returns, for each point of a projective plane, its number after a line has been removed and the
// plane has been completed again.
func namesAfterRemoval(d impl.Design, index int, left impl.Design) []int64 {
	names := make([]int64, d.Points)
	kept := pointsThat(upTo(d.Points), d.Blocks[index], false)
	for i, x := range kept {
		names[x] = int64(i)
	}
	for i, class := range slowParallels(left) {
		line := left.Blocks[class[0]]
		a, b := kept[line[0]], kept[line[1]]
		for _, block := range d.Blocks {
			if slices.Contains(block, a) && slices.Contains(block, b) {
				names[pointsThat(block, d.Blocks[index], true)[0]] = left.Points + int64(i)
			}
		}
	}
	return names
}

func TestRemoveLines(t *testing.T) {
	for _, d := range projectivePlanes() {
		for index := range d.Blocks {
			points, blocks, _ := slowPart(d, index, false)
			left, code := impl.RemoveLine(d, int64(index))
			checkDesign(t, fmt.Sprint("plane without the line ", index, " of ", d), left, code, impl.OK, points, blocks)
			checkOrders(t, left, rootOf(d.Points), 0)
			residual, code := impl.ResidualDesign(d, int64(index))
			same(t, "residual design", []any{residual, code}, []any{left, impl.OK})
			again, code := impl.CompletePlane(left)
			same(t, "plane that is completed again", []any{again, code}, []any{renamed(d, namesAfterRemoval(d, index, left)), impl.OK})
		}
	}
	left, code := impl.RemoveLine(fano(), 1)
	same(t, "seven points without a line", []any{left, code}, []any{allBlocks(4, 2), impl.OK})
}

// noIndicesOf returns numbers that are no indices of blocks of a design.
func noIndicesOf(d impl.Design) []int64 {
	count := int64(len(d.Blocks))
	return []int64{math.MinInt64, -1 << 32, -count, -1, count, count + 1, count + 32, 128, 256, 1 << 32, 1<<32 + 1, math.MaxInt64}
}

func TestRemoveLineErrors(t *testing.T) {
	for _, d := range slices.Concat(projectivePlanes(), notPlanes(), affinePlanes()) {
		for _, index := range noIndicesOf(d) {
			left, code := impl.RemoveLine(d, index)
			failed(t, fmt.Sprint("plane without the line ", index), code, impl.ErrRange, left)
		}
	}
	for _, d := range slices.Concat(notPlanes(), affinePlanes()) {
		for index := range d.Blocks {
			left, code := impl.RemoveLine(d, int64(index))
			failed(t, fmt.Sprintf("removal from %.200v", fmt.Sprint(d)), code, impl.ErrState, left)
		}
	}
	for _, d := range notDesigns() {
		for _, index := range append(noIndicesOf(d), 0, 1, 6) {
			left, code := impl.RemoveLine(d, index)
			failed(t, fmt.Sprintf("removal from %.200v", fmt.Sprint(d)), code, impl.ErrInvalid, left)
		}
	}
}

// affineFunctions are the functions of an affine plane, with all their results but the code.
func affineFunctions() map[string]func(d impl.Design) (any, int64) {
	return map[string]func(d impl.Design) (any, int64){
		"classes": func(d impl.Design) (any, int64) {
			classes, code := impl.ParallelClasses(d)
			return classes, code
		},
		"completion": func(d impl.Design) (any, int64) {
			completed, code := impl.CompletePlane(d)
			return completed, code
		},
		"squares": func(d impl.Design) (any, int64) {
			list, code := impl.MolsOfPlane(d)
			return list, code
		},
	}
}

func TestAffineErrors(t *testing.T) {
	for name, f := range affineFunctions() {
		for _, d := range slices.Concat(notPlanes(), projectivePlanes()) {
			value, code := f(d)
			failed(t, fmt.Sprintf("%s of %.200v", name, fmt.Sprint(d)), code, impl.ErrState, value)
		}
		for _, d := range notDesigns() {
			value, code := f(d)
			failed(t, fmt.Sprintf("%s of %.200v", name, fmt.Sprint(d)), code, impl.ErrInvalid, value)
		}
		for _, d := range someDesigns() {
			if value, code := f(d); slowOrders(d)[0] == 0 {
				failed(t, fmt.Sprintf("%s of %.200v", name, fmt.Sprint(d)), code, impl.ErrState, value)
			} else {
				same(t, fmt.Sprint(name, " of ", d), code, impl.OK)
			}
		}
	}
}

// slowLine returns the index of the first block with two points, and the code.
func slowLine(d impl.Design, a, b int64) []int64 {
	for i, block := range d.Blocks {
		if slices.Contains(block, a) && slices.Contains(block, b) {
			return []int64{int64(i), impl.OK}
		}
	}
	return []int64{0, impl.ErrNotFound}
}

func TestLinesThroughPoints(t *testing.T) {
	for _, d := range slices.Concat(affinePlanes(), projectivePlanes(), someDesigns(), notPlanes()) {
		for a := range d.Points {
			for b := range d.Points {
				line, code := impl.LineThrough(d, a, b)
				if want := slowLine(d, a, b); line != want[0] || code != want[1] {
					t.Errorf("line through %d and %d in %.200v: got %d and the code %d, want %v", a, b, fmt.Sprint(d), line, code, want)
				}
			}
		}
	}
	d := designWith(4, []int64{0, 1}, []int64{0, 1, 2}, []int64{0, 1, 2}, []int64{1, 2})
	for _, c := range [][]int64{{0, 0, 0, impl.OK}, {0, 1, 0, impl.OK}, {1, 0, 0, impl.OK}, {1, 1, 0, impl.OK}, {0, 2, 1, impl.OK}, {2, 1, 1, impl.OK}, {2, 2, 1, impl.OK}, {0, 3, 0, impl.ErrNotFound}, {3, 2, 0, impl.ErrNotFound}, {3, 3, 0, impl.ErrNotFound}} {
		line, code := impl.LineThrough(d, c[0], c[1])
		same(t, fmt.Sprint("line through ", c[:2]), []int64{line, code}, c[2:])
	}
}

func TestLineErrors(t *testing.T) {
	for _, d := range slices.Concat(ownAffine(), ownProjective(), notPlanes(), greatDesigns()) {
		for _, no := range notPointsOf(d) {
			if 0 <= no && no < d.Points {
				continue
			}
			for _, other := range []int64{0, d.Points - 1, no, -1, d.Points, math.MinInt64, math.MaxInt64} {
				line, code := impl.LineThrough(d, no, other)
				failed(t, fmt.Sprint("line through ", no, " and ", other), code, impl.ErrRange, line)
				line, code = impl.LineThrough(d, other, no)
				failed(t, fmt.Sprint("line through ", other, " and ", no), code, impl.ErrRange, line)
			}
		}
	}
	for _, d := range notDesigns() {
		for _, points := range [][2]int64{{0, 0}, {0, 1}, {1, 0}, {-1, 0}, {0, 32}, {math.MinInt64, math.MaxInt64}} {
			line, code := impl.LineThrough(d, points[0], points[1])
			failed(t, fmt.Sprintf("line in %.200v", fmt.Sprint(d)), code, impl.ErrInvalid, line)
		}
	}
}

// slowPlaneOf returns the plane of orthogonal squares, line by line.
func slowPlaneOf(list [][][]int64) impl.Design {
	n := int64(len(list[0]))
	squares := append([][][]int64{slowFill(n, func(x, y int64) int64 { return x }), slowFill(n, func(x, y int64) int64 { return y })}, list...)
	var blocks [][]int64
	for _, a := range squares {
		for symbol := range n {
			var line []int64
			for cell := range n * n {
				if a[cell/n][cell%n] == symbol {
					line = append(line, cell)
				}
			}
			blocks = append(blocks, line)
		}
	}
	return inOrder(n*n, blocks)
}

// completeMols are lists of n - 1 orthogonal squares of the orders 2 to 5, with their rows, columns and symbols moved.
func completeMols() [][][][]int64 {
	var lists [][][][]int64
	for _, n := range planeOrders() {
		for seed := range int64(8) {
			var list [][][]int64
			for _, a := range permuted(slowMols(n), mixed(n-1, seed)) {
				list = append(list, slowIsotope(a, mixed(n, seed), mixed(n, 3*seed), mixed(n, seed+10*int64(len(list)))))
			}
			lists = append(lists, slowMols(n), list)
		}
	}
	return lists
}

// inPlaneOrder returns the squares with their symbols in order in the first row, ordered by the first symbol in the
// second row from right to left.
func inPlaneOrder(list [][][]int64) [][][]int64 {
	var squares [][][]int64
	for _, a := range list {
		names := slowInverse(a[0])
		squares = append(squares, slowIsotope(a, upTo(int64(len(a))), upTo(int64(len(a))), names))
	}
	slices.SortFunc(squares, func(a, b [][]int64) int { return slices.Index(a[1], 0) - slices.Index(b[1], 0) })
	return squares
}

func TestPlanesOfMols(t *testing.T) {
	for _, list := range completeMols() {
		d, code := impl.PlaneOfMols(list)
		same(t, fmt.Sprint("plane of ", list), []any{d, code}, []any{slowPlaneOf(list), impl.OK})
		checkOrders(t, d, int64(len(list[0])), 0)
		back, code := impl.MolsOfPlane(d)
		same(t, fmt.Sprint("squares of the plane of ", list), []any{back, code}, []any{inPlaneOrder(list), impl.OK})
	}
	for _, q := range planeOrders() {
		list, _ := impl.FieldMols(q)
		d, code := impl.PlaneOfMols(list)
		same(t, fmt.Sprint("plane of the squares of order ", q), []any{d, code}, []any{slowAffine(q), impl.OK})
	}
	d, code := impl.PlaneOfMols([][][]int64{{{1, 0}, {0, 1}}})
	same(t, "plane of one square", []any{d, code}, []any{allBlocks(4, 2), impl.OK})
	d, code = impl.PlaneOfMols([][][]int64{{{0, 1, 2}, {1, 2, 0}, {2, 0, 1}}, {{0, 1, 2}, {2, 0, 1}, {1, 2, 0}}})
	same(t, "plane of two squares", []any{d, code}, []any{slowPlane(3), impl.OK})
}

func TestPlaneOfMolsErrors(t *testing.T) {
	one, three, seven := [][][]int64{{{0}}}, slowMols(3), slowMols(7)
	invalid := [][][][]int64{nil, {}, {nil}, {{nil}}, {three[0], three[0]}, {three[0], three[1], three[0]}, {three[0], nil}, {nil, three[0]}, {three[0], slowMols(4)[0]}, {{{0, 1}, {1, 0}}, {{0, 1}, {1, 0}}}, slices.Repeat(one, 11), slices.Repeat(one, 1000),
		{seven[0], seven[0]}, {slowCyclic(6), slowCyclic(6)}, append(slices.Clone(seven), seven[2]), {slowCyclic(11)}, {slowCyclic(10), slowCyclic(10)}, {three[0], three[1], slowCyclic(7)}}
	for _, bad := range notSquares() {
		invalid = append(invalid, [][][]int64{bad}, [][][]int64{three[0], bad}, [][][]int64{bad, three[0]}, [][][]int64{seven[0], bad})
	}
	for _, list := range invalid {
		d, code := impl.PlaneOfMols(list)
		failed(t, fmt.Sprintf("plane of %.200v", fmt.Sprint(list)), code, impl.ErrInvalid, d)
	}
	great := [][][][]int64{{slowCyclic(6)}, {scrambled(6, 1)}, {scrambled(10, 3)}, tenMols(), {slowCyclic(8)}}
	for _, n := range []int64{7, 8, 9} {
		for count := range n - 1 {
			great = append(great, slowMols(n)[:count+1])
		}
	}
	for _, list := range great {
		d, code := impl.PlaneOfMols(list)
		failed(t, fmt.Sprintf("plane of %.200v", fmt.Sprint(list)), code, impl.ErrRange, d)
	}
	other := [][][][]int64{{slowCyclic(3)}, {slowCyclic(4)}, {slowCyclic(5)}, {scrambled(5, 2)}, {looseSquare()}}
	for count := range 10 {
		other = append(other, slices.Repeat(one, count+1))
	}
	for _, n := range planeOrders() {
		for count := range n - 2 {
			other = append(other, slowMols(n)[:count+1], slowMols(n)[n-2-count:])
		}
	}
	for _, list := range other {
		if len(list[0]) > 5 {
			continue
		}
		d, code := impl.PlaneOfMols(list)
		failed(t, fmt.Sprintf("plane of %.200v", fmt.Sprint(list)), code, impl.ErrState, d)
	}
}

// numberOf returns the place, in a class of lines, of the line with a point.
func numberOf(d impl.Design, class []int64, point int64) int64 {
	return int64(slices.IndexFunc(class, func(index int64) bool { return slices.Contains(d.Blocks[index], point) }))
}

// slowCell returns the common point of a line of the first and a line of the second class.
func slowCell(d impl.Design, classes [][]int64, x, y int64) int64 {
	return pointsThat(d.Blocks[classes[0][x]], d.Blocks[classes[1][y]], true)[0]
}

func TestMolsOfPlanes(t *testing.T) {
	for _, d := range affinePlanes() {
		n := rootOf(d.Points)
		classes := slowParallels(d)
		var want [][][]int64
		for _, class := range classes[2:] {
			want = append(want, slowFill(n, func(x, y int64) int64 { return numberOf(d, class, slowCell(d, classes, x, y)) }))
		}
		list, code := impl.MolsOfPlane(d)
		same(t, fmt.Sprint("squares of ", d), []any{list, code}, []any{want, impl.OK})
		same(t, "squares of a plane are orthogonal", []bool{slowValidMols(list), impl.ValidMols(list)}, []bool{true, true})
		same(t, "number of squares", int64(len(list)), n-1)
		names := make([]int64, d.Points)
		for cell := range d.Points {
			names[slowCell(d, classes, cell/n, cell%n)] = cell
		}
		back, code := impl.PlaneOfMols(list)
		same(t, fmt.Sprint("plane of the squares of ", d), []any{back, code}, []any{renamed(d, names), impl.OK})
	}
	list, code := impl.MolsOfPlane(allBlocks(4, 2))
	same(t, "squares of the least plane", []any{list, code}, []any{[][][]int64{{{0, 1}, {1, 0}}}, impl.OK})
	list, code = impl.MolsOfPlane(slowPlane(3))
	same(t, "squares of the plane of order 3", []any{list, code}, []any{[][][]int64{{{0, 1, 2}, {2, 0, 1}, {1, 2, 0}}, {{0, 1, 2}, {1, 2, 0}, {2, 0, 1}}}, impl.OK})
}

// slowIsArc compares all blocks with all three points of a set.
func slowIsArc(d impl.Design, set []int64) bool {
	for _, three := range subsetsWith(set, 3) {
		for _, block := range d.Blocks {
			if len(pointsThat(three, block, false)) == 0 {
				return false
			}
		}
	}
	return true
}

// checkArc returns whether a set is an arc.
func checkArc(t *testing.T, d impl.Design, set []int64) bool {
	t.Helper()
	want := slowIsArc(d, set)
	arc, code := impl.IsArc(d, set)
	if arc != want || code != impl.OK {
		t.Errorf("%v is an arc of %.200v: got %v and the code %d, want %v", set, fmt.Sprint(d), arc, code, want)
	}
	return arc
}

// TestAllArcs compares all subsets of small planes with the definition, and counts the points of the greatest arcs.
func TestAllArcs(t *testing.T) {
	for _, c := range []struct {
		d    impl.Design
		most int
	}{{allBlocks(4, 2), 4}, {fano(), 4}, {slowProjective(2), 4}, {slowPlane(3), 4}, {slowTriples(9), 4}, {slowProjective(3), 4}, {slowAffine(4), 6}} {
		most := 0
		for _, set := range subsetsOf(c.d.Points) {
			if len(set) <= 7 && checkArc(t, c.d, set) {
				most = max(most, len(set))
			}
		}
		same(t, fmt.Sprint("greatest arc of ", c.d), most, c.most)
	}
}

func TestArcsOfDesigns(t *testing.T) {
	for i, d := range slices.Concat(someDesigns(), notPlanes(), ownAffine(), ownProjective()) {
		checkArc(t, d, nil)
		checkArc(t, d, []int64{d.Points - 1})
		for size := range min(d.Points, 9) + 1 {
			set := mixed(d.Points, int64(i)+size)[:size]
			slices.Sort(set)
			if arc := checkArc(t, d, set); size < 3 {
				same(t, fmt.Sprint(set, " is an arc"), arc, true)
			}
		}
	}
	d := designWith(6, []int64{0, 1}, []int64{1, 2, 3, 5}, []int64{1, 2, 3, 5})
	for set, want := range map[[3]int64]bool{{1, 2, 3}: false, {1, 2, 5}: false, {2, 3, 5}: false, {0, 1, 2}: true, {0, 4, 5}: true, {1, 2, 4}: true} {
		arc, code := impl.IsArc(d, set[:])
		same(t, fmt.Sprint(set, " is an arc"), []any{arc, code}, []any{want, impl.OK})
	}
}

// TestConics checks that the points 1, t, t t and 0, 0, 1 are arcs, with 0, 1, 0 for even orders only, and the points
// of parabolas too.
func TestConics(t *testing.T) {
	for _, q := range planeOrders() {
		f, _ := slowField(q)
		_, products := slowTables(f)
		vectors := slowVectors(q)
		numberOf := func(v ...int64) int64 {
			return int64(slices.IndexFunc(vectors, func(w []int64) bool { return slices.Equal(v, w) }))
		}
		conic, parabola := []int64{numberOf(0, 0, 1)}, []int64{}
		for x := range q {
			conic = append(conic, numberOf(1, x, products[x][x]))
			parabola = append(parabola, q*x+products[x][x])
		}
		slices.Sort(conic)
		projective, _ := impl.ProjectivePlane(q)
		affine, _ := impl.AffinePlane(q)
		same(t, fmt.Sprint("conic of order ", q), checkArc(t, projective, conic), true)
		same(t, fmt.Sprint("parabola of order ", q), checkArc(t, affine, parabola), true)
		for x := range projective.Points {
			if more := append(slices.Clone(conic), x); !slices.Contains(conic, x) {
				slices.Sort(more)
				same(t, fmt.Sprint("conic of order ", q, " with the point ", x), checkArc(t, projective, more), q%2 == 0 && x == numberOf(0, 1, 0))
			}
		}
	}
}

func TestArcErrors(t *testing.T) {
	for _, d := range slices.Concat(ownAffine(), ownProjective(), notPlanes(), greatDesigns()) {
		for _, set := range notSetsOf(d.Points) {
			if impl.ValidSet(set, d.Points) {
				continue
			}
			arc, code := impl.IsArc(d, set)
			failed(t, fmt.Sprintf("%.99v is an arc", fmt.Sprint(set)), code, impl.ErrRange, arc)
		}
	}
	for _, d := range notDesigns() {
		for _, set := range [][]int64{nil, {0}, {0, 1, 2}, {1, 0}, {-1}, {32}, upTo(33)} {
			arc, code := impl.IsArc(d, set)
			failed(t, fmt.Sprintf("arc of %.200v", fmt.Sprint(d)), code, impl.ErrInvalid, arc)
		}
	}
}
