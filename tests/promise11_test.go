package tests

import (
	"fmt"
	"math"
	"slices"
	"testing"

	"loop.example/g00920/impl"
)

func slowIsBlock(block []int64, points int64) bool {
	for i, x := range block {
		if x < 0 || x >= points || i > 0 && block[i-1] >= x {
			return false
		}
	}
	return len(block) > 0
}

func slowIsDesign(d impl.Design) bool {
	if d.Points < 1 || d.Points > 32 || len(d.Blocks) > 128 {
		return false
	}
	for i, block := range d.Blocks {
		if !slowIsBlock(block, d.Points) || i > 0 && slices.Compare(d.Blocks[i-1], block) > 0 {
			return false
		}
	}
	return true
}

func designWith(points int64, blocks ...[]int64) impl.Design {
	return impl.Design{Points: points, Blocks: blocks}
}

// inOrder returns the design with some blocks, which it puts in order.
func inOrder(points int64, blocks [][]int64) impl.Design {
	blocks = slices.Clone(blocks)
	slices.SortFunc(blocks, slices.Compare[[]int64])
	return designWith(points, blocks...)
}

// developed returns the design of the sets with each residue of the number of points added.
func developed(points int64, sets ...[]int64) impl.Design {
	var blocks [][]int64
	for _, set := range sets {
		for by := range points {
			var block []int64
			for _, x := range set {
				block = append(block, (x+by)%points)
			}
			slices.Sort(block)
			blocks = append(blocks, block)
		}
	}
	return inOrder(points, blocks)
}

func fano() impl.Design { return developed(7, []int64{0, 1, 3}) }

// squaresOf returns the squares modulo a prime number.
func squaresOf(p int64) []int64 {
	var squares []int64
	for x := int64(1); x <= p/2; x++ {
		squares = append(squares, x*x%p)
	}
	return squares
}

// subsetsWith returns the subsets of a list with a number of elements.
func subsetsWith(list []int64, size int) [][]int64 {
	if size == 0 {
		return [][]int64{nil}
	}
	var sets [][]int64
	for i, x := range list {
		for _, rest := range subsetsWith(list[i+1:], size-1) {
			sets = append(sets, append([]int64{x}, rest...))
		}
	}
	return sets
}

// allBlocks returns the design of all blocks of a size.
func allBlocks(points int64, size int) impl.Design {
	return inOrder(points, subsetsWith(upTo(points), size))
}

// slowPlane returns the affine plane over the residues modulo a prime number.
func slowPlane(p int64) impl.Design {
	var blocks [][]int64
	for b := range p {
		var upright []int64
		for x := range p {
			upright = append(upright, p*b+x)
		}
		blocks = append(blocks, upright)
		for m := range p {
			var line []int64
			for x := range p {
				line = append(line, p*x+(m*x+b)%p)
			}
			blocks = append(blocks, line)
		}
	}
	return inOrder(p*p, blocks)
}

// crosses returns the biplane of the rows and columns of a square of order 4 through each cell, without this cell.
func crosses() impl.Design {
	var blocks [][]int64
	for cell := range int64(16) {
		var block []int64
		for other := range int64(16) {
			if other != cell && (other/4 == cell/4 || other%4 == cell%4) {
				block = append(block, other)
			}
		}
		blocks = append(blocks, block)
	}
	return inOrder(16, blocks)
}

// times returns the design with each block as often as given.
func times(d impl.Design, often int) impl.Design {
	return inOrder(d.Points, slices.Repeat(d.Blocks, often))
}

type balanced struct {
	d    impl.Design
	want impl.Parameters
}

// symmetricDesigns have as many blocks as points.
func symmetricDesigns() []balanced {
	return []balanced{
		{fano(), impl.Parameters{V: 7, B: 7, R: 3, K: 3, Lambda: 1}}, {developed(13, []int64{0, 1, 3, 9}), impl.Parameters{V: 13, B: 13, R: 4, K: 4, Lambda: 1}},
		{developed(11, squaresOf(11)), impl.Parameters{V: 11, B: 11, R: 5, K: 5, Lambda: 2}}, {developed(21, []int64{0, 1, 4, 14, 16}), impl.Parameters{V: 21, B: 21, R: 5, K: 5, Lambda: 1}},
		{developed(15, []int64{0, 1, 2, 4, 5, 8, 10}), impl.Parameters{V: 15, B: 15, R: 7, K: 7, Lambda: 3}}, {crosses(), impl.Parameters{V: 16, B: 16, R: 6, K: 6, Lambda: 2}},
		{developed(19, squaresOf(19)), impl.Parameters{V: 19, B: 19, R: 9, K: 9, Lambda: 4}}, {developed(23, squaresOf(23)), impl.Parameters{V: 23, B: 23, R: 11, K: 11, Lambda: 5}},
		{developed(31, []int64{1, 5, 11, 24, 25, 27}), impl.Parameters{V: 31, B: 31, R: 6, K: 6, Lambda: 1}}, {developed(31, squaresOf(31)), impl.Parameters{V: 31, B: 31, R: 15, K: 15, Lambda: 7}},
		{allBlocks(3, 2), impl.Parameters{V: 3, B: 3, R: 2, K: 2, Lambda: 1}}, {allBlocks(6, 5), impl.Parameters{V: 6, B: 6, R: 5, K: 5, Lambda: 4}},
	}
}

// otherBalanced are balanced designs with another number of blocks than points.
func otherBalanced() []balanced {
	return []balanced{
		{designWith(2, []int64{0, 1}), impl.Parameters{V: 2, B: 1, R: 1, K: 2, Lambda: 1}}, {designWith(32, upTo(32)), impl.Parameters{V: 32, B: 1, R: 1, K: 32, Lambda: 1}},
		{times(designWith(32, upTo(32)), 128), impl.Parameters{V: 32, B: 128, R: 128, K: 32, Lambda: 128}}, {times(designWith(2, upTo(2)), 65), impl.Parameters{V: 2, B: 65, R: 65, K: 2, Lambda: 65}},
		{times(fano(), 2), impl.Parameters{V: 7, B: 14, R: 6, K: 3, Lambda: 2}}, {times(fano(), 18), impl.Parameters{V: 7, B: 126, R: 54, K: 3, Lambda: 18}},
		{allBlocks(4, 2), impl.Parameters{V: 4, B: 6, R: 3, K: 2, Lambda: 1}}, {allBlocks(16, 2), impl.Parameters{V: 16, B: 120, R: 15, K: 2, Lambda: 1}},
		{allBlocks(10, 3), impl.Parameters{V: 10, B: 120, R: 36, K: 3, Lambda: 8}}, {allBlocks(9, 4), impl.Parameters{V: 9, B: 126, R: 56, K: 4, Lambda: 21}},
		{developed(13, []int64{0, 1, 4}, []int64{0, 2, 7}), impl.Parameters{V: 13, B: 26, R: 6, K: 3, Lambda: 1}}, {developed(25, []int64{0, 1, 3}, []int64{0, 4, 11}, []int64{0, 5, 13}, []int64{0, 6, 15}), impl.Parameters{V: 25, B: 100, R: 12, K: 3, Lambda: 1}},
		{slowPlane(2), impl.Parameters{V: 4, B: 6, R: 3, K: 2, Lambda: 1}}, {slowPlane(3), impl.Parameters{V: 9, B: 12, R: 4, K: 3, Lambda: 1}}, {slowPlane(5), impl.Parameters{V: 25, B: 30, R: 6, K: 5, Lambda: 1}},
	}
}

func balancedDesigns() []balanced { return slices.Concat(symmetricDesigns(), otherBalanced()) }

// designsWith returns the designs that have some blocks and at most as many more of others, which are in order.
func designsWith(points int64, blocks, others [][]int64, more int) []impl.Design {
	list := []impl.Design{designWith(points, blocks...)}
	if more == 0 {
		return list
	}
	for i, block := range others {
		list = append(list, designsWith(points, append(slices.Clone(blocks), block), others[i:], more-1)...)
	}
	return list
}

// smallDesigns are all designs of at most four points with few blocks.
func smallDesigns() []impl.Design {
	var list []impl.Design
	for i, most := range []int{4, 4, 4, 3} {
		points := int64(i + 1)
		list = append(list, designsWith(points, nil, inOrder(points, subsetsOf(points)[1:]).Blocks, most)...)
	}
	return list
}

// scattered returns a design whose blocks follow no rule; some of them are there several times.
func scattered(points int64, count int) impl.Design {
	var blocks [][]int64
	for i := range count {
		if i%5 == 4 {
			blocks = append(blocks, blocks[i/2])
			continue
		}
		block := mixed(points, int64(100*count+i))[:1+int64(i*i+count)%points]
		slices.Sort(block)
		blocks = append(blocks, block)
	}
	return inOrder(points, blocks)
}

// greatDesigns are designs of more points or with more blocks, up to the limits.
func greatDesigns() []impl.Design {
	list := []impl.Design{
		{Points: 5}, {Points: 31}, {Points: 32}, designWith(32, []int64{31}), designWith(32, []int64{0}, []int64{0}, []int64{0, 31}, []int64{31}, []int64{31}), designWith(32, upTo(31), upTo(32)),
		times(designWith(1, []int64{0}), 128), times(designWith(32, []int64{31}), 128), inOrder(32, slices.Repeat([][]int64{upTo(31), {31}}, 64)), inOrder(32, slices.Repeat([][]int64{upTo(16), upTo(32)[16:]}, 16)), allBlocks(7, 3), allBlocks(32, 1),
	}
	for _, points := range []int64{1, 2, 5, 9, 16, 31, 32} {
		for _, count := range []int{1, 2, 7, 31, 32, 33, 63, 64, 65, 127, 128} {
			list = append(list, scattered(points, count))
		}
	}
	for _, b := range balancedDesigns() {
		list = append(list, b.d)
	}
	return list
}

func someDesigns() []impl.Design { return slices.Concat(smallDesigns(), greatDesigns()) }

// notBlocks are lists that are no blocks of four points.
func notBlocks() [][]int64 {
	return [][]int64{nil, {}, {-1}, {4}, {5}, {32}, {33}, {64}, {256}, {1 << 32}, {math.MinInt64}, {math.MaxInt64}, {-1, 0}, {0, 4}, {3, 4}, {0, 0}, {3, 3}, {1, 0}, {3, 2}, {0, 2, 1}, {0, 1, 1}, {0, 1, 2, 3, 4}, {0, 1, 2, 3, 3}, upTo(32), upTo(33), upTo(1000)}
}

// notDesigns are designs that break one of the conditions each.
func notDesigns() []impl.Design {
	list := []impl.Design{
		{}, {Points: -1}, {Points: 33}, {Points: 64}, {Points: 1 << 32}, {Points: math.MinInt64}, {Points: math.MaxInt64}, designWith(0, []int64{}), designWith(0, []int64{0}), designWith(-1, []int64{0}), designWith(33, []int64{0}), designWith(33, []int64{32}),
		designWith(1<<32+4, []int64{0}), designWith(math.MaxInt64, []int64{0}), designWith(32, []int64{32}), designWith(32, upTo(33)), designWith(1, []int64{1}), designWith(2, []int64{0, 1, 2}),
		designWith(3, []int64{1}, []int64{0}), designWith(3, []int64{0, 1}, []int64{0}), designWith(3, []int64{1}, []int64{0, 2}), designWith(3, []int64{0, 2}, []int64{0, 1, 2}), designWith(3, []int64{0}, []int64{2}, []int64{1}), designWith(3, []int64{0}, []int64{1}, []int64{0}),
		designWith(32, []int64{31}, []int64{30, 31}), designWith(32, []int64{31}, upTo(32)), times(designWith(1, []int64{0}), 129), times(designWith(32, upTo(32)), 129), times(designWith(4, []int64{0}), 1000), times(fano(), 19), designWith(4, slices.Repeat(notBlocks()[2:3], 129)...),
	}
	for _, bad := range notBlocks() {
		list = append(list, designWith(4, bad), designWith(4, bad, []int64{0}, []int64{0}), designWith(4, []int64{0}, bad, []int64{3}), designWith(4, []int64{0, 1}, []int64{3}, bad))
	}
	for _, b := range symmetricDesigns() {
		backward := slices.Clone(b.d.Blocks)
		slices.Reverse(backward)
		list = append(list, designWith(b.d.Points, backward...), designWith(b.d.Points-1, b.d.Blocks...))
	}
	return list
}

func TestValidDesigns(t *testing.T) {
	same(t, "limit", impl.MaxBlocks, 128)
	for _, d := range someDesigns() {
		same(t, fmt.Sprintf("validity of %.200v", fmt.Sprint(d)), []bool{slowIsDesign(d), impl.ValidDesign(d)}, []bool{true, true})
	}
	for _, d := range notDesigns() {
		same(t, fmt.Sprintf("validity of %.200v", fmt.Sprint(d)), []bool{slowIsDesign(d), impl.ValidDesign(d)}, []bool{false, false})
	}
}

// shortLists are all lists of at most two numbers from -1 to 3.
func shortLists() [][]int64 {
	lists := [][]int64{nil}
	for x := int64(-1); x <= 3; x++ {
		lists = append(lists, []int64{x})
		for y := int64(-1); y <= 3; y++ {
			lists = append(lists, []int64{x, y})
		}
	}
	return lists
}

func checkValidity(t *testing.T, points int64, blocks ...[]int64) {
	t.Helper()
	d := designWith(points, blocks...)
	if impl.ValidDesign(d) != slowIsDesign(d) {
		t.Errorf("validity of %v: got %v", d, impl.ValidDesign(d))
	}
}

func TestValidityOfShortBlocks(t *testing.T) {
	for points := int64(-1); points <= 4; points++ {
		checkValidity(t, points)
		for _, first := range shortLists() {
			checkValidity(t, points, first)
			for _, second := range shortLists() {
				checkValidity(t, points, first, second)
			}
		}
	}
	blocks := subsetsOf(4)[1:]
	for _, first := range blocks {
		for _, second := range blocks {
			for _, third := range blocks {
				checkValidity(t, 4, first, second, third)
			}
		}
	}
}

func TestSameDesigns(t *testing.T) {
	designs := []impl.Design{
		{}, {Points: 1}, {Points: -1}, designWith(0, nil), designWith(0, nil, nil), designWith(1, []int64{0}), designWith(2, []int64{0}), designWith(2, []int64{0}, []int64{0}), designWith(2, []int64{0}, []int64{1}), designWith(2, []int64{1}, []int64{0}),
		designWith(2, []int64{0, 1}), designWith(2, []int64{1, 0}), designWith(2, []int64{0, 1}, nil), designWith(2, nil, []int64{0, 1}), designWith(2, []int64{0, 0}), designWith(33, []int64{0, 1}), designWith(math.MinInt64, []int64{math.MaxInt64}), designWith(math.MaxInt64, []int64{math.MinInt64}),
		fano(), times(fano(), 2), times(fano(), 19), designWith(8, fano().Blocks...), designWith(7, fano().Blocks[1:]...), designWith(7, fano().Blocks[:6]...),
	}
	for i, a := range designs {
		for j, b := range designs {
			blocks := slices.Clone(b.Blocks)
			for k := range blocks {
				blocks[k] = slices.Clone(blocks[k])
			}
			same(t, fmt.Sprint(a, " is ", b), impl.SameDesign(a, designWith(b.Points, blocks...)), i == j)
		}
	}
	same(t, "nil and empty lists", []bool{impl.SameDesign(impl.Design{}, impl.Design{Blocks: [][]int64{}}), impl.SameDesign(impl.Design{Blocks: [][]int64{}}, impl.Design{}),
		impl.SameDesign(designWith(1, nil), designWith(1, []int64{})), impl.SameDesign(designWith(1, []int64{}), designWith(1, nil))}, []bool{true, true, true, true})
}

// checkDesign compares a design and a code with the wanted code or, if it is OK, with the design that has some blocks.
func checkDesign(t *testing.T, what string, got impl.Design, code, want, points int64, blocks [][]int64) {
	t.Helper()
	what = fmt.Sprintf("%.200s", what)
	if want != impl.OK {
		failed(t, what, code, want, got)
		return
	}
	same(t, what, []any{got, code}, []any{inOrder(points, blocks), impl.OK})
	same(t, "validity of "+what, impl.ValidDesign(got), true)
}

// permuted returns the elements of a list in the order of a permutation.
func permuted[T any](list []T, p []int64) []T {
	var other []T
	for _, i := range p {
		other = append(other, list[i])
	}
	return other
}

func TestSortDesign(t *testing.T) {
	for _, d := range someDesigns() {
		for seed := range int64(4) {
			blocks := permuted(d.Blocks, mixed(int64(len(d.Blocks)), seed))
			got, code := impl.SortDesign(d.Points, blocks)
			checkDesign(t, fmt.Sprint("order of ", blocks), got, code, impl.OK, d.Points, d.Blocks)
		}
		got, code := impl.SortDesign(d.Points, d.Blocks)
		same(t, "a design is in order", impl.SameDesign(got, d) && code == impl.OK, true)
	}
	for _, p := range slowPermutations(5) {
		blocks := permuted([][]int64{{0}, {0, 1, 3}, {0, 2}, {0, 2}, {3}}, p)
		got, code := impl.SortDesign(4, blocks)
		same(t, fmt.Sprint("order of ", blocks), []any{got, code}, []any{designWith(4, []int64{0}, []int64{0, 1, 3}, []int64{0, 2}, []int64{0, 2}, []int64{3}), impl.OK})
	}
}

func TestSortDesignErrors(t *testing.T) {
	many := slices.Repeat([][]int64{{0}}, 129)
	for _, points := range []int64{-1, 0, 33, 64, 1 << 32, 1<<32 + 1, math.MinInt64, math.MaxInt64} {
		for _, blocks := range [][][]int64{nil, {nil}, {{0}}, {{1, 0}}, many} {
			d, code := impl.SortDesign(points, blocks)
			failed(t, fmt.Sprint("design of points ", points), code, impl.ErrInvalid, d)
		}
	}
	for _, bad := range notBlocks() {
		for _, blocks := range [][][]int64{{bad}, {bad, {0}}, {{0}, bad}, {{3}, bad, {0}}, slices.Concat(many, [][]int64{bad}), slices.Concat([][]int64{bad}, many)} {
			d, code := impl.SortDesign(4, blocks)
			failed(t, fmt.Sprintf("design with the block %.99v", fmt.Sprint(bad)), code, impl.ErrInvalid, d)
		}
	}
	for _, count := range []int{129, 130, 256, 257, 1000} {
		for _, points := range []int64{1, 4, 32} {
			d, code := impl.SortDesign(points, slices.Repeat([][]int64{{0}}, count))
			failed(t, fmt.Sprint("design with many blocks ", count), code, impl.ErrFull, d)
		}
	}
	full, code := impl.SortDesign(1, many[:128])
	checkDesign(t, "design with 128 blocks", full, code, impl.OK, 1, many[:128])
}

func slowReplications(d impl.Design) []int64 {
	var counts []int64
	for x := range d.Points {
		count := int64(0)
		for _, block := range d.Blocks {
			if slices.Contains(block, x) {
				count++
			}
		}
		counts = append(counts, count)
	}
	return counts
}

func slowPairCounts(d impl.Design) []int64 {
	var counts []int64
	for a := range d.Points {
		for b := a + 1; b < d.Points; b++ {
			count := int64(0)
			for _, block := range d.Blocks {
				if slices.Contains(block, a) && slices.Contains(block, b) {
					count++
				}
			}
			counts = append(counts, count)
		}
	}
	return counts
}

func slowMeetings(d impl.Design) []int64 {
	var numbers []int64
	for i, a := range d.Blocks {
		for j, b := range d.Blocks {
			if i != j {
				numbers = append(numbers, int64(len(pointsThat(a, b, true))))
			}
		}
	}
	slices.Sort(numbers)
	return slices.Compact(numbers)
}

// pointsThat returns the points of a that are in b, or those that are not.
func pointsThat(a, b []int64, inside bool) []int64 {
	var list []int64
	for _, x := range a {
		if slices.Contains(b, x) == inside {
			list = append(list, x)
		}
	}
	return list
}

func TestNumbersOfDesigns(t *testing.T) {
	for _, d := range someDesigns() {
		what := fmt.Sprintf("%.200v", fmt.Sprint(d))
		replications, one := impl.ReplicationsOf(d)
		pairs, two := impl.PairCounts(d)
		meetings, three := impl.MeetingsOf(d)
		same(t, "replications of "+what, []any{replications, one}, []any{slowReplications(d), impl.OK})
		same(t, "pairs of "+what, []any{pairs, two}, []any{slowPairCounts(d), impl.OK})
		same(t, "meetings of "+what, []any{meetings, three}, []any{slowMeetings(d), impl.OK})
	}
}

func TestNumberExamples(t *testing.T) {
	for _, c := range []struct {
		d                             impl.Design
		replications, pairs, meetings []int64
	}{
		{designWith(1), []int64{0}, nil, nil}, {designWith(3), []int64{0, 0, 0}, []int64{0, 0, 0}, nil}, {designWith(1, []int64{0}, []int64{0}), []int64{2}, nil, []int64{1}},
		{designWith(4, []int64{0, 1, 3}), []int64{1, 1, 0, 1}, []int64{1, 0, 1, 0, 1, 0}, nil}, {designWith(4, []int64{0, 1}, []int64{0, 1}, []int64{0, 1, 2}, []int64{3}), []int64{3, 3, 1, 1}, []int64{3, 1, 0, 1, 0, 0}, []int64{0, 2}},
	} {
		replications, one := impl.ReplicationsOf(c.d)
		pairs, two := impl.PairCounts(c.d)
		meetings, three := impl.MeetingsOf(c.d)
		same(t, fmt.Sprint("numbers of ", c.d), []any{replications, one, pairs, two, meetings, three}, []any{c.replications, 0, c.pairs, 0, c.meetings, 0})
	}
	meetings, code := impl.MeetingsOf(times(designWith(32, upTo(32)), 128))
	same(t, "meetings of the greatest blocks", []any{meetings, code}, []any{[]int64{32}, impl.OK})
	meetings, code = impl.MeetingsOf(inOrder(32, [][]int64{upTo(32), upTo(31), {31}}))
	same(t, "meetings of all sizes", []any{meetings, code}, []any{[]int64{0, 1, 31}, impl.OK})
}

// slowParameters returns the parameters of a design, and whether it is balanced.
func slowParameters(d impl.Design) (impl.Parameters, bool) {
	if d.Points < 2 || len(d.Blocks) < 1 || len(d.Blocks[0]) < 2 {
		return impl.Parameters{}, false
	}
	for _, block := range d.Blocks {
		if len(block) != len(d.Blocks[0]) {
			return impl.Parameters{}, false
		}
	}
	pairs := slowPairCounts(d)
	if slices.Min(pairs) != slices.Max(pairs) {
		return impl.Parameters{}, false
	}
	return impl.Parameters{V: d.Points, B: int64(len(d.Blocks)), R: slowReplications(d)[0], K: int64(len(d.Blocks[0])), Lambda: pairs[0]}, true
}

// checkParameters compares the parameters of a design with those of the definition, and returns them.
func checkParameters(t *testing.T, d impl.Design) (impl.Parameters, bool) {
	t.Helper()
	got, code := impl.ParametersOf(d)
	want, ok := slowParameters(d)
	what := fmt.Sprintf("parameters of %.200v", fmt.Sprint(d))
	if !ok {
		failed(t, what, code, impl.ErrState, got)
		return want, ok
	}
	same(t, what, []any{got, code}, []any{want, impl.OK})
	return want, ok
}

func TestParameters(t *testing.T) {
	found := 0
	for _, d := range someDesigns() {
		if _, ok := checkParameters(t, d); ok {
			found++
		}
	}
	if found < len(balancedDesigns()) {
		t.Errorf("only %d designs are balanced", found)
	}
	for _, d := range []impl.Design{
		{Points: 1}, {Points: 2}, {Points: 32}, designWith(1, []int64{0}), designWith(1, []int64{0}, []int64{0}), designWith(2, []int64{0}), designWith(2, []int64{0}, []int64{1}), designWith(3, []int64{0}, []int64{1}, []int64{2}), designWith(2, []int64{0}, []int64{0, 1}), designWith(2, []int64{0, 1}, []int64{1}),
		designWith(3, []int64{0, 1}, []int64{0, 2}), designWith(3, []int64{0, 1}, []int64{0, 1}, []int64{0, 2}, []int64{1, 2}), designWith(4, []int64{0, 1}, []int64{2, 3}), designWith(3, []int64{0, 1}), designWith(3, []int64{0, 1, 2}, []int64{0, 1, 2}, []int64{1, 2}),
		designWith(3, []int64{0, 1, 2}, []int64{0, 1, 2}, []int64{2}), designWith(4, []int64{0, 1}, []int64{0, 2}, []int64{0, 3}, []int64{1, 2, 3}), designWith(5, fano().Blocks[:1]...),
	} {
		parameters, code := impl.ParametersOf(d)
		failed(t, fmt.Sprint("parameters of ", d), code, impl.ErrState, parameters)
	}
}

// inBalance checks the parameters of a design, and that they satisfy the equations and Fisher's inequality.
func inBalance(t *testing.T, what string, d impl.Design, code int64, want impl.Parameters) {
	t.Helper()
	got, second := impl.ParametersOf(d)
	same(t, fmt.Sprint("parameters of ", what, " of ", want), []any{code, got, second}, []any{impl.OK, want, impl.OK})
	same(t, fmt.Sprint("equations of ", what), []int64{got.B * got.K, got.R * (got.K - 1)}, []int64{got.V * got.R, got.Lambda * (got.V - 1)})
	if got.K < got.V && got.B < got.V {
		t.Errorf("%s: fewer blocks than points: %v", what, got)
	}
	replications, third := impl.ReplicationsOf(d)
	pairs, fourth := impl.PairCounts(d)
	same(t, fmt.Sprint("numbers of ", what), []any{replications, third, pairs, fourth}, []any{repeated(int(want.V), want.R), 0, repeated(int(want.V*(want.V-1)/2), want.Lambda), 0})
}

func TestBalancedDesigns(t *testing.T) {
	for _, b := range balancedDesigns() {
		inBalance(t, "the design", b.d, impl.OK, b.want)
		checkIncidences(t, b)
		if b.want.K == b.want.V {
			continue
		}
		for i := range b.d.Blocks {
			fewer := designWith(b.d.Points, slices.Delete(slices.Clone(b.d.Blocks), i, i+1)...)
			parameters, code := impl.ParametersOf(fewer)
			failed(t, "a design without a block", code, impl.ErrState, parameters)
		}
	}
	example := [][]int64{{0, 1, 3}, {1, 2, 4}, {2, 3, 5}, {3, 4, 6}, {0, 4, 5}, {1, 5, 6}, {0, 2, 6}}
	d, code := impl.SortDesign(7, example)
	same(t, "the example in order", []any{d, code}, []any{designWith(7, []int64{0, 1, 3}, []int64{0, 2, 6}, []int64{0, 4, 5}, []int64{1, 2, 4}, []int64{1, 5, 6}, []int64{2, 3, 5}, []int64{3, 4, 6}), impl.OK})
	inBalance(t, "the example", d, code, impl.Parameters{V: 7, B: 7, R: 3, K: 3, Lambda: 1})
}

// checkIncidences checks that the product of the matrix and its transpose has R on the diagonal and Lambda elsewhere.
func checkIncidences(t *testing.T, b balanced) {
	t.Helper()
	m, code := impl.IncidenceMatrix(b.d)
	same(t, "size of the matrix", []any{len(m), code}, []any{b.want.V, impl.OK})
	for x, row := range m {
		for y, other := range m {
			product := int64(0)
			for i := range row {
				product += row[i] * other[i]
			}
			want := b.want.Lambda
			if x == y {
				want = b.want.R
			}
			same(t, "product of two rows", product, want)
		}
	}
}

func TestParametersOfNewDesigns(t *testing.T) {
	for _, b := range balancedDesigns() {
		p := b.want
		if p.V-p.K >= 2 {
			d, code := impl.ComplementDesign(b.d)
			inBalance(t, "the complement", d, code, impl.Parameters{V: p.V, B: p.B, R: p.B - p.R, K: p.V - p.K, Lambda: p.B - 2*p.R + p.Lambda})
		}
		for seed := range int64(3) {
			d, code := impl.RelabelDesign(b.d, mixed(p.V, seed))
			inBalance(t, "the relabeled design", d, code, p)
		}
		for _, c := range balancedDesigns() {
			if c.want.V != p.V || c.want.K != p.K || c.want.B+p.B > impl.MaxBlocks {
				continue
			}
			d, code := impl.SumDesigns(b.d, c.d)
			inBalance(t, "the sum", d, code, impl.Parameters{V: p.V, B: p.B + c.want.B, R: p.R + c.want.R, K: p.K, Lambda: p.Lambda + c.want.Lambda})
		}
	}
}

func TestSymmetricDesigns(t *testing.T) {
	for _, b := range symmetricDesigns() {
		p := b.want
		dual, code := impl.DualDesign(b.d)
		inBalance(t, "the dual design", dual, code, p)
		meetings, code := impl.MeetingsOf(b.d)
		same(t, fmt.Sprint("meetings of ", p), []any{meetings, code}, []any{[]int64{p.Lambda}, impl.OK})
		for block := range p.B {
			if p.Lambda >= 2 {
				d, code := impl.DerivedDesign(b.d, block)
				inBalance(t, "the derived design", d, code, impl.Parameters{V: p.K, B: p.B - 1, R: p.K - 1, K: p.Lambda, Lambda: p.Lambda - 1})
			}
			if p.K-p.Lambda >= 2 && p.V-p.K >= 2 {
				d, code := impl.ResidualDesign(b.d, block)
				inBalance(t, "the residual design", d, code, impl.Parameters{V: p.V - p.K, B: p.B - 1, R: p.K, K: p.K - p.Lambda, Lambda: p.Lambda})
			}
		}
	}
}

func TestComplements(t *testing.T) {
	for _, d := range someDesigns() {
		var blocks [][]int64
		want := int64(impl.OK)
		for _, block := range d.Blocks {
			blocks = append(blocks, pointsThat(upTo(d.Points), block, false))
			if int64(len(block)) == d.Points {
				want = impl.ErrState
			}
		}
		complement, code := impl.ComplementDesign(d)
		checkDesign(t, fmt.Sprint("complement of ", d), complement, code, want, d.Points, blocks)
		if want == impl.OK {
			back, code := impl.ComplementDesign(complement)
			checkDesign(t, fmt.Sprint("complement of the complement of ", d), back, code, impl.OK, d.Points, d.Blocks)
		}
	}
}

func TestDualDesigns(t *testing.T) {
	for _, d := range someDesigns() {
		blocks := make([][]int64, d.Points)
		for i, block := range d.Blocks {
			for _, x := range block {
				blocks[x] = append(blocks[x], int64(i))
			}
		}
		want := int64(impl.OK)
		switch {
		case len(d.Blocks) < 1 || len(d.Blocks) > 32:
			want = impl.ErrRange
		case slices.Contains(slowReplications(d), 0):
			want = impl.ErrState
		}
		dual, code := impl.DualDesign(d)
		checkDesign(t, fmt.Sprint("dual design of ", d), dual, code, want, int64(len(d.Blocks)), blocks)
		if want == impl.OK {
			checkDualOfDual(t, d, dual)
		}
	}
}

// checkDualOfDual compares a design with the dual design of its dual design, whose points are numbered in the order
// of the lists of the indices of their blocks.
func checkDualOfDual(t *testing.T, d, dual impl.Design) {
	t.Helper()
	used := make([]bool, d.Points)
	names := make([]int64, d.Points)
	for x := range d.Points {
		var indices []int64
		for i, block := range d.Blocks {
			if slices.Contains(block, x) {
				indices = append(indices, int64(i))
			}
		}
		for place, block := range dual.Blocks {
			if !used[place] && slices.Equal(block, indices) {
				used[place], names[x] = true, int64(place)
				break
			}
		}
	}
	var blocks [][]int64
	for _, block := range d.Blocks {
		blocks = append(blocks, slowImage(names, block))
	}
	back, code := impl.DualDesign(dual)
	checkDesign(t, fmt.Sprint("dual design of the dual design of ", d), back, code, impl.OK, d.Points, blocks)
}

func TestDualDesignErrors(t *testing.T) {
	full := slices.Repeat([][]int64{upTo(32)}, 33)
	for _, c := range []struct {
		d    impl.Design
		code int64
	}{
		{designWith(1), impl.ErrRange}, {designWith(32), impl.ErrRange}, {designWith(32, full...), impl.ErrRange}, {times(designWith(2, []int64{0}), 33), impl.ErrRange}, {times(designWith(32, []int64{31}), 128), impl.ErrRange},
		{designWith(2, []int64{0}), impl.ErrState}, {designWith(32, upTo(31)), impl.ErrState}, {times(designWith(32, upTo(31)), 32), impl.ErrState}, {times(designWith(2, []int64{1}), 32), impl.ErrState}, {designWith(32, full[:32]...), impl.OK}, {designWith(1, []int64{0}), impl.OK},
	} {
		dual, code := impl.DualDesign(c.d)
		if c.code != impl.OK {
			failed(t, "dual design", code, c.code, dual)
			continue
		}
		checkDesign(t, "dual design", dual, code, impl.OK, int64(len(c.d.Blocks)), slices.Repeat([][]int64{upTo(int64(len(c.d.Blocks)))}, int(c.d.Points)))
	}
}

// slowPart returns the points that are kept, and the parts of the other blocks with new numbers.
func slowPart(d impl.Design, index int, inside bool) (int64, [][]int64, int64) {
	kept := pointsThat(upTo(d.Points), d.Blocks[index], inside)
	code := int64(impl.OK)
	if len(kept) == 0 {
		code = impl.ErrState
	}
	var blocks [][]int64
	for i, block := range d.Blocks {
		if i == index {
			continue
		}
		var part []int64
		for _, x := range pointsThat(block, d.Blocks[index], inside) {
			part = append(part, int64(slices.Index(kept, x)))
		}
		if len(part) == 0 {
			code = impl.ErrState
		}
		blocks = append(blocks, part)
	}
	return int64(len(kept)), blocks, code
}

func TestDerivedAndResidualDesigns(t *testing.T) {
	for _, d := range someDesigns() {
		for index := range d.Blocks {
			points, blocks, want := slowPart(d, index, true)
			derived, code := impl.DerivedDesign(d, int64(index))
			checkDesign(t, fmt.Sprint("derived design ", index, " of ", d), derived, code, want, points, blocks)
			points, blocks, want = slowPart(d, index, false)
			residual, code := impl.ResidualDesign(d, int64(index))
			checkDesign(t, fmt.Sprint("residual design ", index, " of ", d), residual, code, want, points, blocks)
		}
		count := int64(len(d.Blocks))
		for _, index := range []int64{-1, count, count + 1, count + 32, 128, 1 << 32, math.MinInt64, math.MaxInt64} {
			derived, one := impl.DerivedDesign(d, index)
			failed(t, fmt.Sprint("derived design ", index), one, impl.ErrRange, derived)
			residual, two := impl.ResidualDesign(d, index)
			failed(t, fmt.Sprint("residual design ", index), two, impl.ErrRange, residual)
		}
	}
}

func TestDerivedAndResidualExamples(t *testing.T) {
	d := designWith(6, []int64{0, 1, 3, 5}, []int64{0, 2, 3}, []int64{1, 4, 5}, []int64{2, 3, 4})
	derived, code := impl.DerivedDesign(d, 0)
	same(t, "derived design", []any{derived, code}, []any{designWith(4, []int64{0, 2}, []int64{1, 3}, []int64{2}), impl.OK})
	residual, code := impl.ResidualDesign(d, 0)
	same(t, "residual design", []any{residual, code}, []any{designWith(2, []int64{0}, []int64{0, 1}, []int64{1}), impl.OK})
	twice := designWith(3, []int64{0, 1}, []int64{0, 1}, []int64{0, 2})
	derived, code = impl.DerivedDesign(twice, 1)
	same(t, "derived design of a repeated block", []any{derived, code}, []any{designWith(2, []int64{0}, []int64{0, 1}), impl.OK})
	residual, code = impl.ResidualDesign(twice, 1)
	failed(t, "residual design of a repeated block", code, impl.ErrState, residual)
	one := designWith(3, []int64{1, 2})
	derived, code = impl.DerivedDesign(one, 0)
	same(t, "derived design of the only block", []any{derived, code}, []any{designWith(2), impl.OK})
	residual, code = impl.ResidualDesign(one, 0)
	same(t, "residual design of the only block", []any{residual, code}, []any{designWith(1), impl.OK})
	residual, code = impl.ResidualDesign(designWith(3, upTo(3)), 0)
	failed(t, "residual design of a block with all points", code, impl.ErrState, residual)
	derived, code = impl.DerivedDesign(designWith(3, []int64{0}, []int64{1, 2}), 0)
	failed(t, "derived design beside a block without common points", code, impl.ErrState, derived)
	derived, code = impl.DerivedDesign(times(designWith(32, upTo(32)), 128), 127)
	checkDesign(t, "derived design of the last block", derived, code, impl.OK, 32, slices.Repeat([][]int64{upTo(32)}, 127))
}

func TestSumsOfDesigns(t *testing.T) {
	var designs []impl.Design
	for i, d := range someDesigns() {
		if i%9 == 0 || i >= len(smallDesigns()) {
			designs = append(designs, d)
		}
	}
	for _, a := range designs {
		for _, b := range designs {
			blocks := slices.Concat(a.Blocks, b.Blocks)
			want := int64(impl.OK)
			switch {
			case a.Points != b.Points:
				want = impl.ErrState
			case len(blocks) > 128:
				want = impl.ErrFull
			}
			sum, code := impl.SumDesigns(a, b)
			if want != impl.OK {
				failed(t, "sum", code, want, sum)
				continue
			}
			same(t, fmt.Sprintf("sum of %.99v and %.99v", fmt.Sprint(a), fmt.Sprint(b)), []any{sum, code}, []any{inOrder(a.Points, blocks), impl.OK})
		}
	}
	for _, c := range []struct {
		first, second int
		code          int64
	}{{0, 128, 0}, {128, 0, 0}, {1, 127, 0}, {127, 1, 0}, {64, 64, 0}, {1, 128, impl.ErrFull}, {128, 1, impl.ErrFull}, {65, 64, impl.ErrFull}, {128, 128, impl.ErrFull}} {
		a, b := times(designWith(3, []int64{0, 2}), c.first), times(designWith(3, []int64{1}), c.second)
		sum, code := impl.SumDesigns(a, b)
		checkDesign(t, fmt.Sprint("sum of many blocks ", c), sum, code, c.code, 3, slices.Concat(a.Blocks, b.Blocks))
		b.Points = 4
		sum, code = impl.SumDesigns(a, b)
		failed(t, fmt.Sprint("sum of many blocks of different points ", c), code, impl.ErrState, sum)
	}
}

// relabeled returns the images of blocks.
func relabeled(blocks [][]int64, p []int64) [][]int64 {
	var images [][]int64
	for _, block := range blocks {
		images = append(images, slowImage(p, block))
	}
	return images
}

func TestRelabeledDesigns(t *testing.T) {
	for _, d := range someDesigns() {
		names := [][]int64{upTo(d.Points), reversed(d.Points), mixed(d.Points, 5), mixed(d.Points, 6)}
		if d.Points <= 3 {
			names = slowPermutations(d.Points)
		}
		for _, p := range names {
			other, code := impl.RelabelDesign(d, p)
			checkDesign(t, fmt.Sprint("names ", p, " of ", d), other, code, impl.OK, d.Points, relabeled(d.Blocks, p))
			inverse, _ := impl.InvertPermutation(p)
			back, code := impl.RelabelDesign(other, inverse)
			same(t, "names are taken back", impl.SameDesign(back, d) && code == impl.OK, true)
		}
	}
	d := designWith(4, []int64{0, 1}, []int64{0, 1}, []int64{1, 3})
	other, code := impl.RelabelDesign(d, []int64{2, 3, 1, 0})
	same(t, "names that are no involution", []any{other, code}, []any{designWith(4, []int64{0, 3}, []int64{2, 3}, []int64{2, 3}), impl.OK})
}

func TestRelabelErrors(t *testing.T) {
	four := designWith(4, []int64{0, 1}, []int64{2})
	for _, p := range [][]int64{{0, 0}, {1}, {-1, 0, 1, 2}, {0, 1, 2, 4}, {0, 1, 2, 2}, {0, 0, 1, 2}, {0, 1, 3}, {0, 1, 2, 3, 5}, {math.MinInt64, 0, 1, math.MaxInt64}, upTo(33), upTo(1000)} {
		for _, d := range append(notDesigns(), four, designWith(1), designWith(32)) {
			other, code := impl.RelabelDesign(d, p)
			failed(t, fmt.Sprintf("names %.99v", fmt.Sprint(p)), code, impl.ErrInvalid, other)
		}
	}
	for n := range int64(33) {
		for _, d := range []impl.Design{four, {Points: 1}, {Points: 31}, {Points: 32}, fano()} {
			if n == d.Points {
				continue
			}
			other, code := impl.RelabelDesign(d, mixed(n, 1))
			failed(t, fmt.Sprint("names of degree ", n), code, impl.ErrState, other)
		}
	}
}

// slowMatrix returns the incidence matrix of blocks.
func slowMatrix(points int64, blocks [][]int64) [][]int64 {
	var m [][]int64
	for x := range points {
		row := make([]int64, len(blocks))
		for i, block := range blocks {
			if slices.Contains(block, x) {
				row[i] = 1
			}
		}
		m = append(m, row)
	}
	return m
}

func TestIncidenceMatrices(t *testing.T) {
	for _, d := range someDesigns() {
		m, code := impl.IncidenceMatrix(d)
		same(t, fmt.Sprintf("matrix of %.200v", fmt.Sprint(d)), []any{m, code}, []any{slowMatrix(d.Points, d.Blocks), impl.OK})
		back, code := impl.DesignOfMatrix(m)
		same(t, "a design is restored from its matrix", impl.SameDesign(back, d) && code == impl.OK, true)
		for seed := range int64(3) {
			blocks := permuted(d.Blocks, mixed(int64(len(d.Blocks)), seed))
			back, code = impl.DesignOfMatrix(slowMatrix(d.Points, blocks))
			same(t, "a design is restored from columns in any order", impl.SameDesign(back, d) && code == impl.OK, true)
		}
	}
	m, code := impl.IncidenceMatrix(designWith(3, []int64{0, 1}, []int64{0, 1}, []int64{2}))
	same(t, "matrix", []any{m, code}, []any{[][]int64{{1, 1, 0}, {1, 1, 0}, {0, 0, 1}}, impl.OK})
	m, code = impl.IncidenceMatrix(designWith(2))
	same(t, "matrix without columns", []any{m, code}, []any{[][]int64{{}, {}}, impl.OK})
}

// columnsOf returns the points of the 1s in each column, and the code for them.
func columnsOf(m [][]int64) ([][]int64, int64) {
	code := int64(impl.OK)
	var blocks [][]int64
	for y := range m[0] {
		var block []int64
		for x := range m {
			if m[x][y] == 1 {
				block = append(block, int64(x))
			}
		}
		if len(block) == 0 {
			code = impl.ErrState
		}
		blocks = append(blocks, block)
	}
	return blocks, code
}

func TestAllSmallMatrices(t *testing.T) {
	for rows := int64(1); rows <= 4; rows++ {
		for columns := range int64(4) {
			for number := range power(2, rows*columns) {
				digits := slowDigits(number, 2, rows*columns)
				var m [][]int64
				for x := range rows {
					m = append(m, digits[x*columns:(x+1)*columns])
				}
				blocks, want := columnsOf(m)
				d, code := impl.DesignOfMatrix(m)
				checkDesign(t, fmt.Sprint("design of the matrix ", m), d, code, want, rows, blocks)
			}
		}
	}
}

func TestMatrixLimits(t *testing.T) {
	ones := repeated(128, 1)
	d, code := impl.DesignOfMatrix(slices.Repeat([][]int64{ones}, 32))
	checkDesign(t, "design of the greatest matrix", d, code, impl.OK, 32, slices.Repeat([][]int64{upTo(32)}, 128))
	d, code = impl.DesignOfMatrix(slices.Concat(slices.Repeat([][]int64{repeated(128, 0)}, 31), [][]int64{ones}))
	checkDesign(t, "design of the last row", d, code, impl.OK, 32, slices.Repeat([][]int64{{31}}, 128))
	d, code = impl.DesignOfMatrix(slices.Repeat([][]int64{nil}, 32))
	checkDesign(t, "design of a matrix without columns", d, code, impl.OK, 32, nil)
	d, code = impl.DesignOfMatrix([][]int64{{}})
	checkDesign(t, "design of one row without columns", d, code, impl.OK, 1, nil)
	for _, m := range [][][]int64{{{0}}, {{0, 1}}, {{1, 0}}, {{1, 0}, {0, 0}}, {{0, 0}, {0, 1}}, slices.Repeat([][]int64{repeated(128, 0)}, 32), {append(repeated(127, 1), 0)}} {
		d, code := impl.DesignOfMatrix(m)
		failed(t, fmt.Sprintf("design of %.99v", fmt.Sprint(m)), code, impl.ErrState, d)
	}
	for _, m := range [][][]int64{
		nil, {}, slices.Repeat([][]int64{{1}}, 33), slices.Repeat([][]int64{{0}}, 33), slices.Repeat([][]int64{nil}, 33), slices.Repeat([][]int64{{1}}, 1000), {repeated(129, 1)}, {repeated(129, 0)}, {repeated(1000, 1)}, slices.Repeat([][]int64{repeated(129, 1)}, 32),
		{{1}, {}}, {{}, {1}}, {nil, {0}}, {{1, 1}, {1}}, {{1}, {1, 1}}, {{1, 1}, {1, 1}, {1}}, {{1, 1}, {1, 1}, {1, 1, 1}}, {{1}, repeated(129, 1)}, {{0}, {0, 0}}, {{0, 0}, {0}},
		{{2}}, {{-1}}, {{1, 2}}, {{2, 1}}, {{1}, {2}}, {{1}, {-1}}, {{0}, {2}}, {{0, 0}, {0, -1}}, {{0, 0}, {1, 2}}, {{1, 1}, {1, 257}}, {{1}, {256}}, {{1}, {1 << 32}}, {{1}, {1<<32 + 1}}, {{math.MinInt64}}, {{math.MaxInt64}}, {{1}, {math.MinInt64}}, {{1}, {math.MaxInt64}},
	} {
		d, code := impl.DesignOfMatrix(m)
		failed(t, fmt.Sprintf("design of %.99v", fmt.Sprint(m)), code, impl.ErrInvalid, d)
	}
}

func TestFunctionsOfNoDesigns(t *testing.T) {
	for _, bad := range notDesigns() {
		what := fmt.Sprintf(" of %.200v", fmt.Sprint(bad))
		for name, list := range map[string]func(d impl.Design) ([]int64, int64){"ReplicationsOf": impl.ReplicationsOf, "PairCounts": impl.PairCounts, "MeetingsOf": impl.MeetingsOf} {
			numbers, code := list(bad)
			failed(t, name+what, code, impl.ErrInvalid, numbers)
		}
		parameters, code := impl.ParametersOf(bad)
		failed(t, "parameters"+what, code, impl.ErrInvalid, parameters)
		matrix, code := impl.IncidenceMatrix(bad)
		failed(t, "matrix"+what, code, impl.ErrInvalid, matrix)
		complement, code := impl.ComplementDesign(bad)
		failed(t, "complement"+what, code, impl.ErrInvalid, complement)
		dual, code := impl.DualDesign(bad)
		failed(t, "dual design"+what, code, impl.ErrInvalid, dual)
		for _, index := range []int64{-1, 0, 1, 128, 1000, math.MinInt64, math.MaxInt64} {
			derived, code := impl.DerivedDesign(bad, index)
			failed(t, "derived design"+what, code, impl.ErrInvalid, derived)
			residual, code := impl.ResidualDesign(bad, index)
			failed(t, "residual design"+what, code, impl.ErrInvalid, residual)
		}
		for _, n := range []int64{0, 1, 3, 4, 5, 31, 32} {
			other, code := impl.RelabelDesign(bad, upTo(n))
			failed(t, "names"+what, code, impl.ErrInvalid, other)
		}
		for _, d := range []impl.Design{designWith(1), designWith(4, []int64{0}), designWith(32), times(designWith(4, []int64{0}), 128), bad} {
			sum, code := impl.SumDesigns(d, bad)
			failed(t, "sum"+what, code, impl.ErrInvalid, sum)
			sum, code = impl.SumDesigns(bad, d)
			failed(t, "sum"+what, code, impl.ErrInvalid, sum)
		}
	}
}
