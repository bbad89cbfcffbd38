package tests

import (
	"fmt"
	"math"
	"slices"
	"testing"

	"loop.example/g00920/impl"
)

// slowPermutations returns all permutations of a degree in increasing order.
func slowPermutations(n int64) [][]int64 {
	all := [][]int64{nil}
	for range n {
		var longer [][]int64
		for _, p := range all {
			for x := range n {
				if !slices.Contains(p, x) {
					longer = append(longer, append(slices.Clone(p), x))
				}
			}
		}
		all = longer
	}
	return all
}

// mixed returns a permutation that depends on the degree and on a seed.
func mixed(n, seed int64) []int64 {
	p := upTo(n)
	for i := n - 1; i > 0; i-- {
		seed = (seed*1103515245 + 12345) % (1 << 31)
		j := seed / 65536 % (i + 1)
		p[i], p[j] = p[j], p[i]
	}
	return p
}

// somePermutations are all permutations of the degrees 0 to 5, and some of the greater degrees.
func somePermutations() [][]int64 {
	var some [][]int64
	for n := range int64(6) {
		some = append(some, slowPermutations(n)...)
	}
	for n := int64(6); n <= impl.MaxDegree; n++ {
		some = append(some, upTo(n), reversed(n), append(upTo(n)[1:], 0), mixed(n, n), mixed(n, 100+n), mixed(n, 200+n))
	}
	return some
}

// notPermutations are lists that break one of the conditions each.
func notPermutations() [][]int64 {
	return [][]int64{
		{1}, {-1}, {math.MinInt64}, {math.MaxInt64}, {0, 0}, {1, 1}, {0, 2}, {2, 1}, {-1, 0}, {1, 2}, {1, 2, 3}, {0, 1, 1}, {0, 1, 3}, {2, 0, 2}, {1, -2, 0},
		append(upTo(31), 32), append(upTo(31), 0), append([]int64{-1}, upTo(31)...), upTo(33), reversed(33), append(upTo(32), 0), upTo(64), upTo(100000),
	}
}

func slowCompose(p, q []int64) []int64 {
	var composed []int64
	for x := range p {
		composed = append(composed, q[p[x]])
	}
	return composed
}

func slowInverse(p []int64) []int64 {
	var inverse []int64
	for x := range p {
		inverse = append(inverse, int64(slices.Index(p, int64(x))))
	}
	return inverse
}

func TestValidPermutation(t *testing.T) {
	same(t, "limits", []int64{impl.MaxDegree, impl.MaxRanked}, []int64{32, 12})
	for _, p := range somePermutations() {
		same(t, fmt.Sprint("validity of ", p), impl.ValidPermutation(p), true)
	}
	for _, p := range notPermutations() {
		same(t, fmt.Sprintf("validity of %.99v", fmt.Sprint(p)), impl.ValidPermutation(p), false)
	}
	valid := 0
	for number := range power(5, 4) {
		// The digits to the base 5 also contain a number that is too great.
		if impl.ValidPermutation(slowDigits(number, 5, 4)) {
			valid++
		}
	}
	same(t, "permutations of degree 4", valid, 24)
}

func TestIdentities(t *testing.T) {
	for n := int64(-5); n <= 40; n++ {
		p, code := impl.IdentityPermutation(n)
		if n < 0 || n > 32 {
			failed(t, fmt.Sprint("identity of degree ", n), code, impl.ErrRange, p)
			continue
		}
		same(t, fmt.Sprint("identity of degree ", n), []any{p, code}, []any{upTo(n), impl.OK})
	}
	for _, n := range []int64{math.MinInt64, math.MaxInt64, 1 << 32} {
		p, code := impl.IdentityPermutation(n)
		failed(t, fmt.Sprint("identity of degree ", n), code, impl.ErrRange, p)
	}
}

func mustCompose(t *testing.T, p, q []int64) []int64 {
	t.Helper()
	composed, code := impl.Compose(p, q)
	if code != impl.OK {
		t.Fatalf("%v composed with %v: got the code %d", p, q, code)
	}
	return composed
}

func mustInvert(t *testing.T, p []int64) []int64 {
	t.Helper()
	inverse, code := impl.InvertPermutation(p)
	if code != impl.OK {
		t.Fatalf("inverse of %v: got the code %d", p, code)
	}
	return inverse
}

func TestComposeSmallDegrees(t *testing.T) {
	for n := range int64(5) {
		all := slowPermutations(n)
		for _, p := range all {
			for _, q := range all {
				what := fmt.Sprint(p, " composed with ", q)
				pq := mustCompose(t, p, q)
				same(t, what, pq, slowCompose(p, q))
				same(t, what+", inverted", mustInvert(t, pq), mustCompose(t, mustInvert(t, q), mustInvert(t, p)))
				same(t, what+", sign", impl.SignOf(pq), impl.SignOf(p)*impl.SignOf(q))
				for _, r := range all {
					same(t, what+" and another one", mustCompose(t, pq, r), mustCompose(t, p, mustCompose(t, q, r)))
				}
			}
		}
	}
}

func TestComposeAllDegrees(t *testing.T) {
	for _, p := range somePermutations() {
		n := int64(len(p))
		what := fmt.Sprint(p)
		q := mixed(n, 7)
		same(t, what+" composed", mustCompose(t, p, q), slowCompose(p, q))
		same(t, what+" composed after another one", mustCompose(t, q, p), slowCompose(q, p))
		same(t, what+" and the identity", [][]int64{mustCompose(t, p, upTo(n)), mustCompose(t, upTo(n), p)}, [][]int64{p, p})
		inverse := mustInvert(t, p)
		same(t, what+" inverted", inverse, slowInverse(p))
		same(t, what+" and its inverse", [][]int64{mustCompose(t, p, inverse), mustCompose(t, inverse, p), mustInvert(t, inverse)}, [][]int64{upTo(n), upTo(n), p})
	}
}

func TestComposeErrors(t *testing.T) {
	degrees := [][]int64{nil, {0}, {1, 0}, {1, 2, 0}, reversed(31), reversed(32)}
	for i, p := range degrees {
		for j, q := range degrees {
			composed, code := impl.Compose(p, q)
			if i == j {
				same(t, "equal degrees", code, impl.OK)
				continue
			}
			failed(t, fmt.Sprint(p, " and ", q, " of other degrees"), code, impl.ErrRange, composed)
		}
	}
	for _, bad := range notPermutations() {
		for _, p := range append(degrees, bad) {
			first, one := impl.Compose(p, bad)
			second, two := impl.Compose(bad, p)
			failed(t, "not a permutation second", one, impl.ErrInvalid, first)
			failed(t, "not a permutation first", two, impl.ErrInvalid, second)
		}
		inverse, code := impl.InvertPermutation(bad)
		failed(t, "inverse", code, impl.ErrInvalid, inverse)
	}
}

func TestPowersOfPermutations(t *testing.T) {
	for _, p := range somePermutations() {
		n := int64(len(p))
		forward, back := upTo(n), upTo(n)
		inverse := slowInverse(p)
		for e := range int64(40) {
			up, one := impl.PowerPermutation(p, e)
			down, two := impl.PowerPermutation(p, -e)
			same(t, fmt.Sprint(p, " to the powers ", e, " and ", -e), []any{up, one, down, two}, []any{forward, impl.OK, back, impl.OK})
			forward, back = slowCompose(forward, p), slowCompose(back, inverse)
		}
	}
}

func TestGreatPowersOfPermutations(t *testing.T) {
	// The cycles have the lengths 5, 7, 8 and 12.
	p := append(append(append(append(upTo(5)[1:], 0), 6, 7, 8, 9, 10, 11, 5), 13, 14, 15, 16, 17, 18, 19, 12), 21, 22, 23, 24, 25, 26, 27, 28, 29, 30, 31, 20)
	for _, p := range [][]int64{nil, {0}, {1, 0}, {1, 2, 0}, p, mixed(32, 1), reversed(32)} {
		inverse := slowInverse(p)
		up, down := upTo(int64(len(p))), upTo(int64(len(p)))
		for range 999999 {
			up = compose(up, p)
		}
		for range 999999 {
			down = compose(down, inverse)
		}
		for _, c := range []struct {
			e    int64
			want []int64
		}{{999999, up}, {1000000, slowCompose(up, p)}, {-999999, down}, {-1000000, slowCompose(down, inverse)}} {
			got, code := impl.PowerPermutation(p, c.e)
			same(t, fmt.Sprint(p, " to the power ", c.e), []any{got, code}, []any{c.want, impl.OK})
		}
		for _, e := range []int64{1000001, -1000001, 1 << 32, -(1 << 32), math.MaxInt64, -math.MaxInt64, math.MinInt64} {
			got, code := impl.PowerPermutation(p, e)
			failed(t, fmt.Sprint(p, " to the power ", e), code, impl.ErrRange, got)
		}
	}
	for _, bad := range notPermutations() {
		for _, e := range []int64{0, 1, -1, 2, 1000000, 1000001, math.MinInt64} {
			got, code := impl.PowerPermutation(bad, e)
			failed(t, fmt.Sprint("not a permutation to the power ", e), code, impl.ErrInvalid, got)
		}
	}
}

// compose is slowCompose in the place of the first list.
func compose(p, q []int64) []int64 {
	for x := range p {
		p[x] = q[p[x]]
	}
	return p
}

func slowCycles(p []int64) [][]int64 {
	var cycles [][]int64
	for x := range int64(len(p)) {
		cycle := []int64{x}
		for y := p[x]; y != x; y = p[y] {
			cycle = append(cycle, y)
		}
		if slices.Min(cycle) == x {
			cycles = append(cycles, cycle)
		}
	}
	return cycles
}

// slowSign is 1 if an even number of pairs are in the wrong order, and -1 otherwise.
func slowSign(p []int64) int64 {
	sign := int64(1)
	for i := range p {
		for j := range i {
			if p[j] > p[i] {
				sign = -sign
			}
		}
	}
	return sign
}

func TestCycles(t *testing.T) {
	for _, p := range somePermutations() {
		what := fmt.Sprint(" of ", p)
		n := int64(len(p))
		cycles := slowCycles(p)
		same(t, "cycles"+what, impl.CyclesOf(p), cycles)
		var lengths []int64
		for _, cycle := range cycles {
			lengths = append(lengths, int64(len(cycle)))
		}
		slices.SortFunc(lengths, func(a, b int64) int { return int(b - a) })
		same(t, "cycle type"+what, impl.CycleType(p), lengths)
		same(t, "sign"+what, impl.SignOf(p), slowSign(p))
		order := int64(1)
		for q := slices.Clone(p); !slices.Equal(q, upTo(n)); q = slowCompose(q, p) {
			order++
		}
		same(t, "order"+what, impl.OrderOfPermutation(p), order)
		slices.Reverse(cycles)
		back, code := impl.PermutationOfCycles(n, cycles)
		same(t, "from the cycles"+what, []any{back, code}, []any{p, impl.OK})
	}
	for _, bad := range notPermutations() {
		same(t, "not a permutation", []any{impl.CyclesOf(bad), impl.CycleType(bad), impl.OrderOfPermutation(bad), impl.SignOf(bad)}, []any{[][]int64{}, []int64{}, 0, 0})
	}
}

func TestCycleExample(t *testing.T) {
	p := []int64{1, 2, 0, 4, 3}
	same(t, "example", []any{impl.CyclesOf(p), impl.CycleType(p), impl.OrderOfPermutation(p), impl.SignOf(p)}, []any{[][]int64{{0, 1, 2}, {3, 4}}, []int64{3, 2}, 6, -1})
}

func TestPermutationOfCycles(t *testing.T) {
	for _, c := range []struct {
		n      int64
		cycles [][]int64
		want   []int64
	}{
		{0, nil, nil}, {0, [][]int64{}, nil}, {1, nil, []int64{0}}, {1, [][]int64{{0}}, []int64{0}}, {4, nil, upTo(4)}, {4, [][]int64{{2}}, upTo(4)},
		{4, [][]int64{{3, 1}}, []int64{0, 3, 2, 1}}, {5, [][]int64{{4, 0, 2}}, []int64{2, 1, 4, 3, 0}}, {5, [][]int64{{4, 3}, {1}, {2, 0}}, []int64{2, 1, 0, 4, 3}},
		{32, [][]int64{reversed(32)}, append([]int64{31}, upTo(31)...)}, {32, [][]int64{{31, 0}}, append(append([]int64{31}, upTo(31)[1:]...), 0)},
	} {
		p, code := impl.PermutationOfCycles(c.n, c.cycles)
		same(t, fmt.Sprint("degree ", c.n, " with the cycles ", c.cycles), []any{p, code}, []any{c.want, impl.OK})
	}
	for _, c := range []struct {
		n      int64
		cycles [][]int64
	}{
		{-1, nil}, {33, nil}, {math.MinInt64, nil}, {math.MaxInt64, nil}, {33, [][]int64{{0, 1}}}, {-1, [][]int64{{}}},
		{0, [][]int64{{}}}, {0, [][]int64{{0}}}, {0, [][]int64{{-1}}}, {1, [][]int64{{1}}}, {5, [][]int64{{}}}, {5, [][]int64{{0, 1}, {}}}, {5, [][]int64{{}, {0, 1}}},
		{5, [][]int64{{0, 1}, nil, {2, 3}}}, {5, [][]int64{{5}}}, {5, [][]int64{{0, 5}}}, {5, [][]int64{{5, 0}}}, {5, [][]int64{{-1, 0}}}, {5, [][]int64{{0, -1}}},
		{5, [][]int64{{0, 1}, {1, 2}}}, {5, [][]int64{{0, 1}, {2, 0}}}, {5, [][]int64{{0, 0}}}, {5, [][]int64{{0}, {0}}}, {5, [][]int64{{0, 1, 0}}}, {5, [][]int64{{3, 4, 4}}},
		{5, [][]int64{{0, math.MaxInt64}}}, {5, [][]int64{{math.MinInt64}}}, {32, [][]int64{upTo(33)}}, {32, [][]int64{{32}}}, {5, [][]int64{upTo(5), {0}}}, {5, [][]int64{upTo(100000)}},
	} {
		p, code := impl.PermutationOfCycles(c.n, c.cycles)
		failed(t, fmt.Sprintf("degree %d with the cycles %.99v", c.n, fmt.Sprint(c.cycles)), code, impl.ErrRange, p)
	}
}

func TestApplySet(t *testing.T) {
	for n := range int64(6) {
		for _, p := range slowPermutations(n) {
			for bits := range int64(1) << n {
				var set, image []int64
				for x := range n {
					if bits>>x&1 == 1 {
						set, image = append(set, x), append(image, p[x])
					}
				}
				slices.Sort(image)
				got, code := impl.ApplySet(p, set)
				same(t, fmt.Sprint("image of ", set, " by ", p), []any{got, code}, []any{image, impl.OK})
			}
		}
	}
	for _, p := range [][]int64{mixed(32, 3), mixed(32, 4), reversed(32)} {
		all, one := impl.ApplySet(p, upTo(32))
		two, code := impl.ApplySet(p, []int64{0, 31})
		want := []int64{min(p[0], p[31]), max(p[0], p[31])}
		same(t, fmt.Sprint("images by ", p), []any{all, one, two, code}, []any{upTo(32), impl.OK, want, impl.OK})
	}
}

func TestApplySetErrors(t *testing.T) {
	for _, p := range [][]int64{nil, {0}, {1, 0}, {1, 2, 0}, reversed(31), reversed(32)} {
		n := int64(len(p))
		for _, set := range [][]int64{{-1}, {n}, {n - 1, n}, {1, 0}, {0, 0}, {0, 1, 1}, {-1, 0}, {32}, {math.MinInt64, math.MaxInt64}, upTo(n + 1), upTo(100)} {
			image, code := impl.ApplySet(p, set)
			failed(t, fmt.Sprint("image of ", set, " by ", p), code, impl.ErrRange, image)
		}
	}
	for _, bad := range notPermutations() {
		for _, set := range [][]int64{nil, {0}, {0, 1}, {1, 0}, {-1}, {99}} {
			image, code := impl.ApplySet(bad, set)
			failed(t, fmt.Sprint("not a permutation applied to ", set), code, impl.ErrInvalid, image)
		}
	}
}

func TestRanks(t *testing.T) {
	for n := range int64(8) {
		all := slowPermutations(n)
		for i, p := range all {
			rank, one := impl.RankPermutation(p)
			back, two := impl.UnrankPermutation(n, int64(i))
			same(t, fmt.Sprint("rank ", i, " of degree ", n), []any{rank, one, back, two}, []any{i, impl.OK, p, impl.OK})
		}
		for _, rank := range []int64{-1, int64(len(all)), int64(len(all)) + 1, math.MinInt64, math.MaxInt64} {
			p, code := impl.UnrankPermutation(n, rank)
			failed(t, fmt.Sprint("rank ", rank, " of degree ", n), code, impl.ErrRange, p)
		}
	}
	rank, code := impl.RankPermutation([]int64{1, 2, 0})
	same(t, "example", []int64{rank, code}, []int64{3, impl.OK})
}

// slowRank counts, for each place, the permutations that are less there for the first time.
func slowRank(p []int64) int64 {
	rank := int64(0)
	for i, x := range p {
		less, orders := int64(0), int64(1)
		for j, y := range p[i+1:] {
			orders *= int64(j + 1)
			if y < x {
				less++
			}
		}
		rank += less * orders
	}
	return rank
}

func TestRanksOfGreatDegrees(t *testing.T) {
	last := int64(5039)
	for n := int64(8); n <= 12; n++ {
		last = (last+1)*n - 1
		for _, p := range [][]int64{upTo(n), reversed(n), mixed(n, 1), mixed(n, 2), mixed(n, 3), append(upTo(n)[1:], 0), append([]int64{n - 1}, upTo(n-1)...)} {
			rank, one := impl.RankPermutation(p)
			back, two := impl.UnrankPermutation(n, slowRank(p))
			same(t, fmt.Sprint("rank of ", p), []any{rank, one, back, two}, []any{slowRank(p), impl.OK, p, impl.OK})
		}
		greatest, one := impl.UnrankPermutation(n, last)
		rank, two := impl.RankPermutation(reversed(n))
		same(t, fmt.Sprint("the last rank of degree ", n), []any{greatest, one, rank, two}, []any{reversed(n), impl.OK, last, impl.OK})
		for _, rank := range []int64{-1, last + 1, last + 2, math.MinInt64, math.MaxInt64} {
			p, code := impl.UnrankPermutation(n, rank)
			failed(t, fmt.Sprint("rank ", rank, " of degree ", n), code, impl.ErrRange, p)
		}
	}
}

func TestRankErrors(t *testing.T) {
	for n := int64(13); n <= 32; n++ {
		for _, p := range [][]int64{upTo(n), reversed(n), mixed(n, 5)} {
			rank, code := impl.RankPermutation(p)
			failed(t, fmt.Sprint("rank of ", p), code, impl.ErrRange, rank)
		}
	}
	for _, n := range []int64{-1, 13, 14, 32, 33, math.MinInt64, math.MaxInt64} {
		for _, rank := range []int64{0, 1, -1, 479001600, math.MinInt64, math.MaxInt64} {
			p, code := impl.UnrankPermutation(n, rank)
			failed(t, fmt.Sprint("rank ", rank, " of degree ", n), code, impl.ErrRange, p)
		}
	}
	for _, bad := range notPermutations() {
		rank, code := impl.RankPermutation(bad)
		failed(t, "rank of what is not a permutation", code, impl.ErrInvalid, rank)
	}
}

func TestDegreeZero(t *testing.T) {
	for _, p := range [][]int64{nil, {}} {
		identity, a := impl.IdentityPermutation(0)
		composed, b := impl.Compose(p, p)
		inverse, c := impl.InvertPermutation(p)
		none, d := impl.PermutationOfCycles(0, nil)
		image, e := impl.ApplySet(p, nil)
		rank, f := impl.RankPermutation(p)
		first, g := impl.UnrankPermutation(0, 0)
		second, h := impl.UnrankPermutation(0, 1)
		same(t, "codes of degree 0", []int64{a, b, c, d, e, f, g, h}, []int64{0, 0, 0, 0, 0, 0, 0, impl.ErrRange})
		same(t, "lists of degree 0", [][]int64{identity, composed, inverse, none, image, first, second}, make([][]int64, 7))
		same(t, "of degree 0", []any{impl.ValidPermutation(p), rank, impl.CyclesOf(p), impl.CycleType(p), impl.OrderOfPermutation(p), impl.SignOf(p)}, []any{true, 0, [][]int64{}, []int64{}, 1, 1})
		for _, e := range []int64{0, 1, -1, 2, -2, 1000000, -1000000} {
			power, code := impl.PowerPermutation(p, e)
			same(t, fmt.Sprint("the power ", e, " of degree 0"), []any{power, code}, []any{[]int64{}, impl.OK})
		}
		for _, e := range []int64{1000001, -1000001, math.MinInt64} {
			power, code := impl.PowerPermutation(p, e)
			failed(t, fmt.Sprint("the power ", e, " of degree 0"), code, impl.ErrRange, power)
		}
	}
}
