package tests

import (
	"fmt"
	"math"
	"slices"
	"testing"

	"loop.example/g00920/impl"
)

// family is sets of residues modulo n.
type family struct {
	n    int64
	sets [][]int64
}

// sortedPart returns the first numbers of a list in ascending order.
func sortedPart(list []int64, count int64) []int64 {
	part := slices.Clone(list[:count])
	slices.Sort(part)
	return part
}

// knownFamilies are difference families.
func knownFamilies() []family {
	return []family{
		{7, [][]int64{{0, 1, 3}}}, {7, [][]int64{{2, 3, 5}}}, {7, [][]int64{{0, 1, 3}, {0, 1, 3}}}, {7, [][]int64{{0, 1, 3}, {0, 4, 6}}}, {13, [][]int64{{0, 1, 4}, {0, 2, 7}}}, {13, [][]int64{{0, 1, 3, 9}}}, {11, [][]int64{squaresInOrder(11)}}, {19, [][]int64{{0, 1, 6}, {0, 2, 10}, {0, 3, 7}}},
		{25, [][]int64{{0, 1, 3}, {0, 4, 11}, {0, 5, 13}, {0, 6, 15}}}, {21, [][]int64{{0, 1, 4, 14, 16}}}, {31, [][]int64{{1, 5, 11, 24, 25, 27}}}, {31, [][]int64{squaresInOrder(31)}}, {15, [][]int64{{0, 1, 2, 4, 5, 8, 10}}}, {5, [][]int64{{0, 1}, {0, 2}}}, {5, [][]int64{{0, 1, 4}, {0, 2}, {0, 1}, {0, 3}, {2}}},
		{32, [][]int64{upTo(32)}}, {32, [][]int64{upTo(31)}}, {16, slices.Repeat([][]int64{upTo(16)}, 8)}, {2, [][]int64{{0, 1}}}, {3, [][]int64{{1, 2}}}, {2, nil}, {5, nil}, {32, nil}, {32, [][]int64{{31}}}, {32, [][]int64{{0}, {31}, {31}, {7}}}, {16, slices.Repeat([][]int64{{3}}, 8)}, {9, [][]int64{{0, 1}, {0, 2}, {0, 3}, {0, 4}}},
	}
}

func squaresInOrder(p int64) []int64 {
	squares := squaresOf(p)
	return sortedPart(squares, int64(len(squares)))
}

// smallFamilies are all families of few small residues.
func smallFamilies() []family {
	var list []family
	for n := int64(1); n <= 9; n++ {
		sets := subsetsOf(n)[1:]
		list = append(list, family{n: n})
		for _, first := range sets {
			list = append(list, family{n, [][]int64{first}})
			for _, second := range sets {
				if n <= 5 {
					list = append(list, family{n, [][]int64{first, second}})
				}
			}
		}
	}
	return list
}

// mixedFamilies are families that follow no rule, up to the limits.
func mixedFamilies() []family {
	var list []family
	for _, n := range []int64{1, 2, 10, 15, 16, 17, 18, 25, 26, 31, 32} {
		for count := range int64(impl.MaxBase + 1) {
			var sets [][]int64
			for i := range count {
				sets = append(sets, sortedPart(mixed(n, 10*n+i), 1+(3*i+count)%n))
			}
			list = append(list, family{n, sets})
		}
	}
	return list
}

func someFamilies() []family { return slices.Concat(knownFamilies(), smallFamilies(), mixedFamilies()) }

// slowDifferences counts the differences of all two elements at different places.
func slowDifferences(f family) []int64 {
	counts := make([]int64, f.n)
	for _, set := range f.sets {
		for i, a := range set {
			for j, b := range set {
				if i != j {
					counts[(a-b+f.n)%f.n]++
				}
			}
		}
	}
	return counts
}

// slowLambda returns the number of each difference, and the code.
func slowLambda(f family) []int64 {
	counts := slowDifferences(f)
	if f.n < 2 || slices.Min(counts[1:]) != slices.Max(counts[1:]) {
		return []int64{0, impl.ErrState}
	}
	return []int64{counts[1], impl.OK}
}

func TestDifferences(t *testing.T) {
	for _, f := range someFamilies() {
		counts, code := impl.DifferenceTable(f.n, f.sets)
		same(t, fmt.Sprint("differences of ", f), []any{counts, code}, []any{slowDifferences(f), impl.OK})
		lambda, code := impl.FamilyLambda(f.n, f.sets)
		same(t, fmt.Sprint("lambda of ", f), []int64{lambda, code}, slowLambda(f))
	}
	for _, f := range knownFamilies() {
		_, code := impl.FamilyLambda(f.n, f.sets)
		same(t, fmt.Sprint("code for ", f), code, impl.OK)
	}
}

func TestDifferenceExamples(t *testing.T) {
	same(t, "limit", impl.MaxBase, 8)
	counts, code := impl.DifferenceTable(6, [][]int64{{0, 3}, {0, 1, 3}, {5}})
	same(t, "differences", []any{counts, code}, []any{[]int64{0, 1, 1, 4, 1, 1}, impl.OK})
	counts, code = impl.DifferenceTable(1, slices.Repeat([][]int64{{0}}, impl.MaxBase))
	same(t, "differences modulo 1", []any{counts, code}, []any{[]int64{0}, impl.OK})
	for _, c := range []struct {
		n            int64
		sets         [][]int64
		lambda, code int64
	}{
		{2, [][]int64{{0, 1}}, 2, impl.OK}, {3, [][]int64{{0, 1}}, 1, impl.OK}, {3, [][]int64{{0, 1, 2}}, 3, impl.OK}, {4, [][]int64{{0, 1}}, 0, impl.ErrState}, {4, [][]int64{{3}}, 0, impl.OK}, {7, [][]int64{{0, 1, 3}}, 1, impl.OK}, {7, [][]int64{{0, 1, 2}}, 0, impl.ErrState},
		{2, nil, 0, impl.OK}, {1, nil, 0, impl.ErrState}, {1, [][]int64{{0}}, 0, impl.ErrState}, {7, [][]int64{{0, 1, 3}, {1, 2, 4}}, 2, impl.OK}, {32, [][]int64{upTo(32)}, 32, impl.OK}, {32, [][]int64{upTo(31)}, 30, impl.OK}, {32, [][]int64{upTo(30)}, 0, impl.ErrState}, {32, slices.Repeat([][]int64{upTo(32)}, 8), 256, impl.OK},
	} {
		lambda, code := impl.FamilyLambda(c.n, c.sets)
		same(t, fmt.Sprint("lambda modulo ", c.n, " of ", c.sets), []int64{lambda, code}, []int64{c.lambda, c.code})
	}
}

// checkDeveloped checks the design of the translates of a family with at most MaxBlocks of them.
func checkDeveloped(t *testing.T, f family) {
	t.Helper()
	d, code := impl.DevelopFamily(f.n, f.sets)
	same(t, fmt.Sprint("design of ", f), []any{d, code}, []any{developed(f.n, f.sets...), impl.OK})
	same(t, fmt.Sprint("design of ", f, " is valid and cyclic"), []bool{impl.ValidDesign(d), impl.IsCyclicDesign(d)}, []bool{true, true})
	if len(f.sets) == 0 {
		return
	}
	count, size := int64(len(f.sets)), int64(len(f.sets[0]))
	alike := !slices.ContainsFunc(f.sets, func(set []int64) bool { return int64(len(set)) != size })
	lambda, state := impl.FamilyLambda(f.n, f.sets)
	parameters, code := impl.ParametersOf(d)
	if state != impl.OK || !alike || size < 2 {
		failed(t, fmt.Sprint("parameters of the design of ", f), code, impl.ErrState, parameters)
		return
	}
	want := impl.Parameters{V: f.n, B: f.n * count, R: size * count, K: size, Lambda: lambda}
	same(t, fmt.Sprint("parameters of the design of ", f), []any{parameters, code}, []any{want, impl.OK})
}

func TestDevelopedFamilies(t *testing.T) {
	for _, f := range someFamilies() {
		if f.n*int64(len(f.sets)) <= impl.MaxBlocks {
			checkDeveloped(t, f)
			continue
		}
		d, code := impl.DevelopFamily(f.n, f.sets)
		failed(t, fmt.Sprint("design of ", f), code, impl.ErrFull, d)
	}
	for n := int64(1); n <= impl.MaxPoints; n++ {
		for count := range int64(impl.MaxBase + 1) {
			d, code := impl.DevelopFamily(n, slices.Repeat([][]int64{{n - 1}}, int(count)))
			if n*count <= 128 {
				same(t, fmt.Sprint(count, " sets modulo ", n), []int64{int64(len(d.Blocks)), code}, []int64{n * count, impl.OK})
			} else {
				failed(t, fmt.Sprint(count, " sets modulo ", n), code, impl.ErrFull, d)
			}
		}
	}
	d, code := impl.DevelopFamily(4, [][]int64{{1, 3}, {0}})
	same(t, "design with equal blocks", []any{d, code}, []any{designWith(4, []int64{0}, []int64{0, 2}, []int64{0, 2}, []int64{1}, []int64{1, 3}, []int64{1, 3}, []int64{2}, []int64{3}), impl.OK})
}

// notModuli are numbers modulo which there are no sets.
func notModuli() []int64 {
	return []int64{math.MinInt64, -1 << 32, -32, -7, -1, 0, 33, 34, 64, 128, 256, 1<<32 + 7, 1 << 32, math.MaxInt64}
}

// notResidues are lists that are no sets of residues modulo n.
func notResidues(n int64) [][]int64 {
	return slices.DeleteFunc(notSetsOf(n), func(set []int64) bool { return slowIsBlock(set, n) })
}

// notFamilies are families that break one of the conditions each.
func notFamilies() []family {
	var list []family
	for _, n := range notModuli() {
		for _, sets := range [][][]int64{nil, {nil}, {{0}}, {{0, 1, 3}}, slices.Repeat([][]int64{{0}}, 9)} {
			list = append(list, family{n, sets})
		}
	}
	for _, n := range []int64{1, 2, 7, 16, 17, 31, 32} {
		for _, bad := range append(notResidues(n), nil, []int64{}) {
			list = append(list, family{n, [][]int64{bad}}, family{n, [][]int64{bad, {0}, {0}}}, family{n, [][]int64{{0}, bad, {n - 1}}}, family{n, [][]int64{upTo(n), bad}}, family{n, append(slices.Repeat([][]int64{{0}}, 7), bad)})
		}
		list = append(list, family{n, slices.Repeat([][]int64{{0}}, 9)}, family{n, slices.Repeat([][]int64{upTo(n)}, 10)}, family{n, slices.Repeat([][]int64{{n - 1}}, 1000)}, family{n, make([][]int64, 9)})
	}
	return list
}

func TestFamilyErrors(t *testing.T) {
	for _, f := range notFamilies() {
		what := fmt.Sprintf("%.200v", fmt.Sprint(f))
		counts, code := impl.DifferenceTable(f.n, f.sets)
		failed(t, "differences of "+what, code, impl.ErrInvalid, counts)
		lambda, code := impl.FamilyLambda(f.n, f.sets)
		failed(t, "lambda of "+what, code, impl.ErrInvalid, lambda)
		d, code := impl.DevelopFamily(f.n, f.sets)
		failed(t, "design of "+what, code, impl.ErrInvalid, d)
	}
}

// residueSets are a number and sets of residues modulo it: all for small numbers, and some for greater ones.
func residueSets() []family {
	var list []family
	for n := int64(1); n <= 9; n++ {
		list = append(list, family{n, subsetsOf(n)})
	}
	for _, n := range []int64{15, 16, 24, 30, 31, 32} {
		sets := [][]int64{nil, {0}, {n - 1}, {0, n - 1}, upTo(n), upTo(n - 1), upTo(n)[1:], {0, n / 2}, {1, 1 + n/2}}
		for seed := range n {
			sets = append(sets, sortedPart(mixed(n, seed), seed))
		}
		list = append(list, family{n, sets})
	}
	return list
}

// slowChanged returns the set of the residues that a change makes of the elements of a set.
func slowChanged(n int64, set []int64, change func(x int64) int64) []int64 {
	var list []int64
	for _, x := range set {
		list = append(list, change(x)%n)
	}
	slices.Sort(list)
	return slices.Compact(list)
}

func slowTranslate(n int64, set []int64, by int64) []int64 {
	return slowChanged(n, set, func(x int64) int64 { return x + by })
}

func slowMultiple(n int64, set []int64, by int64) []int64 {
	return slowChanged(n, set, func(x int64) int64 { return x * by })
}

func TestTranslatedSets(t *testing.T) {
	for _, f := range residueSets() {
		for _, set := range f.sets {
			for by := range f.n {
				moved, code := impl.TranslateSet(f.n, set, by)
				same(t, fmt.Sprint(set, " plus ", by, " modulo ", f.n), []any{moved, code}, []any{slowTranslate(f.n, set, by), impl.OK})
				back, code := impl.TranslateSet(f.n, moved, (f.n-by)%f.n)
				same(t, fmt.Sprint(moved, " minus ", by, " modulo ", f.n), []any{back, code}, []any{set, impl.OK})
			}
		}
	}
	moved, code := impl.TranslateSet(32, []int64{0, 1, 31}, 31)
	same(t, "example", []any{moved, code}, []any{[]int64{0, 30, 31}, impl.OK})
}

func TestMultipliedSets(t *testing.T) {
	for _, f := range residueSets() {
		for _, set := range f.sets {
			for by := range f.n {
				what := fmt.Sprint(set, " times ", by, " modulo ", f.n)
				product, code := impl.MultiplySet(f.n, set, by)
				if slowGcd(by, f.n) != 1 {
					failed(t, what, code, impl.ErrState, product)
					continue
				}
				same(t, what, []any{product, code}, []any{slowMultiple(f.n, set, by), impl.OK})
				same(t, "size of "+what, len(product), len(set))
			}
		}
	}
	for _, c := range []struct {
		n    int64
		set  []int64
		by   int64
		want []int64
		code int64
	}{
		{1, []int64{0}, 0, []int64{0}, impl.OK}, {1, nil, 0, nil, impl.OK}, {2, []int64{1}, 0, nil, impl.ErrState}, {2, []int64{1}, 1, []int64{1}, impl.OK}, {8, nil, 2, nil, impl.ErrState}, {8, nil, 3, nil, impl.OK}, {32, []int64{0, 1, 2}, 31, []int64{0, 30, 31}, impl.OK}, {31, upTo(31), 30, upTo(31), impl.OK},
		{9, []int64{0, 3, 6}, 3, nil, impl.ErrState}, {9, []int64{1}, 6, nil, impl.ErrState}, {9, []int64{1, 3}, 4, []int64{3, 4}, impl.OK},
	} {
		product, code := impl.MultiplySet(c.n, c.set, c.by)
		same(t, fmt.Sprint(c.set, " times ", c.by, " modulo ", c.n), []any{product, code}, []any{c.want, c.code})
	}
}

// notResiduesBy are numbers that are no residues modulo n.
func notResiduesBy(n int64) []int64 {
	return []int64{math.MinInt64, -1 << 32, -n, -1, n, n + 1, 2 * n, 33, 64, 256, 1 << 32, 1<<32 + 1, math.MaxInt64}
}

func TestChangeErrors(t *testing.T) {
	changes := map[string]func(n int64, set []int64, by int64) ([]int64, int64){"sum": impl.TranslateSet, "product": impl.MultiplySet}
	for name, change := range changes {
		for _, f := range residueSets() {
			for _, by := range notResiduesBy(f.n) {
				for _, set := range [][]int64{nil, {0}, upTo(f.n)} {
					list, code := change(f.n, set, by)
					failed(t, fmt.Sprint(name, " of ", set, " and ", by, " modulo ", f.n), code, impl.ErrRange, list)
				}
			}
			for _, bad := range notResidues(f.n) {
				for _, by := range []int64{0, 1, 2, f.n - 1, f.n, -1, math.MaxInt64} {
					list, code := change(f.n, bad, by)
					failed(t, fmt.Sprint(name, " of ", bad, " and ", by, " modulo ", f.n), code, impl.ErrInvalid, list)
				}
			}
		}
		for _, n := range notModuli() {
			for _, by := range []int64{0, 1, -1, n, math.MaxInt64} {
				for _, set := range [][]int64{nil, {0}, {1, 0}} {
					list, code := change(n, set, by)
					failed(t, fmt.Sprint(name, " of ", set, " and ", by, " modulo ", n), code, impl.ErrInvalid, list)
				}
			}
		}
	}
}

// slowNormal returns the least of all translates.
func slowNormal(n int64, set []int64) []int64 {
	var all [][]int64
	for by := range n {
		all = append(all, slowTranslate(n, set, by))
	}
	return slices.MinFunc(all, slices.Compare[[]int64])
}

func TestNormalSets(t *testing.T) {
	for _, f := range append(residueSets(), family{12, subsetsOf(12)}) {
		for i, set := range f.sets {
			want := slowNormal(f.n, set)
			normal, code := impl.NormalSet(f.n, set)
			same(t, fmt.Sprint("normal form of ", set, " modulo ", f.n), []any{normal, code}, []any{want, impl.OK})
			normal, code = impl.NormalSet(f.n, slowTranslate(f.n, set, int64(i)%f.n))
			same(t, fmt.Sprint("normal form of a translate of ", set, " modulo ", f.n), []any{normal, code}, []any{want, impl.OK})
		}
	}
	for _, c := range []struct {
		n         int64
		set, want []int64
	}{{1, nil, nil}, {1, []int64{0}, []int64{0}}, {32, nil, nil}, {32, []int64{31}, []int64{0}}, {32, []int64{15, 31}, []int64{0, 16}}, {32, []int64{0, 10, 31}, []int64{0, 1, 11}}, {6, []int64{1, 3, 5}, []int64{0, 2, 4}}, {8, []int64{0, 3, 4, 7}, []int64{0, 1, 4, 5}}, {7, []int64{0, 3, 4}, []int64{0, 1, 4}}, {10, []int64{0, 2, 3, 9}, []int64{0, 1, 3, 4}}} {
		normal, code := impl.NormalSet(c.n, c.set)
		same(t, fmt.Sprint("normal form of ", c.set, " modulo ", c.n), []any{normal, code}, []any{c.want, impl.OK})
	}
}

// setFunctions are the functions of a number and a set.
func setFunctions() map[string]func(n int64, set []int64) ([]int64, int64) {
	return map[string]func(n int64, set []int64) ([]int64, int64){"normal form": impl.NormalSet, "multipliers": impl.MultipliersOf}
}

func TestNoResidueSets(t *testing.T) {
	for name, f := range setFunctions() {
		for _, n := range notModuli() {
			for _, set := range [][]int64{nil, {0}, {0, 1, 3}, {1, 0}, {-1}} {
				list, code := f(n, set)
				failed(t, fmt.Sprint(name, " of ", set, " modulo ", n), code, impl.ErrInvalid, list)
			}
		}
		for _, n := range []int64{1, 2, 7, 8, 31, 32} {
			for _, bad := range notResidues(n) {
				list, code := f(n, bad)
				failed(t, fmt.Sprint(name, " of ", bad, " modulo ", n), code, impl.ErrInvalid, list)
			}
		}
	}
	for n := int64(1); n <= impl.MaxPoints; n++ {
		list, code := impl.MultipliersOf(n, nil)
		failed(t, fmt.Sprint("multipliers of no set modulo ", n), code, impl.ErrInvalid, list)
	}
}

// slowMultipliers returns the multipliers of a difference set.
func slowMultipliers(n int64, set []int64) []int64 {
	var list []int64
	for by := int64(1); by < n; by++ {
		if slowGcd(by, n) == 1 && slices.Equal(slowNormal(n, slowMultiple(n, set, by)), slowNormal(n, set)) {
			list = append(list, by)
		}
	}
	return list
}

func checkMultipliers(t *testing.T, n int64, set []int64) {
	t.Helper()
	what := fmt.Sprint("multipliers of ", set, " modulo ", n)
	list, code := impl.MultipliersOf(n, set)
	if slowLambda(family{n, [][]int64{set}})[1] != impl.OK {
		failed(t, what, code, impl.ErrState, list)
		return
	}
	same(t, what, []any{list, code}, []any{slowMultipliers(n, set), impl.OK})
	for _, a := range list {
		for _, b := range list {
			if !slices.Contains(list, a*b%n) {
				t.Errorf("%s: %v has no %d times %d", what, list, a, b)
			}
		}
	}
}

func TestMultipliers(t *testing.T) {
	for _, f := range append(residueSets(), family{11, subsetsOf(11)}) {
		for _, set := range f.sets {
			if len(set) > 0 {
				checkMultipliers(t, f.n, set)
			}
		}
	}
	for _, f := range knownFamilies() {
		for _, set := range f.sets {
			for by := range f.n {
				checkMultipliers(t, f.n, slowTranslate(f.n, set, by))
			}
		}
	}
	for _, c := range []struct {
		n         int64
		set, want []int64
	}{
		{7, []int64{0, 1, 3}, []int64{1, 2, 4}}, {13, []int64{0, 1, 3, 9}, []int64{1, 3, 9}}, {21, []int64{0, 1, 4, 14, 16}, []int64{1, 2, 4, 8, 11, 16}}, {31, []int64{1, 5, 11, 24, 25, 27}, []int64{1, 5, 25}}, {31, squaresInOrder(31), squaresInOrder(31)}, {23, squaresInOrder(23), squaresInOrder(23)}, {15, []int64{0, 1, 2, 4, 5, 8, 10}, []int64{1, 2, 4, 8}},
		{2, []int64{1}, []int64{1}}, {2, []int64{0, 1}, []int64{1}}, {3, []int64{0, 2}, []int64{1, 2}}, {8, []int64{5}, []int64{1, 3, 5, 7}}, {8, upTo(8), []int64{1, 3, 5, 7}}, {9, upTo(8), []int64{1, 2, 4, 5, 7, 8}}, {32, []int64{31}, []int64{1, 3, 5, 7, 9, 11, 13, 15, 17, 19, 21, 23, 25, 27, 29, 31}},
	} {
		list, code := impl.MultipliersOf(c.n, c.set)
		same(t, fmt.Sprint("multipliers of ", c.set, " modulo ", c.n), []any{list, code}, []any{c.want, impl.OK})
	}
	for _, f := range []family{{1, [][]int64{{0}}}, {4, [][]int64{{0, 1}, {0, 2}, {1, 3}}}, {7, [][]int64{{0, 1}, {0, 1, 2}, {0, 1, 2, 3}}}, {8, [][]int64{{0, 1, 4}}}, {32, [][]int64{{0, 16}, upTo(30)}}} {
		for _, set := range f.sets {
			list, code := impl.MultipliersOf(f.n, set)
			failed(t, fmt.Sprint("multipliers of ", set, " modulo ", f.n), code, impl.ErrState, list)
		}
	}
}

func TestPaleySets(t *testing.T) {
	right := []int64{3, 7, 11, 19, 23, 31}
	for _, p := range right {
		set, code := impl.PaleySet(p)
		same(t, fmt.Sprint("squares modulo ", p), []any{set, code}, []any{squaresInOrder(p), impl.OK})
		lambda, code := impl.FamilyLambda(p, [][]int64{set})
		same(t, fmt.Sprint("lambda of the squares modulo ", p), []int64{lambda, code}, []int64{(p - 3) / 4, impl.OK})
		multipliers, code := impl.MultipliersOf(p, set)
		if p > 3 {
			same(t, fmt.Sprint("multipliers of the squares modulo ", p), []any{multipliers, code}, []any{set, impl.OK})
		}
	}
	wrong := []int64{math.MinInt64, math.MinInt64 + 7, -1 << 32, 43, 47, 59, 67, 1<<31 - 1, 1<<32 + 3, 1<<32 + 7, 1 << 32, 999983, 1000003, math.MaxInt64}
	for p := int64(-40); p <= 1100; p++ {
		if !slices.Contains(right, p) {
			wrong = append(wrong, p)
		}
	}
	for _, p := range wrong {
		set, code := impl.PaleySet(p)
		failed(t, fmt.Sprint("squares modulo ", p), code, impl.ErrRange, set)
	}
}

// setSearch is a search for a difference set.
type setSearch struct {
	n, k, lambda, nodes int64
	found               []int64
}

// visit goes through the sets that begin like a list until one is found or too many are visited.
func (s *setSearch) visit(list []int64) {
	if s.found != nil || s.nodes > impl.MaxBudget {
		return
	}
	s.nodes++
	size := int64(len(list))
	if slices.Max(slowDifferences(family{s.n, [][]int64{list}})) > s.lambda {
		return
	}
	if size == s.k {
		s.found = list
		return
	}
	for x := list[size-1] + 1; x < s.n; x++ {
		s.visit(append(slices.Clone(list), x))
	}
}

// checkDifferenceSet compares the search with a budget with one that is known.
func checkDifferenceSet(t *testing.T, s *setSearch, budget int64) {
	t.Helper()
	what := fmt.Sprint("difference set modulo ", s.n, " with ", s.k, ", ", s.lambda, " and the budget ", budget)
	set, code := impl.FirstDifferenceSet(s.n, s.k, s.lambda, budget)
	if s.nodes > budget {
		failed(t, what, code, impl.ErrFull, set)
		return
	}
	if s.found == nil {
		failed(t, what, code, impl.ErrNotFound, set)
		return
	}
	same(t, what, []any{set, code}, []any{s.found, impl.OK})
	lambda, code := impl.FamilyLambda(s.n, [][]int64{set})
	same(t, "lambda of the "+what, []int64{lambda, code}, []int64{s.lambda, impl.OK})
}

// rightSizes calls a function with all numbers with which there may be a difference set.
func rightSizes(do func(n, k, lambda int64)) {
	for n := int64(2); n <= impl.MaxPoints; n++ {
		for k := int64(2); k <= n; k++ {
			if k*(k-1)%(n-1) == 0 {
				do(n, k, k*(k-1)/(n-1))
			}
		}
	}
}

func TestFirstDifferenceSets(t *testing.T) {
	found, missing, full := 0, 0, 0
	rightSizes(func(n, k, lambda int64) {
		s := &setSearch{n: n, k: k, lambda: lambda}
		s.visit([]int64{0})
		for _, budget := range budgetsAround(s.nodes) {
			checkDifferenceSet(t, s, budget)
		}
		switch {
		case s.found != nil:
			found++
		case s.nodes <= impl.MaxBudget:
			missing++
		default:
			full++
		}
	})
	if found < 60 || missing < 1 || full < 10 {
		t.Errorf("%d searches find a set, %d find none, and %d are too long", found, missing, full)
	}
}

// TestDifferenceSetsInOrder compares the sets that are found with all sets in order.
func TestDifferenceSetsInOrder(t *testing.T) {
	rightSizes(func(n, k, lambda int64) {
		if n > 15 {
			return
		}
		var first []int64
		for _, rest := range subsetsWith(upTo(n)[1:], int(k-1)) {
			if set := append([]int64{0}, rest...); slowLambda(family{n, [][]int64{set}})[1] == impl.OK {
				first = set
				break
			}
		}
		set, code := impl.FirstDifferenceSet(n, k, lambda, impl.MaxBudget)
		if first == nil {
			failed(t, fmt.Sprint("difference set modulo ", n, " with ", k), code, impl.ErrNotFound, set)
		} else {
			same(t, fmt.Sprint("difference set modulo ", n, " with ", k), []any{set, code}, []any{first, impl.OK})
		}
	})
}

func TestExamplesOfSearches(t *testing.T) {
	for _, c := range []struct {
		numbers []int64
		set     []int64
		code    int64
	}{
		{[]int64{2, 2, 2, 2}, []int64{0, 1}, impl.OK}, {[]int64{2, 2, 2, 1}, nil, impl.ErrFull}, {[]int64{3, 2, 1, 2}, []int64{0, 1}, impl.OK}, {[]int64{3, 3, 3, 3}, upTo(3), impl.OK}, {[]int64{32, 32, 32, 32}, upTo(32), impl.OK}, {[]int64{32, 32, 32, 31}, nil, impl.ErrFull}, {[]int64{32, 31, 30, 31}, upTo(31), impl.OK}, {[]int64{32, 31, 30, 30}, nil, impl.ErrFull},
		{[]int64{7, 3, 1, 4}, []int64{0, 1, 3}, impl.OK}, {[]int64{7, 3, 1, 3}, nil, impl.ErrFull}, {[]int64{7, 4, 2, impl.MaxBudget}, []int64{0, 1, 2, 4}, impl.OK}, {[]int64{16, 6, 2, 3432}, nil, impl.ErrNotFound}, {[]int64{16, 6, 2, 3431}, nil, impl.ErrFull},
	} {
		set, code := impl.FirstDifferenceSet(c.numbers[0], c.numbers[1], c.numbers[2], c.numbers[3])
		same(t, fmt.Sprint("difference set with ", c.numbers), []any{set, code}, []any{c.set, c.code})
	}
}

func TestSearchErrors(t *testing.T) {
	great := []int64{math.MinInt64, math.MinInt64 + 3, -1 << 32, 1 << 32, 1<<32 + 1, 1<<32 + 3, 1 << 62, 1<<62 + 5, math.MaxInt64}
	lambdas := append([]int64{1<<61 + 3, 1<<60 + 15, 1<<63 - 2}, great...)
	for lambda := int64(-40); lambda <= 40; lambda++ {
		lambdas = append(lambdas, lambda)
	}
	for n := int64(2); n <= impl.MaxPoints; n++ {
		for k := int64(2); k <= n; k++ {
			for _, lambda := range lambdas {
				if k*(k-1)%(n-1) == 0 && k*(k-1)/(n-1) == lambda {
					continue
				}
				set, code := impl.FirstDifferenceSet(n, k, lambda, 1)
				failed(t, fmt.Sprint("difference set modulo ", n, " with ", k, " and ", lambda), code, impl.ErrState, set)
			}
		}
	}
	for _, lambda := range []int64{0, 1, 2, -1, math.MaxInt64, math.MinInt64} {
		for _, bad := range append(notModuli(), 1) {
			for _, k := range []int64{2, 3, 1, 0, 33, bad} {
				set, code := impl.FirstDifferenceSet(bad, k, lambda, 9)
				failed(t, fmt.Sprint("difference set modulo ", bad), code, impl.ErrRange, set)
			}
		}
		for _, n := range []int64{2, 3, 7, 31, 32} {
			for _, k := range append(slices.Clone(great), -2, -1, 0, 1, n+1, n+2, 33, 64) {
				set, code := impl.FirstDifferenceSet(n, k, lambda, 9)
				failed(t, fmt.Sprint("difference set modulo ", n, " with ", k), code, impl.ErrRange, set)
			}
			for _, budget := range append(slices.Clone(great), -1, 0, impl.MaxBudget+1) {
				set, code := impl.FirstDifferenceSet(n, 2, lambda, budget)
				failed(t, fmt.Sprint("difference set with the budget ", budget), code, impl.ErrRange, set)
			}
		}
	}
	set, code := impl.FirstDifferenceSet(7, 3, 1, impl.MaxBudget)
	same(t, "difference set with the greatest budget", []any{set, code}, []any{[]int64{0, 1, 3}, impl.OK})
	set, code = impl.FirstDifferenceSet(7, 3, 1, 0)
	failed(t, "difference set without a budget", code, impl.ErrRange, set)
}

func TestSingerSets(t *testing.T) {
	for i, q := range planeOrders() {
		set, code := impl.SingerSet(q)
		same(t, fmt.Sprint("set of the plane of order ", q), []any{set, code}, []any{[][]int64{{0, 1, 3}, {0, 1, 3, 9}, {0, 1, 4, 14, 16}, {0, 1, 3, 8, 12, 18}}[i], impl.OK})
		first, code := impl.FirstDifferenceSet(q*q+q+1, q+1, 1, impl.MaxBudget)
		same(t, fmt.Sprint("first set for the order ", q), []any{first, code}, []any{set, impl.OK})
		d, code := impl.DevelopFamily(q*q+q+1, [][]int64{set})
		same(t, "code of the design", code, impl.OK)
		checkOrders(t, d, 0, q)
	}
	for _, q := range noPlaneOrders() {
		set, code := impl.SingerSet(q)
		failed(t, fmt.Sprint("set of the plane of order ", q), code, impl.ErrRange, set)
	}
}

// slowIsCyclic compares a design with the one that has the next point instead of each.
func slowIsCyclic(d impl.Design) bool {
	if !slowIsDesign(d) {
		return false
	}
	return slices.EqualFunc(d.Blocks, renamed(d, append(upTo(d.Points)[1:], 0)).Blocks, slices.Equal[[]int64])
}

func checkCyclic(t *testing.T, d impl.Design) {
	t.Helper()
	same(t, fmt.Sprintf("%.200v is cyclic", fmt.Sprint(d)), impl.IsCyclicDesign(d), slowIsCyclic(d))
}

func TestCyclicDesigns(t *testing.T) {
	for _, d := range slices.Concat(someDesigns(), notPlanes(), affinePlanes(), projectivePlanes(), someSystems()) {
		checkCyclic(t, d)
	}
	for _, d := range notDesigns() {
		same(t, fmt.Sprintf("%.200v is cyclic", fmt.Sprint(d)), impl.IsCyclicDesign(d), false)
	}
	for _, f := range someFamilies() {
		if f.n*int64(len(f.sets)) > 127 || len(f.sets) == 0 {
			continue
		}
		d := developed(f.n, f.sets...)
		same(t, fmt.Sprint("design of ", f, " is cyclic"), impl.IsCyclicDesign(d), true)
		checkCyclic(t, designWith(d.Points, d.Blocks[1:]...))
		checkCyclic(t, inOrder(d.Points, append(slices.Clone(d.Blocks), upTo(f.n))))
		checkCyclic(t, renamed(d, mixed(f.n, f.n)))
	}
	for _, c := range []struct {
		d    impl.Design
		want bool
	}{
		{designWith(1), true}, {designWith(32), true}, {designWith(1, []int64{0}, []int64{0}), true}, {designWith(2, []int64{0}), false}, {designWith(2, []int64{0}, []int64{1}), true}, {designWith(2, []int64{0}, []int64{0}, []int64{1}), false}, {designWith(4, []int64{0, 2}, []int64{1, 3}), true}, {designWith(4, []int64{0, 2}, []int64{0, 2}, []int64{1, 3}), false},
		{designWith(32, upTo(32), upTo(32)), true}, {designWith(32, upTo(31)), false}, {designWith(32, []int64{31}), false}, {allBlocks(32, 1), true}, {allBlocks(9, 4), true}, {designWith(0), false}, {designWith(3, []int64{1}, []int64{0}, []int64{2}), false}, {designWith(33), false}, {slowProjective(2), false}, {designWith(32, []int64{0, 31}), false},
	} {
		same(t, fmt.Sprintf("%.99v is cyclic", fmt.Sprint(c.d)), []bool{impl.IsCyclicDesign(c.d), slowIsCyclic(c.d)}, []bool{c.want, c.want})
	}
}
