package tests

import (
	"fmt"
	"math"
	"slices"
	"testing"

	"loop.example/g00920/impl"
)

// slowGroup returns everything that can be composed of generators, in increasing order.
func slowGroup(degree int64, generators [][]int64) [][]int64 {
	elements := [][]int64{upTo(degree)}
	seen := map[string]bool{fmt.Sprint(elements[0]): true}
	for i := 0; i < len(elements); i++ {
		for _, q := range generators {
			product := slowCompose(elements[i], q)
			if !seen[fmt.Sprint(product)] {
				seen[fmt.Sprint(product)] = true
				elements = append(elements, product)
			}
		}
	}
	slices.SortFunc(elements, slices.Compare[[]int64])
	return elements
}

// cycled returns a permutation whose cycles have some lengths and consist of consecutive numbers.
func cycled(lengths ...int64) []int64 {
	var p []int64
	for _, length := range lengths {
		start := int64(len(p))
		for i := range length {
			p = append(p, start+(i+1)%length)
		}
	}
	return p
}

func generated(degree int64, generators ...[]int64) impl.Group {
	return impl.Group{Degree: degree, Elements: slowGroup(degree, generators)}
}

// symmetric returns the group of all permutations.
func symmetric(n int64) impl.Group { return impl.Group{Degree: n, Elements: slowPermutations(n)} }

// subgroupsOfFour returns all groups of degree 4; two permutations generate each of them.
func subgroupsOfFour() []impl.Group {
	var groups []impl.Group
	seen := map[string]bool{}
	for _, p := range slowPermutations(4) {
		for _, q := range slowPermutations(4) {
			g := generated(4, p, q)
			if !seen[fmt.Sprint(g)] {
				seen[fmt.Sprint(g)] = true
				groups = append(groups, g)
			}
		}
	}
	return groups
}

// someGroups are all groups of degree 4 and some others.
func someGroups() []impl.Group {
	return append(subgroupsOfFour(),
		symmetric(1), symmetric(2), symmetric(3), symmetric(5), generated(3, []int64{1, 2, 0}), generated(2), generated(5), generated(32),
		generated(6, []int64{1, 2, 3, 4, 5, 0}, []int64{0, 5, 4, 3, 2, 1}), generated(5, []int64{1, 2, 0, 3, 4}, []int64{0, 1, 3, 4, 2}),
		generated(7, []int64{1, 2, 3, 4, 5, 6, 0}, []int64{0, 2, 4, 6, 1, 3, 5}), generated(7, []int64{1, 0, 2, 4, 3, 5, 6}), generated(9, cycled(3, 1, 3, 2)),
		generated(7, []int64{1, 2, 3, 4, 5, 6, 0}, []int64{0, 2, 1, 6, 4, 5, 3}), generated(32, reversed(32)), generated(32, cycled(32)), generated(31, cycled(1, 7, 3, 12, 8)))
}

// greatestGroups are groups with MaxGroup elements.
func greatestGroups() []impl.Group {
	return []impl.Group{symmetric(6), generated(30, cycled(16, 9, 5)), generated(32, cycled(5, 1, 16, 1, 9))}
}

// invalidGroups are groups that break one of the conditions each.
func invalidGroups() []impl.Group {
	tooGreat := generated(28, cycled(8, 7, 13))
	six := symmetric(6).Elements
	return []impl.Group{
		{}, {Degree: 1}, {Degree: 4}, {Elements: [][]int64{{}}}, {Degree: 0, Elements: [][]int64{{0}}}, {Degree: -1, Elements: [][]int64{{0}}}, {Degree: 2, Elements: [][]int64{{0}}},
		{Degree: 33, Elements: [][]int64{upTo(33)}}, {Degree: 33, Elements: [][]int64{upTo(32)}}, {Degree: 32, Elements: [][]int64{upTo(33)}},
		{Degree: math.MaxInt64, Elements: [][]int64{{0}}}, {Degree: math.MinInt64, Elements: [][]int64{{0}}}, {Degree: 1 << 32, Elements: [][]int64{{}}},
		{Degree: 3, Elements: [][]int64{{0, 1, 2}, {0, 1}}}, {Degree: 2, Elements: [][]int64{nil, {0, 1}}}, {Degree: 2, Elements: [][]int64{{0, 1}, {1, 1}}},
		{Degree: 2, Elements: [][]int64{{0, 0}}}, {Degree: 2, Elements: [][]int64{{0, 2}}}, {Degree: 2, Elements: [][]int64{{-1, 0}, {0, 1}}},
		{Degree: 2, Elements: [][]int64{{1, 0}}}, {Degree: 2, Elements: [][]int64{{1, 0}, {0, 1}}}, {Degree: 2, Elements: [][]int64{{0, 1}, {0, 1}}},
		{Degree: 2, Elements: [][]int64{{0, 1}, {1, 0}, {1, 0}}}, {Degree: 3, Elements: [][]int64{{0, 1, 2}, {1, 2, 0}}}, {Degree: 3, Elements: [][]int64{{1, 2, 0}, {2, 0, 1}}},
		{Degree: 3, Elements: [][]int64{{0, 1, 2}, {0, 2, 1}, {1, 0, 2}}}, {Degree: 6, Elements: six[1:]}, {Degree: 6, Elements: six[:719]}, {Degree: 6, Elements: six[:360]},
		{Degree: 6, Elements: slices.Repeat(six, 2)}, {Degree: 1, Elements: slices.Repeat([][]int64{{0}}, 721)}, tooGreat, {Degree: 28, Elements: tooGreat.Elements[:720]},
		{Degree: 7, Elements: slowPermutations(7)},
	}
}

func TestMakeGroup(t *testing.T) {
	all := slowPermutations(4)
	for _, p := range all {
		one, code := impl.MakeGroup(4, [][]int64{p})
		same(t, fmt.Sprint("group of ", p), []any{one, code}, []any{generated(4, p), impl.OK})
		for _, q := range all {
			two, code := impl.MakeGroup(4, [][]int64{p, q, p})
			same(t, fmt.Sprint("group of ", p, q), []any{two, code}, []any{generated(4, p, q), impl.OK})
		}
	}
	for n := int64(1); n <= 32; n++ {
		trivial, one := impl.MakeGroup(n, nil)
		again, two := impl.MakeGroup(n, [][]int64{upTo(n), upTo(n)})
		cyclic, three := impl.MakeGroup(n, [][]int64{cycled(n)})
		want := impl.Group{Degree: n, Elements: [][]int64{upTo(n)}}
		same(t, fmt.Sprint("groups of degree ", n), []any{trivial, one, again, two, cyclic, three}, []any{want, 0, want, 0, generated(n, cycled(n)), 0})
	}
	for _, g := range append(someGroups(), greatestGroups()...) {
		made, code := impl.MakeGroup(g.Degree, g.Elements)
		same(t, "group of all its elements", []any{made, code}, []any{g, impl.OK})
		backward := slices.Clone(g.Elements)
		slices.Reverse(backward)
		made, code = impl.MakeGroup(g.Degree, backward)
		same(t, "group of all its elements from the last one on", []any{made, code}, []any{g, impl.OK})
	}
}

func TestMakeGroupLimits(t *testing.T) {
	same(t, "limits", []int64{impl.MaxGroup, impl.MaxColorings}, []int64{720, 1000000000000})
	for _, c := range []struct {
		degree     int64
		generators [][]int64
		want       int
	}{
		{6, [][]int64{{1, 2, 3, 4, 5, 0}, {1, 0, 2, 3, 4, 5}}, 720}, {30, [][]int64{cycled(16, 9, 5)}, 720}, {8, [][]int64{cycled(6, 1, 1), {1, 0, 2, 3, 4, 5, 6, 7}}, 720},
		{7, [][]int64{{1, 2, 3, 4, 5, 6, 0}, {0, 2, 4, 6, 1, 3, 5}, {0, 1, 2, 3, 4, 5, 6}}, 21},
		{7, [][]int64{{1, 2, 3, 4, 5, 6, 0}, {0, 2, 1, 6, 4, 5, 3}}, 168}, {5, [][]int64{{1, 2, 3, 4, 0}, {1, 2, 0, 3, 4}}, 60},
	} {
		g, code := impl.MakeGroup(c.degree, c.generators)
		same(t, fmt.Sprint("order of the group of ", c.generators), []any{len(g.Elements), code, impl.ValidGroup(g)}, []any{c.want, impl.OK, true})
	}
	for _, c := range []struct {
		degree     int64
		generators [][]int64
	}{
		{28, [][]int64{cycled(8, 7, 13)}}, {8, [][]int64{cycled(6, 2), {1, 0, 2, 3, 4, 5, 6, 7}, cycled(1, 1, 1, 1, 1, 1, 2)}}, {7, [][]int64{cycled(7), {1, 0, 2, 3, 4, 5, 6}}},
		{32, [][]int64{mixed(32, 1), mixed(32, 2)}}, {32, [][]int64{cycled(32), append([]int64{1, 0}, upTo(32)[2:]...)}},
		{7, slowPermutations(7)}, {30, [][]int64{cycled(5, 7, 9, 8, 1), cycled(29, 1)}},
	} {
		g, code := impl.MakeGroup(c.degree, c.generators)
		failed(t, fmt.Sprintf("group of %.99v", fmt.Sprint(c.generators)), code, impl.ErrFull, g)
	}
}

func TestMakeGroupErrors(t *testing.T) {
	for _, degree := range []int64{-1, 0, 33, 1 << 32, math.MinInt64, math.MaxInt64} {
		for _, generators := range [][][]int64{nil, {nil}, {{0}}, {{1, 0}}, {upTo(33)}, {{1, 1}}} {
			g, code := impl.MakeGroup(degree, generators)
			failed(t, fmt.Sprint("group of degree ", degree), code, impl.ErrInvalid, g)
		}
	}
	for _, generators := range [][][]int64{
		{nil}, {{0, 1, 2}}, {upTo(5)}, {upTo(33)}, {{0, 1, 2, 2}}, {{0, 1, 2, 4}}, {{-1, 0, 1, 2}}, {{1, 2, 3, 0}, {1, 2, 0}}, {{1, 2, 0}, {1, 2, 3, 0}},
		{{0, 1, 2, 3}, {1, 2, 3, 0}, nil}, {{0, 1, 2, 3}, {math.MinInt64, 1, 2, math.MaxInt64}}, {{1, 2, 3, 4}},
	} {
		g, code := impl.MakeGroup(4, generators)
		failed(t, fmt.Sprint("group of ", generators), code, impl.ErrInvalid, g)
	}
	// ErrInvalid is found before ErrFull, wherever the permutation stands.
	g, code := impl.MakeGroup(7, [][]int64{cycled(7), {1, 0, 2, 3, 4, 5, 6}, {0, 0, 2, 3, 4, 5, 6}})
	failed(t, "too many elements and no permutation", code, impl.ErrInvalid, g)
}

func TestValidGroup(t *testing.T) {
	for _, g := range append(someGroups(), greatestGroups()...) {
		same(t, fmt.Sprintf("validity of %.99v", fmt.Sprint(g)), impl.ValidGroup(g), true)
	}
	for _, g := range invalidGroups() {
		same(t, fmt.Sprintf("validity of %.99v", fmt.Sprint(g)), impl.ValidGroup(g), false)
	}
	for _, g := range subgroupsOfFour() {
		// Removing or repeating one of the elements leaves no group, and exchanging two leaves no order.
		for i, p := range g.Elements {
			fewer := slices.Delete(slices.Clone(g.Elements), i, i+1)
			more := slices.Insert(slices.Clone(g.Elements), i, p)
			other := slices.Clone(g.Elements)
			j := (i + 1) % len(other)
			other[i], other[j] = other[j], other[i]
			got := []bool{impl.ValidGroup(impl.Group{Degree: 4, Elements: fewer}), impl.ValidGroup(impl.Group{Degree: 4, Elements: more}), impl.ValidGroup(impl.Group{Degree: 4, Elements: other})}
			// A group of two elements without the second one, and one element exchanged with itself, are groups.
			same(t, fmt.Sprint("validity of changes of ", g), got, []bool{len(g.Elements) == 2 && i == 1, false, len(g.Elements) == 1})
		}
	}
}

func TestClosedSetsOfThree(t *testing.T) {
	all := slowPermutations(3)
	groups := 0
	for bits := range 1 << len(all) {
		g := impl.Group{Degree: 3}
		for i, p := range all {
			if bits>>i&1 == 1 {
				g.Elements = append(g.Elements, p)
			}
		}
		closed := len(g.Elements) > 0
		for _, p := range g.Elements {
			for _, q := range g.Elements {
				closed = closed && slices.ContainsFunc(g.Elements, func(r []int64) bool { return slices.Equal(r, slowCompose(p, q)) })
			}
		}
		if closed {
			groups++
		}
		same(t, fmt.Sprint("validity of ", g), impl.ValidGroup(g), closed)
	}
	same(t, "groups of degree 3", groups, 6)
}

func TestSameGroup(t *testing.T) {
	groups := []impl.Group{
		{}, {Degree: 1}, {Degree: 3}, {Elements: [][]int64{{}}}, {Elements: [][]int64{{}, {}}}, {Elements: [][]int64{{0}}}, {Degree: 1, Elements: [][]int64{{0}}},
		{Degree: 2, Elements: [][]int64{{0, 1}}}, {Degree: 2, Elements: [][]int64{{0, 1}, {1, 0}}}, {Degree: 2, Elements: [][]int64{{1, 0}, {0, 1}}}, {Degree: -2, Elements: [][]int64{{0, 1}}},
		{Degree: 2, Elements: [][]int64{{0, 1}, {1}}}, {Degree: 2, Elements: [][]int64{{0, 1}, {1, 0}, {1, 0}}}, {Degree: 2, Elements: [][]int64{{0}, {1, 1, 0}}},
		{Degree: math.MinInt64, Elements: [][]int64{{math.MaxInt64}}}, symmetric(3), symmetric(4), generated(4, cycled(4)),
	}
	for i, a := range groups {
		for j, b := range groups {
			b.Elements = slices.Clone(b.Elements)
			for k, p := range b.Elements {
				b.Elements[k] = slices.Clone(p)
			}
			same(t, fmt.Sprint(a, " is ", b), impl.SameGroup(a, b), i == j)
		}
	}
	empty := []impl.Group{{}, {Elements: [][]int64{}}}
	same(t, "nil and empty lists", []bool{impl.SameGroup(empty[0], empty[1]), impl.SameGroup(empty[1], empty[0]),
		impl.SameGroup(impl.Group{Elements: [][]int64{nil}}, impl.Group{Elements: [][]int64{{}}})}, []bool{true, true, true})
}

func TestGroupHas(t *testing.T) {
	for _, g := range subgroupsOfFour() {
		for _, p := range slowPermutations(4) {
			has := slices.ContainsFunc(g.Elements, func(q []int64) bool { return slices.Equal(p, q) })
			same(t, fmt.Sprint(p, " is in ", g), impl.GroupHas(g, p), has)
		}
		for _, p := range [][]int64{nil, {0}, {0, 1, 2}, upTo(5), {1, 2, 3}, {0, 0, 0, 0}, {4, 5, 6, 7}, {-1, 0, 1, 2}, {math.MaxInt64}, {math.MinInt64}} {
			same(t, fmt.Sprint(p, " is in ", g), impl.GroupHas(g, p), false)
		}
	}
	for _, g := range invalidGroups() {
		for _, p := range g.Elements[:min(3, len(g.Elements))] {
			same(t, fmt.Sprintf("%v is in %.99v", p, fmt.Sprint(g)), impl.GroupHas(g, p), false)
		}
		same(t, "nothing is in a group that is not valid", []bool{impl.GroupHas(g, nil), impl.GroupHas(g, []int64{0})}, []bool{false, false})
	}
}

func TestGeneratorsOf(t *testing.T) {
	for _, g := range append(someGroups(), greatestGroups()...) {
		var taken [][]int64
		size := 1
		for _, p := range g.Elements {
			longer := len(slowGroup(g.Degree, append(slices.Clone(taken), p)))
			if longer > size {
				taken, size = append(taken, p), longer
			}
			if size == len(g.Elements) {
				break
			}
		}
		got := impl.GeneratorsOf(g)
		same(t, fmt.Sprintf("generators of %.99v", fmt.Sprint(g)), got, taken)
		back, code := impl.MakeGroup(g.Degree, got)
		same(t, "group of the generators", []any{back, code}, []any{g, impl.OK})
	}
}

func slowOrbit(g impl.Group, x int64) []int64 {
	var orbit []int64
	for y := range g.Degree {
		if slices.ContainsFunc(g.Elements, func(p []int64) bool { return p[x] == y }) {
			orbit = append(orbit, y)
		}
	}
	return orbit
}

// those returns the group of the elements for which a condition holds.
func those(g impl.Group, holds func(p []int64) bool) impl.Group {
	kept := impl.Group{Degree: g.Degree}
	for _, p := range g.Elements {
		if holds(p) {
			kept.Elements = append(kept.Elements, p)
		}
	}
	return kept
}

func TestOrbitsAndStabilizers(t *testing.T) {
	for _, g := range append(someGroups(), greatestGroups()...) {
		what := fmt.Sprintf("%.99v", fmt.Sprint(g))
		var orbits [][]int64
		for x := range g.Degree {
			orbit, one := impl.OrbitOf(g, x)
			same(t, fmt.Sprint("orbit of ", x, " of ", what), []any{orbit, one}, []any{slowOrbit(g, x), impl.OK})
			if slices.Min(orbit) == x {
				orbits = append(orbits, orbit)
			}
			kept, two := impl.StabilizerOf(g, x)
			same(t, fmt.Sprint("stabilizer of ", x, " of ", what), []any{kept, two}, []any{those(g, func(p []int64) bool { return p[x] == x }), impl.OK})
			same(t, "order of the group", len(orbit)*len(kept.Elements), len(g.Elements))
			same(t, "validity of the stabilizer", impl.ValidGroup(kept), true)
		}
		same(t, "orbits of "+what, impl.OrbitsOf(g), orbits)
		for _, x := range []int64{-1, g.Degree, g.Degree + 1, 32, 64, math.MinInt64, math.MaxInt64} {
			orbit, one := impl.OrbitOf(g, x)
			failed(t, fmt.Sprint("orbit of ", x), one, impl.ErrRange, orbit)
			kept, two := impl.StabilizerOf(g, x)
			failed(t, fmt.Sprint("stabilizer of ", x), two, impl.ErrRange, kept)
		}
	}
}

func slowImage(p, set []int64) []int64 {
	var image []int64
	for _, x := range set {
		image = append(image, p[x])
	}
	slices.Sort(image)
	return image
}

func TestSetStabilizers(t *testing.T) {
	for _, g := range append(someGroups(), greatestGroups()...) {
		sets := [][]int64{nil, {0}, {g.Degree - 1}, upTo(g.Degree)}
		for bits := range int64(1) << min(g.Degree, 5) {
			var set []int64
			for x := range g.Degree {
				if bits>>x&1 == 1 {
					set = append(set, x)
				}
			}
			sets = append(sets, set)
		}
		for _, set := range sets {
			kept, code := impl.SetStabilizer(g, set)
			want := those(g, func(p []int64) bool { return slices.Equal(slowImage(p, set), set) })
			same(t, fmt.Sprintf("stabilizer of %v of %.99v", set, fmt.Sprint(g)), []any{kept, code}, []any{want, impl.OK})
		}
		for _, set := range [][]int64{{-1}, {g.Degree}, {0, g.Degree}, {g.Degree - 1, g.Degree - 1}, {1, 0}, {0, 0}, {32}, {math.MinInt64}, {0, math.MaxInt64}, upTo(g.Degree + 1), upTo(100)} {
			kept, code := impl.SetStabilizer(g, set)
			failed(t, fmt.Sprint("stabilizer of ", set), code, impl.ErrRange, kept)
		}
	}
}

// slowCosets returns the least element of each coset.
func slowCosets(g, h impl.Group) [][]int64 {
	least := map[string][]int64{}
	for _, a := range g.Elements {
		var coset [][]int64
		for _, x := range h.Elements {
			coset = append(coset, slowCompose(x, a))
		}
		first := slices.MinFunc(coset, slices.Compare[[]int64])
		least[fmt.Sprint(first)] = first
	}
	var all [][]int64
	for _, p := range least {
		all = append(all, p)
	}
	slices.SortFunc(all, slices.Compare[[]int64])
	return all
}

func isPart(h, g impl.Group) bool {
	for _, p := range h.Elements {
		if !slices.ContainsFunc(g.Elements, func(q []int64) bool { return slices.Equal(p, q) }) {
			return false
		}
	}
	return true
}

func TestCosets(t *testing.T) {
	groups := subgroupsOfFour()
	same(t, "groups of degree 4", len(groups), 30)
	for _, g := range groups {
		for _, h := range groups {
			cosets, code := impl.CosetsOf(g, h)
			if !isPart(h, g) {
				failed(t, fmt.Sprint("cosets of ", h, " in ", g), code, impl.ErrState, cosets)
				continue
			}
			same(t, fmt.Sprint("cosets of ", h, " in ", g), []any{cosets, code}, []any{slowCosets(g, h), impl.OK})
			same(t, "number of cosets", len(cosets)*len(h.Elements), len(g.Elements))
		}
	}
	for _, g := range greatestGroups() {
		trivial := generated(g.Degree)
		part := those(g, func(p []int64) bool { return p[0] == 0 })
		for _, h := range []impl.Group{trivial, part, g} {
			cosets, code := impl.CosetsOf(g, h)
			same(t, "cosets in a great group", []any{cosets, code}, []any{slowCosets(g, h), impl.OK})
		}
		cosets, code := impl.CosetsOf(trivial, g)
		failed(t, "cosets of a great group in a small one", code, impl.ErrState, cosets)
	}
}

func TestCosetErrors(t *testing.T) {
	for _, c := range [][2]impl.Group{
		{symmetric(4), symmetric(3)}, {symmetric(3), symmetric(4)}, {generated(4), generated(3)}, {generated(1), generated(32)}, {generated(32), generated(1)},
		{generated(4, cycled(4)), generated(4, []int64{1, 0, 2, 3})}, {generated(5, cycled(5)), symmetric(5)},
	} {
		cosets, code := impl.CosetsOf(c[0], c[1])
		failed(t, fmt.Sprintf("cosets of %.99v", fmt.Sprint(c)), code, impl.ErrState, cosets)
	}
	for _, bad := range invalidGroups() {
		for _, g := range []impl.Group{generated(1), symmetric(3), symmetric(4), {}, bad} {
			first, one := impl.CosetsOf(g, bad)
			second, two := impl.CosetsOf(bad, g)
			failed(t, "cosets of a group that is not valid", one, impl.ErrInvalid, first)
			failed(t, "cosets in a group that is not valid", two, impl.ErrInvalid, second)
		}
	}
}

// slowColorings counts the colorings to which no element of a group leads from a lesser one.
func slowColorings(g impl.Group, colors int64) int64 {
	count := int64(0)
	for number := range power(colors, g.Degree) {
		coloring := slowDigits(number, colors, g.Degree)
		least := true
		for _, p := range g.Elements {
			least = least && slices.Compare(coloring, slowCompose(p, coloring)) <= 0
		}
		if least {
			count++
		}
	}
	return count
}

func TestColorings(t *testing.T) {
	for _, g := range someGroups() {
		for colors := int64(0); colors <= 4 && power(colors, min(g.Degree, 10)) <= 2500 && g.Degree <= 10; colors++ {
			count, code := impl.BurnsideCount(g, colors)
			same(t, fmt.Sprintf("orbits of %d colors of %.99v", colors, fmt.Sprint(g)), []int64{count, code}, []int64{slowColorings(g, colors), impl.OK})
		}
	}
	for n := int64(1); n <= 6; n++ {
		for colors := int64(1); colors <= 32; colors++ {
			// An orbit of all permutations is given by how often each color occurs.
			multisets := int64(1)
			for i := range n {
				multisets = multisets * (colors + i) / (i + 1)
			}
			count, code := impl.BurnsideCount(symmetric(n), colors)
			same(t, fmt.Sprint("orbits of ", colors, " colors of all permutations of ", n), []int64{count, code}, []int64{multisets, impl.OK})
		}
	}
	example, _ := impl.MakeGroup(4, [][]int64{{1, 2, 3, 0}})
	count, code := impl.BurnsideCount(example, 2)
	same(t, "example", []any{len(example.Elements), count, code}, []any{4, 6, impl.OK})
}

func TestManyColorings(t *testing.T) {
	necklaces := int64(0)
	for k := range int64(32) {
		necklaces += 1 << slowGcd(k, 32)
	}
	for _, c := range []struct {
		g            impl.Group
		colors, want int64
	}{
		{generated(12), 10, 1000000000000}, {generated(1), 32, 32}, {generated(1), 0, 0}, {generated(32), 0, 0}, {generated(32), 1, 1}, {generated(32), 2, 1 << 32},
		{generated(7), 32, power(32, 7)}, {generated(8), 31, power(31, 8)}, {generated(25), 3, power(3, 25)}, {generated(32, cycled(32)), 2, necklaces / 32},
		{symmetric(6), 0, 0}, {symmetric(6), 1, 1}, {generated(30, cycled(16, 9, 5)), 1, 1},
	} {
		count, code := impl.BurnsideCount(c.g, c.colors)
		same(t, fmt.Sprintf("orbits of %d colors of %.99v", c.colors, fmt.Sprint(c.g)), []int64{count, code}, []int64{c.want, impl.OK})
	}
	for _, c := range []struct {
		g      impl.Group
		colors int64
	}{
		{generated(12), 11}, {generated(13), 10}, {generated(8), 32}, {generated(26), 3}, {generated(32), 3}, {generated(32), 32}, {generated(32, cycled(32)), 4}, {generated(32, reversed(32)), 16},
		{generated(1), 33}, {generated(1), -1}, {generated(4), -2}, {generated(1), math.MaxInt64}, {generated(1), math.MinInt64}, {symmetric(6), 33}, {generated(9), 32},
	} {
		count, code := impl.BurnsideCount(c.g, c.colors)
		failed(t, fmt.Sprintf("orbits of %d colors of %.99v", c.colors, fmt.Sprint(c.g)), code, impl.ErrRange, count)
	}
}

func TestInvalidGroups(t *testing.T) {
	for _, g := range invalidGroups() {
		same(t, "orbits and generators of a group that is not valid", []any{impl.OrbitsOf(g), impl.GeneratorsOf(g)}, []any{[][]int64{}, [][]int64{}})
		for _, x := range []int64{0, 1, -1, 33, g.Degree, math.MinInt64, math.MaxInt64} {
			orbit, one := impl.OrbitOf(g, x)
			failed(t, "orbit", one, impl.ErrInvalid, orbit)
			kept, two := impl.StabilizerOf(g, x)
			failed(t, "stabilizer", two, impl.ErrInvalid, kept)
			count, three := impl.BurnsideCount(g, x)
			failed(t, "colorings", three, impl.ErrInvalid, count)
			kept, four := impl.SetStabilizer(g, []int64{x})
			failed(t, "stabilizer of a set", four, impl.ErrInvalid, kept)
		}
		kept, code := impl.SetStabilizer(g, nil)
		failed(t, "stabilizer of the empty set", code, impl.ErrInvalid, kept)
	}
}
