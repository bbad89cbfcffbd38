package tests

import (
	"fmt"
	"math"
	"reflect"
	"slices"
	"strings"
	"testing"

	"loop.example/g00920/impl"
)

// same fails the test unless got and want print alike; nil and empty slices do.
func same(t *testing.T, what string, got, want any) {
	t.Helper()
	g, w := fmt.Sprintf("%+v", got), fmt.Sprintf("%+v", want)
	if g != w {
		t.Errorf("%s: got %s, want %s", what, g, w)
	}
}

// failed fails the test unless the code is the wanted one and the values beside it are zero.
func failed(t *testing.T, what string, code, want int64, values ...any) {
	t.Helper()
	if code != want {
		t.Errorf("%s: got the code %d, want %d", what, code, want)
	}
	for _, v := range values {
		if !isZero(reflect.ValueOf(v)) {
			t.Errorf("%s: got the value %v beside the code %d", what, v, code)
		}
	}
}

// isZero reports whether a value is zero; an empty slice is, like a nil one.
func isZero(v reflect.Value) bool {
	switch v.Kind() {
	case reflect.Slice:
		return v.Len() == 0
	case reflect.Struct:
		for i := range v.NumField() {
			if !isZero(v.Field(i)) {
				return false
			}
		}
		return true
	}
	return v.IsZero()
}

// upTo returns the list of the numbers from 0 to n - 1.
func upTo(n int64) []int64 {
	list := make([]int64, n)
	for i := range list {
		list[i] = int64(i)
	}
	return list
}

func repeated(n int, x int64) []int64 {
	list := make([]int64, n)
	for i := range list {
		list[i] = x
	}
	return list
}

// reversed returns the list of the numbers from n - 1 to 0.
func reversed(n int64) []int64 {
	list := upTo(n)
	slices.Reverse(list)
	return list
}

// wildNumbers are numbers at and around the limits of chapters 1 to 13.
func wildNumbers(parameters int) []int64 {
	few := []int64{math.MinInt64, -1, 0, 1, 3, 6, 7, impl.MaxModulus, impl.MaxModulus + 1, math.MaxInt64}
	if parameters > 3 {
		return few
	}
	if parameters < 3 {
		few = append(few, impl.MaxBlocks-1, impl.MaxBlocks)
	}
	if parameters < 2 {
		few = append(few, 5, 8, 13, 15, 19, 21, 25, 27, 37)
	}
	return append(few, -impl.MaxNumber-1, -impl.MaxNumber, -7, 2, 4, 9, 10, impl.MaxRanked, impl.MaxRanked+1, 479001599, 479001600, impl.MaxPoints-1, impl.MaxPoints, impl.MaxPoints+1,
		impl.MaxField-1, impl.MaxField, impl.MaxField+1, impl.MaxList, impl.MaxList+1, impl.MaxBudget, impl.MaxBudget+1, 997, 1009, impl.CrcStart, impl.CrcStart+1, 999983, impl.MaxNumber, impl.MaxNumber+1, 601080389, 601080390)
}

func wildLists(parameters int) [][]int64 {
	if parameters > 3 {
		return [][]int64{nil, {0}, {1, 0}, {1, 2, 0}, {0, 2, 1}, {1, 1, 0}, reversed(10)}
	}
	return [][]int64{
		nil, {0}, {3}, {31}, {32}, {-1}, {1, 0}, {1, 1}, {0, 2, 3}, {0, 5, 4}, {3, 4, 5, 6}, {0, 0, 1, 1}, {2, 3, 31}, {0, 32}, {-5, 0},
		{1, 2, 0}, {0, 2, 1, 3}, {1, 2, 0, 4, 3}, reversed(impl.MaxRanked), reversed(impl.MaxRanked + 1), reversed(impl.MaxDegree),
		{0, 2, 0, 2}, {0, 1, 0, 1}, {2, 0, 2, 0}, upTo(10), upTo(impl.MaxPoints), upTo(impl.MaxPoints + 1), upTo(impl.MaxList), upTo(impl.MaxList + 1),
		{999999999, -999999999}, {1000000000}, {math.MinInt64, math.MaxInt64},
	}
}

func wildStrings() []string {
	return []string{
		"", " ", "a", "a1", "1a", "A", "abcdefghij", "abcdefghijk", "-", "--", "0", "-0", "00", "01", "+1", "-7", "1e3", "0x1", "1_0",
		"999999999999999999", "-999999999999999999", "1000000000000000000", "9223372036854775808", "1,2", "1,,2", ",", "1,", "-1,-", "1, 2",
		"  a bc ", "a\tb\nc", "\xff \xfe", "\u0661", "123456789", strings.Repeat("7", 5000), strings.Repeat("1,", 200) + "1", strings.Repeat(" x", 300),
		"01/10", "01/10/", "01/01", "012/120/201", "012/201/210", slowText(slowCyclic(10)), slowText(slowCyclic(11)),
		".", "0./.0", "0./0.", "012/.../...", "012/.../..", slowPartialText(emptyPartial(10)), slowPartialText(emptyPartial(11)),
	}
}

// wildFields are valid and invalid fields.
func wildFields() []impl.Field {
	return []impl.Field{
		{}, {Prime: 2, Degree: 1, Poly: []int64{0, 1}}, {Prime: 2, Degree: 1, Poly: []int64{1, 1}}, {Prime: 7, Degree: 1, Poly: []int64{3, 1}},
		{Prime: 61, Degree: 1, Poly: []int64{0, 1}}, {Prime: 3, Degree: 2, Poly: []int64{1, 0, 1}}, {Prime: 2, Degree: 6, Poly: []int64{1, 1, 0, 0, 0, 0, 1}},
		{Prime: 3, Degree: 2, Poly: []int64{0, 1, 1}}, {Prime: 3, Degree: 2, Poly: []int64{1, 0, 2}}, {Prime: 3, Degree: 2, Poly: []int64{1, 0}},
		{Prime: 2, Degree: math.MaxInt64, Poly: []int64{1, 1, 1}}, {Prime: math.MinInt64, Degree: -1}, {Prime: math.MaxInt64, Degree: 1, Poly: upTo(2)},
	}
}

// wildRows are lists of cycles, of generators, of rows of squares and partial squares, and of others.
func wildRows() [][][]int64 {
	return [][][]int64{
		nil, {nil}, {{0}}, {{1}}, {{1, 0}}, {{0}, {}}, {{0, 1}, {2, 3}}, {{0, 1}, {1, 2}}, {{3, 4}, {0, 1, 2}}, {{5, 2, 0, 1}}, {{0, 0}},
		{{1, 2, 0}}, {{1, 2, 3, 0}, {0, 3, 2, 1}}, {{1, 2, 3, 0}, {1, 0, 2, 3}, {0, 1, 2, 3}}, {{0, 1, 2, 3}, {0, 1, 2}}, {{1, 1, 2, 3}},
		{{1, 2, 3, 4, 5, 0}, {1, 0, 2, 3, 4, 5}}, {{1, 2, 3, 4, 5, 6, 0}, {1, 0, 2, 3, 4, 5, 6}}, {reversed(impl.MaxDegree)}, {upTo(impl.MaxDegree + 1)},
		{reversed(10), upTo(10)}, {{31}, {30, 0}}, {{32}}, {{-1}}, {{math.MinInt64, math.MaxInt64}}, slices.Repeat([][]int64{{1, 0}}, 1000),
		{{0, 1}, {1, 0}}, {{1, 0}, {0, 1}}, {{0, 1}, {0, 1}}, {{0, 1}, {1, 2}}, {{0, 1}, {1}}, {{1, 0, 2}, {0, 2, 1}, {2, 1, 0}}, {{0, 1, 2}, {1, 2, 0}}, looseSquare(), fanoSquare(), {{0, 2, 1}, {2, 1, 0}, {1, 0, 2}},
		slowCyclic(3), {{0, 1, 2}, {2, 0, 1}, {1, 2, 0}}, scrambled(4, 1), scrambled(10, 1), slowCyclic(11), slices.Repeat([][]int64{upTo(10)}, 10),
		{{0, -1}, {-1, 0}}, {{0, -1}, {-1, 1}}, {{0, -1}, {0, -1}}, {{0, -1}, {-1, -2}}, {{0, 1, 2}, {-1, -1, -1}, {-1, -1, -1}}, {{0, 1, -1}, {1, -1, -1}, {-1, -1, -1}}, emptyPartial(4), emptyPartial(10), emptyPartial(11),
	}
}

// wildBlocks are lists of blocks, of sets of residues and of rows of matrices; functions of many parameters are not given them, to save time.
func wildBlocks(parameters int) [][][]int64 {
	if parameters > 2 {
		return nil
	}
	return [][][]int64{
		{{2}, {0, 1}, {0, 1}, {0}}, {{0, 1, 2, 3}, {0, 3}, {31}}, fano().Blocks, slices.Repeat([][]int64{{0, 2}}, impl.MaxBlocks), slices.Repeat([][]int64{{0}}, impl.MaxBlocks+1),
		{{1}, {1}}, {{0}, {1}}, {{1, 0, 1, 0}, {0, 1, 1, 1}}, {{1, 0, 1}, {0, 0, 1}}, {{}, {}}, slices.Repeat([][]int64{repeated(impl.MaxBlocks, 1)}, impl.MaxPoints), {repeated(impl.MaxBlocks+1, 1)},
		{{0, 1, 3}}, {{0, 1, 3}, {1, 2, 6}}, slices.Repeat([][]int64{{0, 3}}, impl.MaxBase), slices.Repeat([][]int64{{0, 3}}, impl.MaxBase+1),
	}
}

// wildTables are lists of squares that are mutually orthogonal or not, and of others.
func wildTables() [][][][]int64 {
	three, four := slowCyclic(3), slowCyclic(4)
	mate := [][]int64{{0, 1, 2}, {2, 0, 1}, {1, 2, 0}}
	one := [][][]int64{{{0}}}
	return [][][][]int64{
		nil, {nil}, {{nil}}, one, slices.Repeat(one, impl.MaxOrder), slices.Repeat(one, impl.MaxOrder+1), slices.Repeat(one, 1000), {{{0, 1}, {1, 0}}}, {{{0, 1}, {0, 1}}},
		{three}, {three, mate}, {mate, three}, {three, three}, {three, mate, three}, {three, four}, {four}, {four, nil}, {three, {nil}}, {slowCyclic(5), looseSquare()},
		slowMols(4), slowMols(5), slowMols(5)[1:], slowMols(9), {scrambled(10, 1)}, tenMols(), {slowCyclic(11)}, {{{math.MinInt64, math.MaxInt64}}},
	}
}

// wildGroups are valid and invalid groups.
func wildGroups() []impl.Group {
	groups := []impl.Group{
		{}, {Degree: 3}, {Degree: 0, Elements: [][]int64{{}}}, {Degree: 3, Elements: [][]int64{{1, 2, 0}}}, {Degree: 3, Elements: [][]int64{{0, 1, 2}, {1, 2, 0}}},
		{Degree: 2, Elements: [][]int64{{1, 0}, {0, 1}}}, {Degree: 2, Elements: [][]int64{{0, 1}, {0, 1}}}, {Degree: 3, Elements: [][]int64{{0, 1}, {1, 0}}},
		{Degree: 2, Elements: [][]int64{{0, 1}, nil}}, {Degree: 2, Elements: [][]int64{{0, 1}, {1, 1}}}, {Degree: math.MaxInt64, Elements: [][]int64{{0}}},
		{Degree: math.MinInt64, Elements: slices.Repeat([][]int64{{0}}, impl.MaxGroup+1)}, {Degree: 33, Elements: [][]int64{upTo(33)}},
		{Degree: 1, Elements: [][]int64{{0}}}, {Degree: 4, Elements: [][]int64{{0, 1, 2, 3}, {0, 3, 2, 1}}}, {Degree: 32, Elements: [][]int64{upTo(32), reversed(32)}},
	}
	for _, generators := range [][][]int64{{{1, 2, 3, 0}}, {{1, 2, 3, 0}, {0, 3, 2, 1}}, {{1, 2, 3, 4, 0}, {1, 0, 2, 3, 4}}} {
		g, _ := impl.MakeGroup(int64(len(generators[0])), generators)
		groups = append(groups, g)
	}
	return groups
}

// wildDesigns are valid and invalid designs; functions of many parameters are given few of them, to save time.
func wildDesigns(parameters int) []impl.Design {
	few := []impl.Design{
		{}, designWith(3, []int64{1, 2}, []int64{0, 1}), designWith(4, []int64{0, 3}, []int64{1, 2}), slowTriples(3), slowTriples(7), slowTriples(9), slowTriples(27), times(slowTriples(3), 2), allBlocks(4, 3),
	}
	if parameters > 2 {
		return few
	}
	return append(few, []impl.Design{
		{Points: 1}, {Points: 4}, {Points: impl.MaxPoints}, {Points: impl.MaxPoints + 1}, {Points: math.MinInt64}, {Points: math.MaxInt64}, designWith(0, nil), designWith(1, []int64{0}), designWith(2, []int64{0, 1}), designWith(2, []int64{0}, []int64{0, 1}),
		designWith(3, []int64{0, 1}, []int64{0, 1}, []int64{0, 2}), designWith(3, []int64{0}, nil), designWith(3, []int64{3}), designWith(3, []int64{1, 0}), designWith(3, []int64{-1}), designWith(3, []int64{math.MinInt64, math.MaxInt64}),
		designWith(4, []int64{0, 1, 2}, []int64{0, 1, 2}, []int64{2, 3}), fano(), slowPlane(3), crosses(), times(fano(), 18), times(fano(), 19), designWith(impl.MaxPoints, upTo(impl.MaxPoints-1), upTo(impl.MaxPoints)),
		times(designWith(impl.MaxPoints, upTo(impl.MaxPoints)), impl.MaxBlocks), times(designWith(impl.MaxPoints, []int64{31}), impl.MaxBlocks+1), allBlocks(impl.MaxPoints, 1), scattered(10, 20), scattered(12, 64),
		slowTriples(13), withBlock(slowTriples(13), 20, 0, 11, 12), allBlocks(4, 2), slowPlane(5), slowProjective(4), slowProjective(5), renamed(slowAffine(4), mixed(16, 1)),
	}...)
}

// wildArguments returns arguments of a type of parameter.
func wildArguments(t *testing.T, of reflect.Type, parameters int) []any {
	t.Helper()
	var all []any
	switch of {
	case reflect.TypeOf(int64(0)):
		for _, n := range wildNumbers(parameters) {
			all = append(all, n)
		}
	case reflect.TypeOf([]int64{}):
		for _, list := range wildLists(parameters) {
			all = append(all, list)
		}
	case reflect.TypeOf(""):
		for _, s := range wildStrings() {
			all = append(all, s)
		}
	case reflect.TypeOf(impl.Field{}):
		for _, f := range wildFields() {
			all = append(all, f)
		}
	case reflect.TypeOf([][]int64{}):
		for _, rows := range slices.Concat(wildRows(), wildBlocks(parameters)) {
			all = append(all, rows)
		}
	case reflect.TypeOf([][][]int64{}):
		for _, tables := range wildTables() {
			all = append(all, tables)
		}
	case reflect.TypeOf(impl.Group{}):
		for _, g := range wildGroups() {
			all = append(all, g)
		}
	case reflect.TypeOf(impl.Design{}):
		for _, d := range wildDesigns(parameters) {
			all = append(all, d)
		}
	default:
		t.Fatalf("no arguments of the type %v", of)
	}
	return all
}

// withRoom returns a copy of a value in which every list has spare capacity that is filled.
func withRoom(v any) any {
	switch v := v.(type) {
	case []int64:
		return listWithRoom(v)
	case [][]int64:
		return rowsWithRoom(v)
	case [][][]int64:
		return tablesWithRoom(v)
	case impl.Field:
		v.Poly = listWithRoom(v.Poly)
		return v
	case impl.Group:
		v.Elements = rowsWithRoom(v.Elements)
		return v
	case impl.Design:
		v.Blocks = rowsWithRoom(v.Blocks)
		return v
	}
	return v
}

func listWithRoom(list []int64) []int64 {
	room := append(append(make([]int64, 0, len(list)+4), list...), 71, 72, 73, 74)
	return room[:len(list)]
}

func rowsWithRoom(rows [][]int64) [][]int64 {
	room := make([][]int64, 0, len(rows)+2)
	for _, row := range rows {
		room = append(room, listWithRoom(row))
	}
	room = append(room, []int64{75}, []int64{76})
	return room[:len(rows)]
}

func tablesWithRoom(tables [][][]int64) [][][]int64 {
	room := make([][][]int64, 0, len(tables)+2)
	for _, rows := range tables {
		room = append(room, rowsWithRoom(rows))
	}
	room = append(room, [][]int64{{77}}, [][]int64{{78}, {79}})
	return room[:len(tables)]
}

// tablesOf returns the lists of lists that a value is or has, among them those in the spare capacity.
func tablesOf(v any) [][][]int64 {
	switch v := v.(type) {
	case [][]int64:
		return [][][]int64{v[:cap(v)]}
	case impl.Group:
		return [][][]int64{v.Elements[:cap(v.Elements)]}
	case impl.Design:
		return [][][]int64{v.Blocks[:cap(v.Blocks)]}
	case [][][]int64:
		var tables [][][]int64
		for _, rows := range v[:cap(v)] {
			tables = append(tables, rows[:cap(rows)])
		}
		return tables
	}
	return nil
}

// listsOf returns the lists that a value is or has, among them those in the spare capacity of a list of lists.
func listsOf(v any) [][]int64 {
	switch v := v.(type) {
	case []int64:
		return [][]int64{v}
	case impl.Field:
		return [][]int64{v.Poly}
	}
	return slices.Concat(tablesOf(v)...)
}

// wholeText prints values together with the spare capacity of their lists.
func wholeText(values []any) string {
	var b strings.Builder
	for _, v := range values {
		fmt.Fprintf(&b, "%v;", v)
		for _, list := range listsOf(v) {
			fmt.Fprintf(&b, "%d of %v;", len(list), list[:cap(list)])
		}
	}
	return b.String()
}

// spoil overwrites the lists among values up to their capacity, each with a number of its own. It reports whether
// some of them share memory.
func spoil(values []any) bool {
	var lists [][]int64
	for _, v := range values {
		for _, list := range listsOf(v) {
			lists = append(lists, list[:cap(list)])
		}
	}
	for i, list := range lists {
		copy(list, repeated(len(list), -987654-int64(i)))
	}
	shared := false
	for i, list := range lists {
		shared = shared || !slices.Equal(list, repeated(len(list), -987654-int64(i)))
	}
	for _, v := range values {
		for _, rows := range tablesOf(v) {
			clear(rows)
		}
		if tables, ok := v.([][][]int64); ok {
			clear(tables[:cap(tables)])
		}
	}
	return shared
}

func callOf(f reflect.Value, arguments []any) []any {
	in := make([]reflect.Value, len(arguments))
	for i, a := range arguments {
		in[i] = reflect.ValueOf(a)
	}
	var out []any
	for _, r := range f.Call(in) {
		out = append(out, r.Interface())
	}
	return out
}

// checkFailure checks that all results beside a code other than OK or beside false are zero values.
func checkFailure(t *testing.T, name, what string, results []any) {
	t.Helper()
	last := len(results) - 1
	if last == 0 || name == "PrimePower" { // whose last result is an exponent
		return
	}
	if results[last] != true && results[last] != int64(impl.OK) {
		failed(t, what, 0, 0, results[:last]...)
	}
}

// checkCall calls a function repeatedly, spoils what it returned, and looks for changed arguments and results.
func checkCall(t *testing.T, name string, f reflect.Value, arguments []any) {
	t.Helper()
	what := fmt.Sprintf("%s%.200v", name, arguments)
	defer func() {
		if r := recover(); r != nil {
			t.Errorf("%s: panic: %v", what, r)
		}
	}()
	given := make([]any, len(arguments))
	for i, a := range arguments {
		given[i] = withRoom(a)
	}
	before := wholeText(given)
	first := callOf(f, given)
	second := callOf(f, given)
	result := fmt.Sprint(second)
	same(t, what+" twice", first, second)
	checkFailure(t, name, what, second)
	same(t, what+" changes its arguments", wholeText(given), before)
	if spoil(first) {
		t.Errorf("%s: lists of the results share memory", what)
	}
	same(t, what+" shares memory with its arguments", wholeText(given), before)
	same(t, what+" shares memory with another result", fmt.Sprint(second), result)
	same(t, what+" returns memory that it keeps", fmt.Sprint(callOf(f, given)), result)
}

// spread returns some elements from all over a list: at most 15000, to save time.
func spread[T any](list []T) []T {
	const most, step = 15000, 7919
	if len(list) <= most {
		return list
	}
	var some []T
	for i := range most {
		some = append(some, list[i*step%len(list)])
	}
	return some
}

// checkPure calls a function with combinations of wild arguments: with all, unless they are too many.
func checkPure(t *testing.T, name string, function any) {
	t.Helper()
	f := reflect.ValueOf(function)
	parameters := f.Type().NumIn()
	combinations := [][]any{nil}
	for i := range parameters {
		var longer [][]any
		for _, c := range combinations {
			for _, a := range wildArguments(t, f.Type().In(i), parameters) {
				longer = append(longer, append(c[:len(c):len(c)], a))
			}
		}
		combinations = longer
	}
	for _, c := range spread(combinations) {
		checkCall(t, name, f, c)
	}
}
