package tests

import (
	"fmt"
	"math"
	"slices"
	"testing"

	"loop.example/g00920/impl"
)

// allFieldOrders are the prime powers up to 64.
func allFieldOrders() []int64 {
	return []int64{2, 3, 4, 5, 7, 8, 9, 11, 13, 16, 17, 19, 23, 25, 27, 29, 31, 32, 37, 41, 43, 47, 49, 53, 59, 61, 64}
}

// primeAndDegree returns the prime number and the exponent of a prime power.
func primeAndDegree(q int64) (int64, int64) {
	p := int64(2)
	for q%p != 0 {
		p++
	}
	degree := int64(0)
	for ; q > 1; q /= p {
		degree++
	}
	return p, degree
}

// slowDigits returns the digits of a number, the lowest one first.
func slowDigits(n, base, count int64) []int64 {
	digits := make([]int64, count)
	for i := range digits {
		digits[i] = n % base
		n /= base
	}
	return digits
}

func slowNumber(digits []int64, base int64) int64 {
	n, place := int64(0), int64(1)
	for _, d := range digits {
		n += d * place
		place *= base
	}
	return n
}

// monic returns a polynomial with the highest coefficient 1 and the digits of a number before it.
func monic(low, p, degree int64) []int64 { return append(slowDigits(low, p, degree), 1) }

func power(base, e int64) int64 {
	n := int64(1)
	for range e {
		n *= base
	}
	return n
}

// reducibles returns which of the monic polynomials of a degree are products, by the numbers of their lower coefficients.
func reducibles(p, degree int64) map[int64]bool {
	found := map[int64]bool{}
	for d := int64(1); d < degree; d++ {
		for i := range power(p, d) {
			for j := range power(p, degree-d) {
				product := make([]int64, degree+1)
				for x, c := range monic(i, p, d) {
					for y, e := range monic(j, p, degree-d) {
						product[x+y] = (product[x+y] + c*e) % p
					}
				}
				found[slowNumber(product[:degree], p)] = true
			}
		}
	}
	return found
}

func slowAdd(f impl.Field, a, b int64) int64 {
	sum := slowDigits(a, f.Prime, f.Degree)
	for i, d := range slowDigits(b, f.Prime, f.Degree) {
		sum[i] = (sum[i] + d) % f.Prime
	}
	return slowNumber(sum, f.Prime)
}

// timesX returns the product of an element, as its digits, with the polynomial x.
func timesX(f impl.Field, digits []int64) []int64 {
	product := append([]int64{0}, digits...)
	top := product[f.Degree]
	for i, c := range f.Poly {
		product[i] = (product[i] + top*(f.Prime-c)) % f.Prime
	}
	return product[:f.Degree]
}

func slowMul(f impl.Field, a, b int64) int64 {
	product := make([]int64, f.Degree)
	shifted := slowDigits(a, f.Prime, f.Degree)
	for _, c := range slowDigits(b, f.Prime, f.Degree) {
		for i := range product {
			product[i] = (product[i] + c*shifted[i]) % f.Prime
		}
		shifted = timesX(f, shifted)
	}
	return slowNumber(product, f.Prime)
}

// fieldTable is a table of sums or products.
type fieldTable [][]int64

// slowTables returns the sums and the products of all elements.
func slowTables(f impl.Field) (fieldTable, fieldTable) {
	q := power(f.Prime, f.Degree)
	var sums, products fieldTable
	for a := range q {
		sums, products = append(sums, nil), append(products, nil)
		for b := range q {
			sums[a] = append(sums[a], slowAdd(f, a, b))
			products[a] = append(products[a], slowMul(f, a, b))
		}
	}
	return sums, products
}

func mustField(t *testing.T, q int64) impl.Field {
	t.Helper()
	f, code := impl.MakeField(q)
	if code != impl.OK || !impl.ValidField(f) {
		t.Fatalf("field of the size %d: got %v and the code %d", q, f, code)
	}
	return f
}

// someFields are the fields of all sizes, and fields with other polynomials.
func someFields(t *testing.T) []impl.Field {
	var fields []impl.Field
	for _, q := range allFieldOrders() {
		fields = append(fields, mustField(t, q))
	}
	return append(fields,
		impl.Field{Prime: 2, Degree: 1, Poly: []int64{1, 1}}, impl.Field{Prime: 5, Degree: 1, Poly: []int64{3, 1}},
		impl.Field{Prime: 61, Degree: 1, Poly: []int64{60, 1}}, impl.Field{Prime: 3, Degree: 2, Poly: []int64{2, 1, 1}},
		impl.Field{Prime: 2, Degree: 3, Poly: []int64{1, 0, 1, 1}}, impl.Field{Prime: 2, Degree: 4, Poly: []int64{1, 1, 1, 1, 1}},
		impl.Field{Prime: 7, Degree: 2, Poly: []int64{3, 6, 1}}, impl.Field{Prime: 2, Degree: 6, Poly: []int64{1, 0, 0, 1, 0, 0, 1}})
}

func TestFieldOrders(t *testing.T) {
	same(t, "sizes of fields", impl.FieldOrders(), allFieldOrders())
	same(t, "greatest size", impl.MaxField, 64)
}

func TestMakeField(t *testing.T) {
	for q := int64(-10); q <= 1100; q++ {
		f, code := impl.MakeField(q)
		if !slices.Contains(allFieldOrders(), q) {
			failed(t, fmt.Sprint("field of the size ", q), code, impl.ErrRange, f)
			continue
		}
		p, degree := primeAndDegree(q)
		reducible := reducibles(p, degree)
		least := int64(0)
		for reducible[least] {
			least++
		}
		same(t, fmt.Sprint("field of the size ", q), []any{f, code}, []any{impl.Field{Prime: p, Degree: degree, Poly: monic(least, p, degree)}, impl.OK})
		same(t, "size", []any{impl.FieldSize(f), impl.ValidField(f)}, []any{q, true})
	}
	for _, q := range []int64{math.MinInt64, math.MaxInt64, 1 << 16, 1 << 40, 999983, 1000003} {
		f, code := impl.MakeField(q)
		failed(t, fmt.Sprint("field of the size ", q), code, impl.ErrRange, f)
	}
}

// TestAllFields checks ValidField for all polynomials with the highest coefficient 1.
func TestAllFields(t *testing.T) {
	for _, q := range allFieldOrders() {
		p, degree := primeAndDegree(q)
		reducible := reducibles(p, degree)
		for low := range q {
			f := impl.Field{Prime: p, Degree: degree, Poly: monic(low, p, degree)}
			size := q
			if reducible[low] {
				size = -1
			}
			same(t, fmt.Sprint("validity and size of ", f), []any{impl.ValidField(f), impl.FieldSize(f)}, []any{!reducible[low], size})
		}
	}
}

// invalidFields are fields that break one of the conditions each.
func invalidFields() []impl.Field {
	fields := []impl.Field{{}, {Prime: 2}, {Prime: 2, Degree: 1}, {Degree: 1, Poly: []int64{0, 1}}}
	for _, p := range []int64{-3, -2, -1, 0, 1, 4, 6, 8, 9, 15, 49, 64, 67, 97, 999983, 1000003, 1 << 32, math.MaxInt64, math.MinInt64} {
		fields = append(fields, impl.Field{Prime: p, Degree: 1, Poly: []int64{0, 1}})
	}
	for _, degree := range []int64{0, -1, -2, 1, 3, 4, 63, 64, 1 << 32, math.MaxInt64, math.MinInt64} {
		fields = append(fields, impl.Field{Prime: 3, Degree: degree, Poly: []int64{1, 0, 1}})
	}
	for _, poly := range [][]int64{
		nil, {1}, {1, 0}, {0, 1}, {1, 1}, {1, 0, 1, 0}, {0, 1, 0, 1}, {1, 0, 0}, {1, 0, 2}, {2, 0, 2}, {1, 0, 4}, {1, 0, -2}, {4, 0, 1}, {1, 3, 1}, {-2, 0, 1}, {1, -3, 1},
		{3, 0, 1}, {0, 0, 1}, {2, 0, 1}, {1, 1, 1}, {0, 1, 1}, {math.MinInt64, 0, 1}, {1, math.MaxInt64, 1}, {1, 0, math.MinInt64}, repeated(1000, 1),
	} {
		fields = append(fields, impl.Field{Prime: 3, Degree: 2, Poly: poly})
	}
	return append(fields,
		impl.Field{Prime: 2, Degree: 7, Poly: []int64{1, 1, 0, 0, 0, 0, 0, 1}}, impl.Field{Prime: 3, Degree: 4, Poly: []int64{2, 1, 0, 0, 1}},
		impl.Field{Prime: 5, Degree: 3, Poly: []int64{1, 1, 0, 1}}, impl.Field{Prime: 11, Degree: 2, Poly: []int64{1, 0, 1}},
		impl.Field{Prime: 4, Degree: 2, Poly: []int64{2, 1, 1}}, impl.Field{Prime: 8, Degree: 2, Poly: []int64{1, 1, 1}},
		impl.Field{Prime: 2, Degree: 0, Poly: []int64{1}}, impl.Field{Prime: 7, Degree: 1, Poly: []int64{7, 1}}, impl.Field{Prime: 7, Degree: 1, Poly: []int64{-1, 1}},
		// Products without linear factors.
		impl.Field{Prime: 2, Degree: 4, Poly: []int64{1, 0, 1, 0, 1}}, impl.Field{Prime: 2, Degree: 5, Poly: []int64{1, 0, 0, 0, 1, 1}},
		impl.Field{Prime: 2, Degree: 6, Poly: []int64{1, 0, 1, 0, 0, 0, 1}}, impl.Field{Prime: 2, Degree: 6, Poly: []int64{1, 1, 1, 1, 1, 1, 1}})
}

// unary and binary are the functions with the result -1 where there is none.
func unary() map[string]func(f impl.Field, a int64) int64 {
	return map[string]func(f impl.Field, a int64) int64{
		"FieldInverse": impl.FieldInverse, "FieldOrder": impl.FieldOrder, "FieldTrace": impl.FieldTrace,
		"FieldPower":  func(f impl.Field, a int64) int64 { return impl.FieldPower(f, a, 1) },
		"the power 0": func(f impl.Field, a int64) int64 { return impl.FieldPower(f, a, 0) },
	}
}

func binary() map[string]func(f impl.Field, a, b int64) int64 {
	return map[string]func(f impl.Field, a, b int64) int64{"FieldAdd": impl.FieldAdd, "FieldSub": impl.FieldSub, "FieldMul": impl.FieldMul}
}

func TestInvalidFields(t *testing.T) {
	for _, f := range invalidFields() {
		what := fmt.Sprintf("%.100v", fmt.Sprint(f))
		same(t, what, []any{impl.ValidField(f), impl.FieldSize(f), impl.PrimitiveElement(f), len(impl.LogTable(f)), len(impl.FieldSquares(f))}, []any{false, -1, -1, 0, 0})
		for _, a := range []int64{-1, 0, 1, 2} {
			for name, function := range unary() {
				same(t, name+" of "+what, function(f, a), -1)
			}
			for name, function := range binary() {
				same(t, name+" of "+what, []int64{function(f, a, 0), function(f, 0, a), function(f, a, a)}, repeated(3, -1))
			}
		}
	}
}

func TestElementsThatAreNotThere(t *testing.T) {
	for _, f := range someFields(t) {
		q := impl.FieldSize(f)
		for _, a := range []int64{-1, -q, q, q + 1, 2 * q, 64, 65, 1 << 32, math.MinInt64, math.MaxInt64} {
			if a >= 0 && a < q {
				continue
			}
			what := fmt.Sprint(" of ", a, " in ", f)
			for name, function := range unary() {
				same(t, name+what, function(f, a), -1)
			}
			for name, function := range binary() {
				same(t, name+what, []int64{function(f, a, 0), function(f, 0, a), function(f, q-1, a), function(f, a, 1), function(f, a, a)}, repeated(5, -1))
			}
		}
		same(t, fmt.Sprint("zero in ", f), []int64{impl.FieldInverse(f, 0), impl.FieldOrder(f, 0)}, []int64{-1, -1})
		for _, n := range []int64{-1, -2, math.MinInt64} {
			same(t, fmt.Sprint("the power ", n, " in ", f), []int64{impl.FieldPower(f, 0, n), impl.FieldPower(f, 1, n), impl.FieldPower(f, q-1, n)}, repeated(3, -1))
		}
	}
}

func TestFieldTables(t *testing.T) {
	for _, f := range someFields(t) {
		sums, products := slowTables(f)
		var gotSums, gotProducts fieldTable
		for a := range impl.FieldSize(f) {
			gotSums, gotProducts = append(gotSums, nil), append(gotProducts, nil)
			for b := range impl.FieldSize(f) {
				gotSums[a] = append(gotSums[a], impl.FieldAdd(f, a, b))
				gotProducts[a] = append(gotProducts[a], impl.FieldMul(f, a, b))
				difference := impl.FieldSub(f, a, b)
				if difference < 0 || difference >= int64(len(sums)) || sums[difference][b] != a {
					t.Errorf("%v: the difference of %d and %d is %d", f, a, b, difference)
				}
			}
		}
		same(t, fmt.Sprint("sums in ", f), gotSums, sums)
		same(t, fmt.Sprint("products in ", f), gotProducts, products)
		if !t.Failed() {
			checkLaws(t, f, gotSums, gotProducts)
		}
	}
}

// checkLaws checks the laws of fields on the tables of all sums and products.
func checkLaws(t *testing.T, f impl.Field, add, mul fieldTable) {
	t.Helper()
	for a := range add {
		x := int64(a)
		if add[a][0] != x || mul[a][1] != x || mul[a][0] != 0 || !slices.Contains(add[a], 0) || (a != 0) != slices.Contains(mul[a], 1) {
			t.Errorf("%v: zero, one, and the inverses of %d: %v, %v", f, a, add[a], mul[a])
		}
		for b := range add {
			if add[a][b] != add[b][a] || mul[a][b] != mul[b][a] || (mul[a][b] == 0) != (a == 0 || b == 0) {
				t.Errorf("%v: %d and %d in the other order", f, a, b)
			}
			for c := range add {
				if add[add[a][b]][c] != add[a][add[b][c]] || mul[mul[a][b]][c] != mul[a][mul[b][c]] || mul[add[a][b]][c] != add[mul[a][c]][mul[b][c]] {
					t.Errorf("%v: associative and distributive laws for %d, %d, %d", f, a, b, c)
				}
			}
		}
	}
}

// slowPowers returns the powers of an element from 0 to n - 1.
func slowPowers(f impl.Field, a, n int64) []int64 {
	powers := []int64{1}
	for i := int64(1); i < n; i++ {
		powers = append(powers, slowMul(f, powers[i-1], a))
	}
	return powers
}

func TestFieldPowers(t *testing.T) {
	for _, f := range someFields(t) {
		q := impl.FieldSize(f)
		for a := range q {
			var powers []int64
			for n := range 2*q + 3 {
				powers = append(powers, impl.FieldPower(f, a, n))
			}
			same(t, fmt.Sprint("powers of ", a, " in ", f), powers, slowPowers(f, a, 2*q+3))
			for _, n := range []int64{1 << 31, 1 << 32, 1<<62 + 1, math.MaxInt64 - 1, math.MaxInt64} {
				// All powers but the first one repeat after q - 1.
				same(t, fmt.Sprint("the power ", n, " of ", a, " in ", f), impl.FieldPower(f, a, n), powers[n%(q-1)+q-1])
			}
		}
	}
}

func TestFieldInversesAndOrders(t *testing.T) {
	for _, f := range someFields(t) {
		q := impl.FieldSize(f)
		least := int64(0)
		for a := int64(1); a < q; a++ {
			what := fmt.Sprint(" of ", a, " in ", f)
			inverse := impl.FieldInverse(f, a)
			if inverse < 1 || inverse >= q || slowMul(f, a, inverse) != 1 {
				t.Errorf("inverse%s: got %d", what, inverse)
			}
			order := int64(slices.Index(slowPowers(f, a, q)[1:], 1) + 1)
			same(t, "order"+what, impl.FieldOrder(f, a), order)
			if order == q-1 && least == 0 {
				least = a
			}
		}
		same(t, fmt.Sprint("primitive element of ", f), impl.PrimitiveElement(f), least)
	}
}

func TestLogarithms(t *testing.T) {
	for _, f := range someFields(t) {
		q := impl.FieldSize(f)
		logs := impl.LogTable(f)
		want := repeated(int(q), -1)
		for n, a := range slowPowers(f, impl.PrimitiveElement(f), q-1) {
			want[a] = int64(n)
		}
		same(t, fmt.Sprint("logarithms of ", f), logs, want)
		if t.Failed() {
			return
		}
		for a := int64(1); a < q; a++ {
			for b := int64(1); b < q; b++ {
				same(t, fmt.Sprint("logarithm of ", a, " times ", b, " in ", f), logs[impl.FieldMul(f, a, b)], (logs[a]+logs[b])%(q-1))
			}
		}
	}
}

func TestTracesAndSquares(t *testing.T) {
	for _, f := range someFields(t) {
		q := impl.FieldSize(f)
		isSquare := map[int64]bool{}
		for a := range q {
			trace := int64(0)
			for k := range f.Degree {
				powers := slowPowers(f, a, power(f.Prime, k)+1)
				trace = slowAdd(f, trace, powers[len(powers)-1])
			}
			got := impl.FieldTrace(f, a)
			same(t, fmt.Sprint("trace of ", a, " in ", f), got, trace)
			if got < 0 || got >= f.Prime {
				t.Errorf("trace of %d in %v: got %d", a, f, got)
			}
			isSquare[slowMul(f, a, a)] = true
		}
		var squares []int64
		for a := int64(1); a < q; a++ {
			if isSquare[a] {
				squares = append(squares, a)
			}
		}
		same(t, fmt.Sprint("squares of ", f), impl.FieldSquares(f), squares)
	}
}

func TestFieldExample(t *testing.T) {
	f := mustField(t, 9)
	same(t, "field of the size 9", f, impl.Field{Prime: 3, Degree: 2, Poly: []int64{1, 0, 1}})
	same(t, "square of 3", []int64{impl.FieldMul(f, 3, 3), impl.FieldPower(f, 3, 2), impl.PrimitiveElement(f)}, []int64{2, 2, 4})
}

func TestFieldOfTwo(t *testing.T) {
	f := mustField(t, 2)
	same(t, "field of two elements", f, impl.Field{Prime: 2, Degree: 1, Poly: []int64{0, 1}})
	for _, poly := range [][]int64{{0, 1}, {1, 1}} {
		f.Poly = poly
		what := fmt.Sprint("of ", f)
		same(t, "sums "+what, []int64{impl.FieldAdd(f, 0, 0), impl.FieldAdd(f, 0, 1), impl.FieldAdd(f, 1, 0), impl.FieldAdd(f, 1, 1)}, []int64{0, 1, 1, 0})
		same(t, "differences "+what, []int64{impl.FieldSub(f, 0, 0), impl.FieldSub(f, 0, 1), impl.FieldSub(f, 1, 0), impl.FieldSub(f, 1, 1)}, []int64{0, 1, 1, 0})
		same(t, "products "+what, []int64{impl.FieldMul(f, 0, 0), impl.FieldMul(f, 0, 1), impl.FieldMul(f, 1, 0), impl.FieldMul(f, 1, 1)}, []int64{0, 0, 0, 1})
		same(t, "inverses and orders "+what, []int64{impl.FieldInverse(f, 0), impl.FieldInverse(f, 1), impl.FieldOrder(f, 0), impl.FieldOrder(f, 1), impl.PrimitiveElement(f)}, []int64{-1, 1, -1, 1, 1})
		same(t, "powers "+what, []int64{impl.FieldPower(f, 0, 0), impl.FieldPower(f, 0, 1), impl.FieldPower(f, 1, 0), impl.FieldPower(f, 1, math.MaxInt64), impl.FieldPower(f, 0, math.MaxInt64)}, []int64{1, 0, 1, 1, 0})
		same(t, "size, logarithms, traces and squares "+what, []any{impl.FieldSize(f), impl.LogTable(f), impl.FieldTrace(f, 0), impl.FieldTrace(f, 1), impl.FieldSquares(f)}, []any{2, []int64{-1, 0}, 0, 1, []int64{1}})
		same(t, "no elements "+what, []int64{impl.FieldAdd(f, 2, 0), impl.FieldMul(f, 0, 2), impl.FieldSub(f, -1, 0), impl.FieldInverse(f, 2), impl.FieldPower(f, 2, 0), impl.FieldOrder(f, 2), impl.FieldTrace(f, 2)}, repeated(7, -1))
	}
}

func TestSameField(t *testing.T) {
	fields := []impl.Field{
		{}, {Prime: 3}, {Degree: 2}, {Poly: []int64{0}}, {Poly: []int64{1, 0, 1}}, {Prime: 3, Degree: 2}, {Prime: 3, Degree: 2, Poly: []int64{1, 0, 1}},
		{Prime: 3, Degree: 2, Poly: []int64{2, 1, 1}}, {Prime: 3, Degree: 2, Poly: []int64{1, 0}}, {Prime: 3, Degree: 2, Poly: []int64{1, 0, 1, 0}},
		{Prime: 3, Degree: 3, Poly: []int64{1, 0, 1}}, {Prime: 7, Degree: 2, Poly: []int64{1, 0, 1}}, {Prime: -1, Degree: math.MaxInt64, Poly: []int64{math.MinInt64}},
	}
	for i, a := range fields {
		for j, b := range fields {
			b.Poly = slices.Clone(b.Poly)
			same(t, fmt.Sprint(a, " is ", b), impl.SameField(a, b), i == j)
		}
	}
	same(t, "nil and empty polynomials", []bool{impl.SameField(impl.Field{}, impl.Field{Poly: []int64{}}), impl.SameField(impl.Field{Poly: []int64{}}, impl.Field{})}, []bool{true, true})
}
