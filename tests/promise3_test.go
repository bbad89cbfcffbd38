package tests

import (
	"fmt"
	"math"
	"testing"

	"loop.example/g00920/impl"
)

// slowGcd tries all common divisors of two numbers that are not negative.
func slowGcd(a, b int64) int64 {
	for d := max(a, b); d > 0; d-- {
		if a%d == 0 && b%d == 0 {
			return d
		}
	}
	return 0
}

func TestGcd(t *testing.T) {
	same(t, "example", impl.Gcd(-12, 18), 6)
	for a := int64(0); a <= 40; a++ {
		for b := int64(0); b <= 40; b++ {
			want := slowGcd(a, b)
			got := []int64{impl.Gcd(a, b), impl.Gcd(-a, b), impl.Gcd(a, -b), impl.Gcd(-a, -b)}
			same(t, fmt.Sprint("divisors of ", a, " and ", b), got, repeated(4, want))
		}
	}
	same(t, "ends", []int64{impl.Gcd(impl.MaxNumber, -impl.MaxNumber), impl.Gcd(0, impl.MaxNumber), impl.Gcd(999999, impl.MaxNumber)}, []int64{impl.MaxNumber, impl.MaxNumber, 1})
	for _, x := range []int64{impl.MaxNumber + 1, -impl.MaxNumber - 1, math.MaxInt64, math.MinInt64} {
		same(t, "beyond the ends", []int64{impl.Gcd(x, 1), impl.Gcd(1, x), impl.Gcd(x, x), impl.Gcd(x, 0)}, repeated(4, 0))
	}
}

func TestPowers(t *testing.T) {
	for m := int64(1); m <= 40; m++ {
		for a := range m {
			want := 1 % m
			for e := int64(0); e <= 20; e++ {
				got, code := impl.PowerMod(a, e, m)
				same(t, fmt.Sprint(a, " to the power ", e, " modulo ", m), []int64{got, code}, []int64{want, impl.OK})
				want = want * a % m
			}
		}
	}
}

func TestGreatPowers(t *testing.T) {
	for _, c := range [][2]int64{{999, 1000}, {998, 1000}, {2, 997}, {996, 997}, {0, 1}, {0, 1000}, {500, 1000}} {
		a, m := c[0], c[1]
		want := 1 % m
		for range impl.MaxNumber {
			want = want * a % m
		}
		got, code := impl.PowerMod(a, impl.MaxNumber, m)
		same(t, fmt.Sprint("the greatest power of ", a, " modulo ", m), []int64{got, code}, []int64{want, impl.OK})
	}
}

// wrongResidues are pairs of a number and a modulus of which one is not valid.
func wrongResidues() [][2]int64 {
	return [][2]int64{{0, 0}, {0, -1}, {1, -5}, {0, 1001}, {1, 1001}, {-1, 10}, {10, 10}, {1, 1}, {-1, 1}, {1000, 1000},
		{math.MinInt64, 10}, {math.MaxInt64, 10}, {0, math.MinInt64}, {0, math.MaxInt64}}
}

func TestWrongResidues(t *testing.T) {
	for _, c := range wrongResidues() {
		a, m := c[0], c[1]
		power, code := impl.PowerMod(a, 1, m)
		failed(t, fmt.Sprint("PowerMod ", c), code, impl.ErrRange, power)
		inverse, code := impl.InverseMod(a, m)
		failed(t, fmt.Sprint("InverseMod ", c), code, impl.ErrRange, inverse)
		order, code := impl.OrderMod(a, m)
		failed(t, fmt.Sprint("OrderMod ", c), code, impl.ErrRange, order)
		x, all, code := impl.SolveChinese(a, m, 0, 1)
		failed(t, fmt.Sprint("SolveChinese ", c), code, impl.ErrRange, x, all)
		x, all, code = impl.SolveChinese(0, 1, a, m)
		failed(t, fmt.Sprint("SolveChinese with a second ", c), code, impl.ErrRange, x, all)
		same(t, fmt.Sprint("IsSquareMod ", c), impl.IsSquareMod(a, m), false)
	}
	for _, e := range []int64{-1, impl.MaxNumber + 1, math.MinInt64, math.MaxInt64} {
		power, code := impl.PowerMod(3, e, 10)
		failed(t, fmt.Sprint("the power ", e), code, impl.ErrRange, power)
	}
}

func TestInverses(t *testing.T) {
	x, code := impl.InverseMod(3, 10)
	same(t, "example", []int64{x, code}, []int64{7, impl.OK})
	for m := int64(1); m <= impl.MaxModulus; m += 1 + m/20 {
		for a := range m {
			what := fmt.Sprint("inverse of ", a, " modulo ", m)
			x, code := impl.InverseMod(a, m)
			if slowGcd(a, m) != 1 {
				failed(t, what, code, impl.ErrNotFound, x)
				continue
			}
			if code != impl.OK || x < 0 || x >= m || a*x%m != 1%m {
				t.Errorf("%s: got %d and the code %d", what, x, code)
			}
		}
	}
}

func TestOrders(t *testing.T) {
	e, code := impl.OrderMod(3, 10)
	same(t, "example", []int64{e, code}, []int64{4, impl.OK})
	for m := int64(1); m <= 130; m++ {
		for a := range m {
			what := fmt.Sprint("order of ", a, " modulo ", m)
			want, power := int64(1), a
			for power != 1%m && want <= m {
				power, want = power*a%m, want+1
			}
			e, code := impl.OrderMod(a, m)
			if want > m {
				failed(t, what, code, impl.ErrNotFound, e)
			} else {
				same(t, what, []int64{e, code}, []int64{want, impl.OK})
			}
		}
	}
}

func TestModulusOne(t *testing.T) {
	x, one := impl.InverseMod(0, 1)
	e, two := impl.OrderMod(0, 1)
	p, three := impl.PowerMod(0, 0, 1)
	y, all, four := impl.SolveChinese(0, 1, 0, 1)
	same(t, "modulus 1", []int64{x, one, e, two, p, three, y, all, four}, []int64{0, 0, 1, 0, 0, 0, 0, 1, 0})
	same(t, "squares modulo 1", []any{len(impl.SquaresMod(1)), impl.IsSquareMod(0, 1), impl.IsSquareMod(1, 1)}, []any{0, false, false})
	_, code := impl.PrimitiveRoot(1)
	same(t, "primitive root of 1", code, impl.ErrRange)
}

// leastDivisors returns, for each number up to MaxNumber, its least divisor that is not 1.
func leastDivisors() []int64 {
	least := make([]int64, impl.MaxNumber+1)
	for d := int64(2); d <= impl.MaxNumber; d++ {
		if least[d] != 0 {
			continue
		}
		for x := d; x <= impl.MaxNumber; x += d {
			if least[x] == 0 {
				least[x] = d
			}
		}
	}
	return least
}

func slowFactors(n int64, least []int64) []int64 {
	var factors []int64
	for ; n > 1; n /= least[n] {
		factors = append(factors, least[n])
	}
	return factors
}

func checkFactors(t *testing.T, n int64, least []int64) {
	t.Helper()
	factors := slowFactors(n, least)
	same(t, fmt.Sprint("factors of ", n), impl.FactorsOf(n), factors)
	same(t, fmt.Sprint(n, " is prime"), impl.IsPrime(n), len(factors) == 1)
	want := []int64{0, 0}
	if len(factors) > 0 && factors[0] == factors[len(factors)-1] {
		want = []int64{factors[0], int64(len(factors))}
	}
	p, k := impl.PrimePower(n)
	same(t, fmt.Sprint("power ", n), []int64{p, k}, want)
}

func TestFactors(t *testing.T) {
	least := leastDivisors()
	for n := int64(1); n <= 3000; n++ {
		checkFactors(t, n, least)
	}
	for n := int64(impl.MaxNumber - 1000); n <= impl.MaxNumber; n++ {
		checkFactors(t, n, least)
	}
	for r := int64(900); r <= 1000; r++ {
		checkFactors(t, r*r, least)
	}
	for _, n := range []int64{1 << 19, 531441, 994009, 997 * 991, 2 * 499979, 970299, 912673} {
		checkFactors(t, n, least)
	}
	same(t, "examples", []any{impl.FactorsOf(12), impl.IsPrime(999983)}, []any{[]int64{2, 2, 3}, true})
}

func TestNoFactors(t *testing.T) {
	same(t, "one", []any{len(impl.FactorsOf(1)), impl.IsPrime(1)}, []any{0, false})
	for _, n := range []int64{0, -1, -2, -7, -8, 1000001, 1000003, 1 << 20, math.MaxInt64, math.MinInt64} {
		p, k := impl.PrimePower(n)
		same(t, fmt.Sprint("factors of ", n), []any{len(impl.FactorsOf(n)), impl.IsPrime(n), p, k}, []any{0, false, 0, 0})
	}
}

// generates reports whether all residues of a prime number other than 0 are powers of a.
func generates(a, p int64) bool {
	seen := map[int64]bool{}
	for power := a; !seen[power]; power = power * a % p {
		seen[power] = true
	}
	return int64(len(seen)) == p-1 && !seen[0]
}

func TestPrimitiveRoots(t *testing.T) {
	for p := int64(-3); p <= impl.MaxModulus; p++ {
		a, code := impl.PrimitiveRoot(p)
		if !impl.IsPrime(p) {
			failed(t, fmt.Sprint("primitive root of ", p), code, impl.ErrRange, a)
			continue
		}
		want := int64(1)
		for !generates(want, p) {
			want++
		}
		same(t, fmt.Sprint("primitive root of ", p), []int64{a, code}, []int64{want, impl.OK})
	}
	for _, p := range []int64{1009, 999983, math.MaxInt64, math.MinInt64} {
		a, code := impl.PrimitiveRoot(p)
		failed(t, fmt.Sprint("primitive root of ", p), code, impl.ErrRange, a)
	}
}

func slowSquare(a, m int64) bool {
	for x := range m {
		if a > 0 && x*x%m == a {
			return true
		}
	}
	return false
}

func TestSquares(t *testing.T) {
	same(t, "example", impl.SquaresMod(7), []int64{1, 2, 4})
	for _, m := range []int64{1, 2, 3, 4, 5, 8, 9, 12, 16, 49, 60, 97, 100, 128, 360, 997, 1000} {
		var want []int64
		for a := int64(-1); a <= m; a++ {
			square := a < m && slowSquare(a, m)
			if square {
				want = append(want, a)
			}
			same(t, fmt.Sprint(a, " is a square modulo ", m), impl.IsSquareMod(a, m), square)
		}
		same(t, fmt.Sprint("squares modulo ", m), impl.SquaresMod(m), want)
	}
	for _, m := range []int64{0, -1, -7, 1001, math.MaxInt64, math.MinInt64} {
		same(t, fmt.Sprint("squares modulo ", m), len(impl.SquaresMod(m)), 0)
	}
}

// slowChinese tries all numbers up to the least common multiple.
func slowChinese(a, m, b, n int64) []int64 {
	all := m
	for all%n != 0 {
		all += m
	}
	for x := range all {
		if x%m == a && x%n == b {
			return []int64{x, all, impl.OK}
		}
	}
	return []int64{0, 0, impl.ErrNotFound}
}

func checkChinese(t *testing.T, a, m, b, n int64) {
	t.Helper()
	x, all, code := impl.SolveChinese(a, m, b, n)
	same(t, fmt.Sprint(a, " modulo ", m, " and ", b, " modulo ", n), []int64{x, all, code}, slowChinese(a, m, b, n))
}

func TestChinese(t *testing.T) {
	x, all, code := impl.SolveChinese(2, 3, 3, 5)
	same(t, "example", []int64{x, all, code}, []int64{8, 15, impl.OK})
	for m := int64(1); m <= 16; m++ {
		for n := int64(1); n <= 16; n++ {
			for a := range m {
				for b := range n {
					checkChinese(t, a, m, b, n)
				}
			}
		}
	}
	for _, c := range [][4]int64{{999, 1000, 998, 999}, {0, 1000, 998, 999}, {999, 1000, 999, 1000}, {0, 1000, 1, 1000}, {998, 1000, 4, 750}, {0, 1, 999, 1000}, {999, 1000, 0, 1}, {0, 997, 990, 991}} {
		checkChinese(t, c[0], c[1], c[2], c[3])
	}
}
