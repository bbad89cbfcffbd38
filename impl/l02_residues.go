package impl

import (
	"slices"
	"sort"
)

// Constants of chapter 2.
const (
	MaxModulus = 1000
	MaxNumber  = 1000000
)

// maxRoot is the square root of MaxNumber, beyond which no prime factor need be looked for.
const maxRoot = 1000

func isModulus(m int64) bool { return 1 <= m && m <= MaxModulus }

func isResidue(a, m int64) bool { return isModulus(m) && 0 <= a && a < m }

// reduceMod returns the residue of any number, also of a negative one.
func reduceMod(x, m int64) int64 { return (x%m + m) % m }

// extendedGcd returns the greatest common divisor g of two numbers that are
// not negative, and x and y with a x + b y = g.
func extendedGcd(a, b int64) (g, x, y int64) {
	if b == 0 {
		return a, 1, 0
	}
	g, x, y = extendedGcd(b, a%b)
	return g, y, x - a/b*y
}

// Gcd returns the greatest common divisor of two numbers.
func Gcd(a, b int64) int64 {
	if a < -MaxNumber || a > MaxNumber || b < -MaxNumber || b > MaxNumber {
		return 0
	}
	g, _, _ := extendedGcd(max(a, -a), max(b, -b))
	return g
}

// powersMod returns the function that raises a residue of m to a power.
func powersMod(m int64) func(a, e int64) int64 {
	times := func(x, y int64) int64 { return x * y % m }
	return func(a, e int64) int64 {
		power := 1 % m
		for ; e > 0; e /= 2 {
			if e%2 == 1 {
				power = times(power, a)
			}
			a = times(a, a)
		}
		return power
	}
}

// PowerMod returns a power of a residue.
func PowerMod(a, e, m int64) (int64, int64) {
	if !isResidue(a, m) || e < 0 || e > MaxNumber {
		return 0, ErrRange
	}
	power := powersMod(m)
	return power(a, e), OK
}

// InverseMod returns the inverse of a residue.
func InverseMod(a, m int64) (int64, int64) {
	if !isResidue(a, m) {
		return 0, ErrRange
	}
	g, x, _ := extendedGcd(a, m)
	if g != 1 {
		return 0, ErrNotFound
	}
	return reduceMod(x, m), OK
}

// sieve is a set of numbers from 0 to maxRoot, each of them a bit.
type sieve [maxRoot/64 + 1]uint64

func (s *sieve) mark(n int64) { s[n/64] |= 1 << uint(n%64) }

func (s *sieve) marked(n int64) bool { return s[n/64]>>uint(n%64)&1 == 1 }

// primesTo returns the prime numbers up to a limit, which is at most maxRoot.
func primesTo(limit int64) []int64 {
	var composite sieve
	var primes []int64
	for p := int64(2); p <= limit; p++ {
		if composite.marked(p) {
			continue
		}
		primes = append(primes, p)
		for multiple := p * p; multiple <= limit; multiple += p {
			composite.mark(multiple)
		}
	}
	return primes
}

// squareRoot returns the greatest number whose square is at most n, which is from 1 to MaxNumber.
func squareRoot(n int64) int64 {
	root := sort.Search(maxRoot, func(i int) bool { return int64(i+1)*int64(i+1) > n })
	return int64(root)
}

// IsPrime reports whether a number is prime.
func IsPrime(n int64) bool {
	return len(FactorsOf(n)) == 1
}

// FactorsOf returns the prime factors of a number.
func FactorsOf(n int64) []int64 {
	if n < 1 || n > MaxNumber {
		return nil
	}
	var factors []int64
	rest := n
	for _, p := range primesTo(squareRoot(n)) {
		for rest%p == 0 {
			factors = append(factors, p)
			rest /= p
		}
	}
	if rest > 1 {
		factors = append(factors, rest)
	}
	return factors
}

// PrimePower returns the prime and the exponent of a prime power.
func PrimePower(n int64) (int64, int64) {
	factors := FactorsOf(n)
	if len(factors) == 0 || factors[0] != factors[len(factors)-1] {
		return 0, 0
	}
	return factors[0], int64(len(factors))
}

// OrderMod returns the multiplicative order of a residue.
func OrderMod(a, m int64) (int64, int64) {
	if !isResidue(a, m) {
		return 0, ErrRange
	}
	if Gcd(a, m) != 1 {
		return 0, ErrNotFound
	}
	one := 1 % m
	order := int64(1)
	for power := a; power != one; power = power * a % m {
		order++
	}
	return order, OK
}

// PrimitiveRoot returns the least primitive root of a prime number.
func PrimitiveRoot(p int64) (int64, int64) {
	if !isModulus(p) || !IsPrime(p) {
		return 0, ErrRange
	}
	for a := int64(1); a < p; a++ {
		if order, _ := OrderMod(a, p); order == p-1 {
			return a, OK
		}
	}
	return 0, ErrNotFound
}

// IsSquareMod reports whether a residue other than 0 is a square.
func IsSquareMod(a, m int64) bool {
	return slices.Contains(SquaresMod(m), a)
}

// SquaresMod returns the squares other than 0 among the residues.
func SquaresMod(m int64) []int64 {
	if !isModulus(m) {
		return nil
	}
	isSquare := make([]bool, m)
	for x := range m {
		isSquare[x*x%m] = true
	}
	var squares []int64
	for a := int64(1); a < m; a++ {
		if isSquare[a] {
			squares = append(squares, a)
		}
	}
	return squares
}

// SolveChinese solves two congruences.
func SolveChinese(a, m, b, n int64) (int64, int64, int64) {
	if !isResidue(a, m) || !isResidue(b, n) {
		return 0, 0, ErrRange
	}
	// m s is g modulo n, so m times s (b - a) / g leads from a to b.
	g, s, _ := extendedGcd(m, n)
	if (b-a)%g != 0 {
		return 0, 0, ErrNotFound
	}
	steps := reduceMod((b-a)/g*s, n/g)
	return a + m*steps, m / g * n, OK
}
