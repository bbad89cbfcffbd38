package impl

import (
	"cmp"
	"math/bits"
	"strconv"
	"strings"
	"sync"
)

// Error codes of chapter 1.
const (
	OK = iota
	ErrInvalid
	ErrRange
	ErrNotFound
	ErrExists
	ErrFull
	ErrState
	ErrOrder
	ErrSyntax
	ErrFormat
	ErrChecksum
	ErrTruncated
)

// Limits of chapter 1.
const (
	MaxPoints = 32
	MaxName   = 10
	MaxList   = 100
	MaxBudget = 20000
	CrcStart  = 65535
)

const (
	maxDecimal  = 999999999999999999
	maxListed   = 999999999
	emptyList   = "-"
	listComma   = ","
	crcHighBit  = 32768
	crcFeedback = 4129
)

// isBudget reports whether a search may be given a budget.
func isBudget(budget int64) bool { return 1 <= budget && budget <= MaxBudget }

// CodeName returns the name of an error code.
func CodeName(code int64) string {
	names := [...]string{
		OK:           "ok",
		ErrInvalid:   "invalid",
		ErrRange:     "range",
		ErrNotFound:  "not-found",
		ErrExists:    "exists",
		ErrFull:      "full",
		ErrState:     "state",
		ErrOrder:     "order",
		ErrSyntax:    "syntax",
		ErrFormat:    "format",
		ErrChecksum:  "checksum",
		ErrTruncated: "truncated",
	}
	if code < 0 || code >= int64(len(names)) {
		return ""
	}
	return names[code]
}

func isSmallLetter(c byte) bool { return 'a' <= c && c <= 'z' }

func isDigit(c byte) bool { return '0' <= c && c <= '9' }

// IsName reports whether a string is a name.
func IsName(s string) bool {
	if len(s) < 1 || len(s) > MaxName || !isSmallLetter(s[0]) {
		return false
	}
	for i := 1; i < len(s); i++ {
		if !isSmallLetter(s[i]) && !isDigit(s[i]) {
			return false
		}
	}
	return true
}

// Decimal returns a number in decimal.
func Decimal(n int64) string { return strconv.FormatInt(n, 10) }

// ReadDecimal returns the number with a decimal form.
func ReadDecimal(s string) (int64, bool) {
	n, err := strconv.ParseInt(s, 10, 64)
	if err != nil || n < -maxDecimal || n > maxDecimal {
		return 0, false
	}
	// ParseInt also reads leading zeros and signs that Decimal does not write.
	if Decimal(n) != s {
		return 0, false
	}
	return n, true
}

// SplitWords returns the words of a line.
func SplitWords(s string) []string {
	return strings.FieldsFunc(s, func(r rune) bool { return r == ' ' })
}

// ListText returns a list of numbers as text.
func ListText(list []int64) string {
	if len(list) == 0 {
		return emptyList
	}
	if len(list) > MaxList {
		return ""
	}
	words := make([]string, len(list))
	for i, n := range list {
		if n < -maxListed || n > maxListed {
			return ""
		}
		words[i] = Decimal(n)
	}
	return strings.Join(words, listComma)
}

// ReadList returns the list with a text.
func ReadList(s string) ([]int64, bool) {
	if s == emptyList {
		return nil, true
	}
	if strings.Count(s, listComma) >= MaxList {
		return nil, false
	}
	var list []int64
	for _, word := range strings.Split(s, listComma) {
		n, ok := ReadDecimal(word)
		if !ok || n < -maxListed || n > maxListed {
			return nil, false
		}
		list = append(list, n)
	}
	return list, true
}

// Crc16 returns the check value of bytes.
func Crc16(s string, start int64) int64 {
	if start < 0 || start > CrcStart {
		return 0
	}
	value := uint16(start)
	for i := 0; i < len(s); i++ {
		value = crcStep(value, s[i])
	}
	return int64(value)
}

func crcStep(value uint16, c byte) uint16 {
	value ^= uint16(c) << 8
	for range 8 {
		carry := value >= crcHighBit
		value <<= 1
		if carry {
			value ^= crcFeedback
		}
	}
	return value
}

// ValidSet reports whether a list is a set of points.
func ValidSet(set []int64, n int64) bool {
	if n < 0 || n > MaxPoints {
		return false
	}
	before := int64(-1)
	for _, x := range set {
		if x <= before || x >= n {
			return false
		}
		before = x
	}
	return true
}

// pointSet is a set of points: the point x is the bit with the number x.
type pointSet uint32

func singlePoint(x int64) pointSet { return 1 << uint(x) }

// pointsBelow returns the set of all points less than n.
func pointsBelow(n int64) pointSet { return pointSet(uint64(1)<<uint(n) - 1) }

func pointSetOf(list []int64) (pointSet, bool) {
	if !ValidSet(list, MaxPoints) {
		return 0, false
	}
	var set pointSet
	for _, x := range list {
		set |= singlePoint(x)
	}
	return set, true
}

func (s pointSet) has(x int64) bool { return s&singlePoint(x) != 0 }

func (s pointSet) union(t pointSet) pointSet { return s | t }

func (s pointSet) meet(t pointSet) pointSet { return s & t }

func (s pointSet) minus(t pointSet) pointSet { return s &^ t }

func (s pointSet) size() int64 { return int64(bits.OnesCount32(uint32(s))) }

func (s pointSet) points() []int64 {
	list := make([]int64, 0, s.size())
	for rest := s; rest != 0; rest &= rest - 1 {
		list = append(list, int64(bits.TrailingZeros32(uint32(rest))))
	}
	return list
}

// UnionSets returns the union of two sets.
func UnionSets(a, b []int64) []int64 { return combineSets(a, b, pointSet.union) }

// MeetSets returns the intersection of two sets.
func MeetSets(a, b []int64) []int64 { return combineSets(a, b, pointSet.meet) }

// MinusSets returns the difference of two sets.
func MinusSets(a, b []int64) []int64 { return combineSets(a, b, pointSet.minus) }

func combineSets(a, b []int64, combine func(s, t pointSet) pointSet) []int64 {
	s, first := pointSetOf(a)
	t, second := pointSetOf(b)
	if !first || !second {
		return nil
	}
	return combine(s, t).points()
}

// CompareLists compares two lists lexicographically.
func CompareLists(a, b []int64) int64 { return compareOrdered(a, b) }

// compareOrdered returns -1, 0 or 1 if the list a is less than, equal to or greater than b.
func compareOrdered[T cmp.Ordered](a, b []T) int64 {
	for i := 0; i < len(a) && i < len(b); i++ {
		if order := cmp.Compare(a[i], b[i]); order != 0 {
			return int64(order)
		}
	}
	return int64(cmp.Compare(len(a), len(b)))
}

// The binomial coefficients, which Choose fills in at its first use.
var (
	binomialsOnce sync.Once
	binomials     [MaxPoints + 1][MaxPoints + 1]int64
)

func fillBinomials() {
	for n := range binomials {
		for k := 0; k <= n; k++ {
			binomials[n][k] = binomial(int64(n), int64(k))
		}
	}
}

// binomial returns the number of subsets of n numbers with k elements, for k
// from 0 to n and n of at most MaxPoints.
func binomial(n, k int64) int64 {
	value := int64(1)
	for i := range min(k, n-k) {
		// value is the number of subsets with i elements, so the division is exact.
		value = value * (n - i) / (i + 1)
	}
	return value
}

// Choose returns a binomial coefficient.
func Choose(n, k int64) int64 {
	if n < 0 || n > MaxPoints || k < 0 || k > n {
		return 0
	}
	// The table stays beside the answer, which never depends on kept state.
	binomialsOnce.Do(fillBinomials)
	_ = binomials[n][k]
	return binomial(n, k)
}

// RankSubset returns the rank of a subset among those of its size.
func RankSubset(n int64, set []int64) (int64, int64) {
	if !ValidSet(set, n) {
		return 0, ErrInvalid
	}
	rank := int64(0)
	least := int64(0)
	left := int64(len(set))
	for _, x := range set {
		left--
		// The subsets that have y here instead of x are all less.
		for y := least; y < x; y++ {
			rank += binomial(n-1-y, left)
		}
		least = x + 1
	}
	return rank, OK
}

// UnrankSubset returns the subset with a rank.
func UnrankSubset(n, k, rank int64) ([]int64, int64) {
	if n < 0 || n > MaxPoints || k < 0 || k > n || rank < 0 || rank >= binomial(n, k) {
		return nil, ErrRange
	}
	set := make([]int64, 0, k)
	for x := int64(0); int64(len(set)) < k; x++ {
		beginning := binomial(n-1-x, k-1-int64(len(set)))
		if rank < beginning {
			set = append(set, x)
		} else {
			rank -= beginning
		}
	}
	return set, OK
}

// NextSubset returns the next subset of the same size.
func NextSubset(n int64, set []int64) ([]int64, bool) {
	if !ValidSet(set, n) {
		return nil, false
	}
	size := len(set)
	for i := size - 1; i >= 0; i-- {
		greatest := n - int64(size-i)
		if set[i] == greatest {
			continue
		}
		next := make([]int64, size)
		copy(next, set[:i])
		for j := i; j < size; j++ {
			next[j] = set[i] + 1 + int64(j-i)
		}
		return next, true
	}
	return nil, false
}
