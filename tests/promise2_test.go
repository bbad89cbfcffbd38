package tests

import (
	"fmt"
	"math"
	"slices"
	"strings"
	"testing"

	"loop.example/g00920/impl"
)

func TestCodeNames(t *testing.T) {
	codes := []int64{impl.OK, impl.ErrInvalid, impl.ErrRange, impl.ErrNotFound, impl.ErrExists, impl.ErrFull, impl.ErrState,
		impl.ErrOrder, impl.ErrSyntax, impl.ErrFormat, impl.ErrChecksum, impl.ErrTruncated}
	names := []string{"ok", "invalid", "range", "not-found", "exists", "full", "state", "order", "syntax", "format", "checksum", "truncated"}
	same(t, "codes", codes, upTo(12))
	for i, code := range codes {
		same(t, "name of a code", impl.CodeName(code), names[i])
	}
	for _, code := range []int64{-1, 12, math.MinInt64, math.MaxInt64} {
		same(t, "name of no code", impl.CodeName(code), "")
	}
}

func TestLimits(t *testing.T) {
	same(t, "limits", []int64{impl.MaxPoints, impl.MaxName, impl.MaxList, impl.MaxBudget, impl.CrcStart, impl.MaxModulus, impl.MaxNumber},
		[]int64{32, 10, 100, 20000, 65535, 1000, 1000000})
}

func TestNames(t *testing.T) {
	for _, s := range []string{"a", "z", "a0", "z9", "abcdefghij", "a123456789"} {
		same(t, "IsName "+s, impl.IsName(s), true)
	}
	for _, s := range []string{"", "0", "1a", "A", "aB", "a-", "a b", " a", "a ", "abcdefghijk", "\xe9", "a\xe9", "a`", "a{", "a/", "a:", "`", "{"} {
		same(t, "IsName "+s, impl.IsName(s), false)
	}
}

func TestDecimalsAreRestored(t *testing.T) {
	for _, n := range []int64{0, 1, -1, 9, 10, -10, 120, 999999999999999999, -999999999999999999} {
		text := impl.Decimal(n)
		same(t, "decimal", text, fmt.Sprint(n))
		back, ok := impl.ReadDecimal(text)
		same(t, "number of "+text, []any{back, ok}, []any{n, true})
	}
	for _, n := range []int64{1000000000000000000, -1000000000000000000, math.MaxInt64, math.MinInt64} {
		same(t, "decimal of a great number", impl.Decimal(n), fmt.Sprint(n))
	}
}

func TestNoDecimals(t *testing.T) {
	for _, s := range []string{"", "-", "--1", "+1", "-0", "00", "01", "-01", " 1", "1 ", "1a", "0x1", "1_000", "1.0", "1e1", "\u0661",
		"1000000000000000000", "-1000000000000000000", "000000000000000001", "9223372036854775807", "99999999999999999999"} {
		n, ok := impl.ReadDecimal(s)
		same(t, "ReadDecimal "+s, []any{n, ok}, []any{0, false})
	}
}

func TestSplitWords(t *testing.T) {
	for text, words := range map[string][]string{
		"": nil, " ": nil, "   ": nil, "a": {"a"}, "  a bc ": {"a", "bc"}, "a  b": {"a", "b"},
		"a\tb\nc\u00a0d": {"a\tb\nc\u00a0d"}, "\xff \xc3 \xe2\x82": {"\xff", "\xc3", "\xe2\x82"},
	} {
		got := impl.SplitWords(text)
		if !slices.Equal(got, words) {
			t.Errorf("words of %q: got %q, want %q", text, got, words)
		}
	}
}

func TestListsAreRestored(t *testing.T) {
	same(t, "text of the example", impl.ListText([]int64{3, 0, -1}), "3,0,-1")
	same(t, "text of no numbers", []string{impl.ListText(nil), impl.ListText([]int64{})}, []string{"-", "-"})
	for _, list := range [][]int64{nil, {0}, {-1}, {3, 0, -1}, {999999999, -999999999}, upTo(impl.MaxList), repeated(impl.MaxList, -999999999)} {
		text := impl.ListText(list)
		back, ok := impl.ReadList(text)
		same(t, "list of "+text, []any{back, ok}, []any{list, true})
	}
}

func TestNoLists(t *testing.T) {
	for _, list := range [][]int64{upTo(impl.MaxList + 1), {1000000000}, {0, -1000000000}, {math.MinInt64}, {math.MaxInt64}} {
		same(t, "text of a list that has none", impl.ListText(list), "")
	}
	tooLong := strings.Repeat("1,", impl.MaxList) + "1"
	for _, s := range []string{"", ",", "1,", ",1", "1,,2", "01", "1,-0", "1, 2", " 1", "--", "-,1", "1,-", "+1", "1000000000", "0,-1000000000", "1;2", tooLong} {
		list, ok := impl.ReadList(s)
		same(t, "ReadList "+s, []any{len(list), ok}, []any{0, false})
	}
}

// slowCrc divides the bits of the text, as a polynomial, in a longer register.
func slowCrc(s string, start int64) int64 {
	value := start
	for _, c := range []byte(s) {
		value ^= int64(c) * 256
		for range 8 {
			value *= 2
			if value >= 65536 {
				value = (value ^ 4129) % 65536
			}
		}
	}
	return value
}

func TestCrc(t *testing.T) {
	same(t, "check value of the example", impl.Crc16("123456789", impl.CrcStart), 10673)
	for _, start := range []int64{0, 1, 4129, 32767, 32768, 65535} {
		same(t, "check value of no bytes", impl.Crc16("", start), start)
		for _, s := range append(wildStrings(), "\x00", "\x80\x00\xff") {
			whole := impl.Crc16(s, start)
			same(t, "check value", whole, slowCrc(s, start))
			half := len(s) / 2
			same(t, "check value in two parts", impl.Crc16(s[half:], impl.Crc16(s[:half], start)), whole)
		}
	}
	for _, start := range []int64{-1, 65536, math.MinInt64, math.MaxInt64} {
		same(t, "check value of a wrong start", impl.Crc16("a", start), 0)
	}
}

func TestValidSets(t *testing.T) {
	for _, c := range []struct {
		set  []int64
		n    int64
		want bool
	}{
		{nil, 0, true}, {nil, 32, true}, {nil, 33, false}, {nil, -1, false}, {nil, math.MinInt64, false}, {nil, math.MaxInt64, false},
		{[]int64{0}, 0, false}, {[]int64{0}, 1, true}, {[]int64{0, 4}, 5, true}, {[]int64{0, 5}, 5, false}, {[]int64{-1, 0}, 5, false},
		{[]int64{2, 1}, 5, false}, {[]int64{1, 1}, 5, false}, {[]int64{0, 3, 2}, 5, false}, {[]int64{31}, 32, true}, {[]int64{32}, 32, false},
		{[]int64{32}, 33, false}, {upTo(32), 32, true}, {upTo(32), 31, false}, {[]int64{math.MinInt64, 1}, 5, false}, {[]int64{1, math.MaxInt64}, 5, false},
	} {
		same(t, fmt.Sprint("ValidSet ", c.set, c.n), impl.ValidSet(c.set, c.n), c.want)
	}
}

// bitsSet returns the set of the points whose bits are set.
func bitsSet(bits uint64) []int64 {
	var set []int64
	for x := range int64(32) {
		if bits>>uint(x)&1 == 1 {
			set = append(set, x)
		}
	}
	return set
}

func TestSetsAgree(t *testing.T) {
	patterns := []uint64{0, 1, 2, 3, 6, 1 << 31, 1<<31 | 1, 0xffffffff, 0xfffffffe, 0x7fffffff, 0xaaaaaaaa, 0x55555555, 0x0ff0, 0xdeadbeef, 0x12345678}
	for _, x := range patterns {
		for _, y := range patterns {
			a, b := bitsSet(x), bitsSet(y)
			what := fmt.Sprint(a, " and ", b)
			same(t, "union of "+what, impl.UnionSets(a, b), bitsSet(x|y))
			same(t, "intersection of "+what, impl.MeetSets(a, b), bitsSet(x&y))
			same(t, "difference of "+what, impl.MinusSets(a, b), bitsSet(x&^y))
			apart := impl.UnionSets(impl.MinusSets(a, b), impl.MinusSets(b, a))
			same(t, "parts of "+what, impl.UnionSets(apart, impl.MeetSets(a, b)), impl.UnionSets(a, b))
			same(t, "order of "+what, impl.UnionSets(b, a), impl.UnionSets(a, b))
		}
	}
}

func TestNoSets(t *testing.T) {
	for _, wrong := range [][]int64{{1, 1}, {2, 1}, {0, 5, 4}, {-1}, {32}, {0, 32}, {math.MinInt64}, {math.MaxInt64}, upTo(33)} {
		for _, set := range [][]int64{nil, {1, 2}, wrong} {
			for _, pair := range [][2][]int64{{wrong, set}, {set, wrong}} {
				same(t, fmt.Sprint("sets ", pair), []int{len(impl.UnionSets(pair[0], pair[1])), len(impl.MeetSets(pair[0], pair[1])), len(impl.MinusSets(pair[0], pair[1]))}, []int{0, 0, 0})
			}
		}
	}
}

func TestCompareLists(t *testing.T) {
	ordered := [][]int64{nil, {math.MinInt64}, {-1}, {-1, math.MaxInt64}, {0}, {0, 0}, {0, 1}, {0, 1, 0}, {1}, {1, 0}, {1, 9}, {2}, {math.MaxInt64}}
	for i, a := range ordered {
		for j, b := range ordered {
			want := 0
			if i < j {
				want = -1
			} else if i > j {
				want = 1
			}
			same(t, fmt.Sprint("CompareLists ", a, b), impl.CompareLists(a, b), want)
		}
	}
}

func TestChoose(t *testing.T) {
	same(t, "binomial coefficients", []int64{impl.Choose(0, 0), impl.Choose(4, 2), impl.Choose(32, 16), impl.Choose(32, 0), impl.Choose(32, 32), impl.Choose(32, 1)},
		[]int64{1, 6, 601080390, 1, 1, 32})
	for n := int64(0); n <= impl.MaxPoints; n++ {
		all := int64(0)
		for k := int64(0); k <= n; k++ {
			all += impl.Choose(n, k)
			same(t, "symmetry", impl.Choose(n, k), impl.Choose(n, n-k))
			same(t, "share", impl.Choose(n, k)*(n-k), impl.Choose(n, k+1)*(k+1))
		}
		same(t, "all subsets", all, int64(1)<<uint(n))
	}
	for _, c := range [][2]int64{{5, 6}, {5, -1}, {-1, 0}, {-1, -1}, {33, 1}, {33, 33}, {0, 1}, {math.MaxInt64, 1}, {math.MinInt64, 1}, {5, math.MaxInt64}, {5, math.MinInt64}} {
		same(t, fmt.Sprint("Choose ", c), impl.Choose(c[0], c[1]), 0)
	}
}

// checkSubset checks the rank of a set, in both directions.
func checkSubset(t *testing.T, n int64, set []int64, rank int64) {
	t.Helper()
	what := fmt.Sprint(set, " of ", n)
	got, code := impl.RankSubset(n, set)
	same(t, "rank of "+what, []int64{got, code}, []int64{rank, impl.OK})
	back, code := impl.UnrankSubset(n, int64(len(set)), rank)
	same(t, "set with the rank of "+what, []any{back, code}, []any{set, impl.OK})
}

func TestSubsetsInOrder(t *testing.T) {
	checkSubset(t, 4, []int64{1, 2}, 3)
	for n := int64(0); n <= 9; n++ {
		for k := int64(0); k <= n; k++ {
			set, more := upTo(k), true
			count := int64(0)
			for more {
				checkSubset(t, n, set, count)
				count++
				before := set
				set, more = impl.NextSubset(n, set)
				if more && impl.CompareLists(before, set) != -1 {
					t.Errorf("the set %v follows %v", set, before)
				}
			}
			same(t, "set after the last one", len(set), 0)
			same(t, fmt.Sprint("subsets of ", n, " with ", k), count, impl.Choose(n, k))
		}
	}
}

func TestEndsOfRanks(t *testing.T) {
	const n = impl.MaxPoints
	for k := int64(0); k <= n; k++ {
		last := impl.Choose(n, k) - 1
		checkSubset(t, n, upTo(k), 0)
		checkSubset(t, n, upTo(n)[n-k:], last)
		for _, rank := range []int64{-1, last + 1, math.MinInt64, math.MaxInt64} {
			set, code := impl.UnrankSubset(n, k, rank)
			failed(t, fmt.Sprint("rank ", rank, " of the subsets with ", k), code, impl.ErrRange, set)
		}
		_, more := impl.NextSubset(n, upTo(n)[n-k:])
		same(t, "set after the last one", more, false)
		for rank := int64(0); rank <= last; rank += last/5 + 1 {
			set, _ := impl.UnrankSubset(n, k, rank)
			checkSubset(t, n, set, rank)
		}
	}
}

func TestNoSubsets(t *testing.T) {
	for _, c := range [][2]int64{{-1, 0}, {33, 1}, {5, -1}, {5, 6}, {math.MinInt64, 0}, {math.MaxInt64, 1}, {5, math.MaxInt64}} {
		set, code := impl.UnrankSubset(c[0], c[1], 0)
		failed(t, fmt.Sprint("UnrankSubset ", c), code, impl.ErrRange, set)
	}
	for _, c := range []struct {
		n   int64
		set []int64
	}{{4, []int64{2, 1}}, {4, []int64{1, 1}}, {4, []int64{4}}, {4, []int64{-1}}, {33, nil}, {33, []int64{1}}, {-1, nil}, {0, []int64{0}}} {
		what := fmt.Sprint(c)
		rank, code := impl.RankSubset(c.n, c.set)
		failed(t, "rank of "+what, code, impl.ErrInvalid, rank)
		next, more := impl.NextSubset(c.n, c.set)
		same(t, "set after "+what, []any{len(next), more}, []any{0, false})
	}
}
