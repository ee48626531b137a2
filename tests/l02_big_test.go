package tests

import (
	"math"
	"math/big"
	"slices"
	"strings"
	"testing"

	"loop.example/g00989/impl"
)

// groupsOf splits a number of any size into groups, without the program.
func groupsOf(n *big.Int) []int {
	var groups []int
	rest, group := new(big.Int).Set(n), new(big.Int)
	for rest.Sign() > 0 {
		rest.QuoRem(rest, big.NewInt(10000), group)
		groups = append(groups, int(group.Int64()))
	}
	return groups
}

func valueOf(groups []int) *big.Int {
	n := new(big.Int)
	for i := len(groups) - 1; i >= 0; i-- {
		n.Mul(n, big.NewInt(10000))
		n.Add(n, big.NewInt(int64(groups[i])))
	}
	return n
}

// filled returns count groups, all of them low but the last one.
func filled(count, low, last int) []int {
	groups := slices.Repeat([]int{low}, count)
	groups[count-1] = last
	return groups
}

func invalidBigs() [][]int {
	return [][]int{
		{0}, {1, 0}, {0, 0}, {9999, 9999, 0}, {0, 1, 0},
		{-1}, {-1, 1}, {1, -1}, {5, -1, 3}, {-9999, 1},
		{10000}, {10000, 1}, {1, 10000}, {5, 10000, 3}, {20000, 3},
		{math.MinInt}, {math.MaxInt}, {math.MinInt, 1}, {1, math.MaxInt, 1},
		filled(121, 1, 1), filled(121, 0, 1), filled(121, 9999, 9999), filled(121, 1, 0), filled(500, 1, 1),
		filled(120, 1, 0), filled(120, 1, 10000), filled(120, -1, 1),
	}
}

func checkTimes(t *testing.T, b []int, n int, want ...int) {
	t.Helper()
	got, ok := impl.TimesBig(b, n)
	if !ok || !slices.Equal(got, want) {
		t.Errorf("TimesBig(%v, %d) = %v, %v; want %v, true", b, n, got, ok, want)
	}
}

func checkTimesFails(t *testing.T, b []int, n int) {
	t.Helper()
	if got, ok := impl.TimesBig(b, n); ok || got != nil {
		t.Errorf("TimesBig(%v, %d) = %v, %v; want nil, false", b, n, got, ok)
	}
}

func checkPower(t *testing.T, base, exponent int) {
	t.Helper()
	want := groupsOf(new(big.Int).Exp(big.NewInt(int64(base)), big.NewInt(int64(exponent)), nil))
	got, ok := impl.PowerBig(base, exponent)
	if !ok || !slices.Equal(got, want) {
		t.Errorf("PowerBig(%d, %d) = %v, %v; want %v, true", base, exponent, got, ok, want)
	}
}

func checkPowerFails(t *testing.T, base, exponent int) {
	t.Helper()
	if got, ok := impl.PowerBig(base, exponent); ok || got != nil {
		t.Errorf("PowerBig(%d, %d) = %v, %v; want nil, false", base, exponent, got, ok)
	}
}

func checkCompare(t *testing.T, a, b []int, want int) {
	t.Helper()
	if got := impl.CompareBig(a, b); got != want {
		t.Errorf("CompareBig(%v, %v) = %d; want %d", a, b, got, want)
	}
	if got := impl.CompareBig(b, a); got != -want {
		t.Errorf("CompareBig(%v, %v) = %d; want %d", b, a, got, -want)
	}
}

func checkText(t *testing.T, b []int, want string) {
	t.Helper()
	if got := impl.BigText(b); got != want {
		t.Errorf("BigText(%v) = %q; want %q", b, got, want)
	}
}

// timesAll multiplies 1 by the factors in their order.
func timesAll(t *testing.T, factors []int) []int {
	t.Helper()
	product := []int{1}
	for _, n := range factors {
		next, ok := impl.TimesBig(product, n)
		if !ok {
			t.Fatalf("TimesBig(%v, %d) failed", product, n)
		}
		product = next
	}
	return product
}

func TestLimitsOfBig(t *testing.T) {
	if impl.GroupBase != 10000 || impl.MaxGroups != 120 {
		t.Error("a limit of chapter 2 differs from the document")
	}
}

func TestBigOk(t *testing.T) {
	for _, b := range [][]int{
		nil, {}, {1}, {9999}, {0, 1}, {9999, 9999}, {0, 0, 0, 1}, {1, 0, 1},
		filled(120, 0, 1), filled(120, 9999, 9999),
	} {
		if !impl.BigOk(b) {
			t.Errorf("BigOk(%v) = false", b)
		}
	}
	for _, b := range invalidBigs() {
		if impl.BigOk(b) {
			t.Errorf("BigOk(%v) = true", b)
		}
	}
}

// Each place of a number is tried with the values around both ends of the range.
func TestBigOkEveryPlace(t *testing.T) {
	for place := range 120 {
		for _, group := range []int{-10000, -1, 0, 1, 9999, 10000, 10001} {
			b := filled(120, 7, 7)
			b[place] = group
			want := group >= 0 && group <= 9999 && (group != 0 || place < 119)
			if got := impl.BigOk(b); got != want {
				t.Errorf("BigOk with %d at place %d = %v", group, place, got)
			}
		}
	}
}

func TestBigOf(t *testing.T) {
	cases := []struct {
		n    int
		want []int
	}{
		{0, nil}, {1, []int{1}}, {440, []int{440}}, {9999, []int{9999}},
		{10000, []int{0, 1}}, {10001, []int{1, 1}}, {99999999, []int{9999, 9999}}, {100000000, []int{0, 0, 1}},
		{120034, []int{34, 12}},
		{math.MaxInt, []int{5807, 5477, 368, 3372, 922}},
		{math.MaxInt - 1, []int{5806, 5477, 368, 3372, 922}},
	}
	for _, c := range cases {
		if got := impl.BigOf(c.n); !slices.Equal(got, c.want) {
			t.Errorf("BigOf(%d) = %v; want %v", c.n, got, c.want)
		}
	}
	for _, n := range []int{-1, -9999, -10000, -10001, math.MinInt, math.MinInt + 1} {
		if got := impl.BigOf(n); got != nil {
			t.Errorf("BigOf(%d) = %v; want nil", n, got)
		}
	}
}

func TestBigText(t *testing.T) {
	checkText(t, nil, "0")
	checkText(t, []int{}, "0")
	checkText(t, []int{7}, "7")
	checkText(t, []int{1000}, "1000")
	checkText(t, []int{0, 1}, "10000")
	checkText(t, []int{1, 1}, "10001")
	checkText(t, []int{20, 1}, "10020")
	checkText(t, []int{300, 1}, "10300")
	checkText(t, []int{4000, 1}, "14000")
	checkText(t, []int{0, 50, 6}, "600500000")
	checkText(t, []int{9, 0, 0, 12}, "12000000000009")
	checkText(t, filled(120, 0, 1), "1"+strings.Repeat("0", 476))
	checkText(t, filled(120, 9999, 9999), strings.Repeat("9", 480))
	checkText(t, filled(120, 1, 12), "12"+strings.Repeat("0001", 119))
	for _, b := range invalidBigs() {
		checkText(t, b, "")
	}
}

func TestBigRoundTrip(t *testing.T) {
	try := func(n int) {
		b := impl.BigOf(n)
		if !impl.BigOk(b) {
			t.Errorf("BigOf(%d) = %v is not valid", n, b)
		}
		checkText(t, b, impl.FormatInt(n))
	}
	for n := range 12000 {
		try(n)
	}
	for power := 10000; power > 0 && power <= 1000000000000000000; power *= 10 {
		for d := -2; d <= 2; d++ {
			try(power + d)
			try(3*power + d)
		}
	}
	try(math.MaxInt)
}

func TestTimesBig(t *testing.T) {
	checkTimes(t, []int{2}, 3, 6)
	checkTimes(t, []int{1234, 5}, 1, 1234, 5)
	checkTimes(t, []int{1234, 5}, 2, 2468, 10)
	checkTimes(t, []int{0, 1}, 7, 0, 7)
	checkTimes(t, []int{0, 1}, 1000, 0, 1000)
	checkTimes(t, []int{1}, 1000, 1000)
}

func TestTimesBigCarries(t *testing.T) {
	checkTimes(t, []int{9999}, 2, 9998, 1)
	checkTimes(t, []int{5000}, 2, 0, 1)
	checkTimes(t, []int{4999}, 2, 9998)
	checkTimes(t, []int{10}, 1000, 0, 1)
	checkTimes(t, []int{9999}, 1000, 9000, 999)
	checkTimes(t, []int{9999, 9999, 9999}, 2, 9998, 9999, 9999, 1)
	checkTimes(t, []int{9999, 9999, 9999}, 1000, 9000, 9999, 9999, 999)
	// The carry of the lowest group alone runs through all the others.
	checkTimes(t, []int{3334, 3333, 3333}, 3, 2, 0, 0, 1)
	checkTimes(t, []int{5000, 4999, 4999}, 2, 0, 9999, 9998)
}

func TestTimesBigZero(t *testing.T) {
	for _, n := range []int{0, 1, 2, 1000} {
		checkTimes(t, nil, n)
		checkTimes(t, []int{}, n)
	}
	for _, b := range [][]int{{1}, {9999}, {0, 1}, {1, 2, 3}, filled(120, 9999, 9999)} {
		checkTimes(t, b, 0)
	}
}

func TestTimesBigFactors(t *testing.T) {
	for _, b := range [][]int{nil, {1}, {9999, 12}, filled(120, 9999, 9999), filled(120, 0, 1)} {
		for _, n := range []int{-1, -2, -1000, 1001, 10000, math.MinInt, math.MaxInt} {
			checkTimesFails(t, b, n)
		}
	}
	for _, b := range [][]int{{1}, {1001}, {9999, 12}, {8, 0, 0, 7}, {4321, 9999, 1, 0, 9}} {
		for n := range 1001 {
			want := groupsOf(new(big.Int).Mul(valueOf(b), big.NewInt(int64(n))))
			checkTimes(t, b, n, want...)
		}
	}
}

func TestTimesBigMaxGroups(t *testing.T) {
	checkTimes(t, filled(120, 9999, 9999), 1, filled(120, 9999, 9999)...)
	checkTimesFails(t, filled(120, 9999, 9999), 2)
	checkTimesFails(t, filled(120, 9999, 9999), 1000)
	top := filled(120, 9999, 9999)
	top[0] = 9998
	checkTimes(t, filled(120, 9999, 4999), 2, top...)
	checkTimesFails(t, filled(120, 0, 5000), 2)
	checkTimes(t, filled(120, 0, 9), 1000, filled(120, 0, 9000)...)
	checkTimesFails(t, filled(120, 0, 10), 1000)
	// The highest group is too large only with the carry from below.
	checkTimes(t, filled(120, 3333, 3333), 3, filled(120, 9999, 9999)...)
	carried := filled(120, 3333, 3333)
	carried[0] = 3334
	checkTimesFails(t, carried, 3)
	product := filled(120, 9999, 999)
	product[0] = 9000
	checkTimes(t, filled(119, 9999, 9999), 1000, product...)
}

func TestTimesBigInvalid(t *testing.T) {
	for _, b := range invalidBigs() {
		for _, n := range []int{-1, 0, 1, 2, 1000, 1001} {
			checkTimesFails(t, b, n)
		}
	}
}

func TestProductsInTwoOrders(t *testing.T) {
	for _, factors := range [][]int{
		{2, 3, 5}, {999, 1000, 998}, {7, 0, 9}, {1000, 1000, 1000, 1}, {2, 500, 3, 333, 625, 16},
		slices.Repeat([]int{997, 8}, 60),
	} {
		product := big.NewInt(1)
		for _, n := range factors {
			product.Mul(product, big.NewInt(int64(n)))
		}
		forward := timesAll(t, factors)
		slices.Reverse(factors)
		backward := timesAll(t, factors)
		if want := groupsOf(product); !slices.Equal(forward, want) || !slices.Equal(backward, want) {
			t.Errorf("the products of %v are %v and %v; want %v", factors, forward, backward, want)
		}
		checkCompare(t, forward, backward, 0)
	}
}

func TestPowerBig(t *testing.T) {
	for _, base := range []int{1, 2, 3, 5, 7, 10, 15, 16, 99, 100, 101, 997, 999, 1000} {
		for exponent := range 160 {
			checkPower(t, base, exponent)
		}
	}
	power, _ := impl.PowerBig(2, 40)
	checkText(t, power, "1099511627776")
	power, _ = impl.PowerBig(3, 41)
	checkText(t, power, "36472996377170786403")
	power, _ = impl.PowerBig(1000, 3)
	checkText(t, power, "1000000000")
}

func TestPowerBigEnds(t *testing.T) {
	for base := 1; base <= 1000; base++ {
		checkPower(t, base, 0)
		checkPower(t, base, 1)
	}
	for _, exponent := range []int{0, 1, 2, 1999, 2000} {
		checkPower(t, 1, exponent)
	}
	for _, exponent := range []int{0, 1, 2000} {
		for _, base := range []int{0, -1, -2, 1001, math.MinInt, math.MaxInt} {
			checkPowerFails(t, base, exponent)
		}
	}
	for _, base := range []int{1, 2, 1000} {
		for _, exponent := range []int{-1, -2, 2001, math.MinInt, math.MaxInt} {
			checkPowerFails(t, base, exponent)
		}
	}
	checkPowerFails(t, 0, -1)
	checkPowerFails(t, 1001, 2001)
}

func TestPowerBigMaxGroups(t *testing.T) {
	checkPower(t, 10, 475)
	checkPower(t, 10, 476)
	checkPower(t, 10, 479)
	checkPowerFails(t, 10, 480)
	checkPower(t, 1000, 159)
	checkPowerFails(t, 1000, 160)
	checkPowerFails(t, 1000, 2000)
	checkPowerFails(t, 2, 2000)
	limit := new(big.Int).Exp(big.NewInt(10), big.NewInt(480), nil)
	for base := 2; base <= 1000; base++ {
		exponent := int(480 / math.Log10(float64(base)))
		for e := exponent - 1; e <= exponent+2; e++ {
			if new(big.Int).Exp(big.NewInt(int64(base)), big.NewInt(int64(e)), nil).Cmp(limit) < 0 {
				checkPower(t, base, e)
			} else {
				checkPowerFails(t, base, e)
			}
		}
	}
}

// A power that is itself small enough to be a base is raised to a further power.
func TestPowerOfAPower(t *testing.T) {
	for base := 1; base <= 31; base++ {
		for inner, value := 0, 1; value <= 1000 && inner <= 9; inner, value = inner+1, value*base {
			for outer := 0; outer <= 2000 && inner*outer <= 2000; outer += 1 + outer/3 {
				twice, ok := impl.PowerBig(value, outer)
				once, same := impl.PowerBig(base, inner*outer)
				if ok != same || !slices.Equal(twice, once) || impl.CompareBig(twice, once) != 0 {
					t.Errorf("(%d^%d)^%d differs from %d^%d: %v, %v and %v, %v", base, inner, outer, base, inner*outer, twice, ok, once, same)
				}
			}
		}
	}
}

func TestPowersAreProducts(t *testing.T) {
	for _, base := range []int{1, 2, 3, 5, 31, 999, 1000} {
		product := []int{1}
		for exponent := range 158 {
			power, ok := impl.PowerBig(base, exponent)
			if !ok || impl.CompareBig(power, product) != 0 || !slices.Equal(power, product) {
				t.Errorf("PowerBig(%d, %d) = %v, %v; the product is %v", base, exponent, power, ok, product)
			}
			product, _ = impl.TimesBig(product, base)
		}
	}
}

func TestCompareBig(t *testing.T) {
	checkCompare(t, []int{1}, []int{2}, -1)
	checkCompare(t, []int{9}, []int{10}, -1)
	checkCompare(t, nil, []int{1}, -1)
	checkCompare(t, []int{9999}, []int{0, 1}, -1)
	checkCompare(t, []int{9999, 9999}, []int{0, 0, 1}, -1)
	// The highest, a middle and the lowest group, with lower groups that say the opposite.
	checkCompare(t, []int{9999, 9999, 1}, []int{0, 0, 2}, -1)
	checkCompare(t, []int{9999, 4, 7}, []int{0, 5, 7}, -1)
	checkCompare(t, []int{0, 5, 7}, []int{9999, 4, 7}, 1)
	checkCompare(t, []int{3, 5, 7}, []int{4, 5, 7}, -1)
	checkCompare(t, filled(119, 9999, 9999), filled(120, 0, 1), -1)
	low, high := filled(120, 5, 5), filled(120, 5, 5)
	high[0] = 6
	checkCompare(t, low, high, -1)
	low[60] = 9999
	checkCompare(t, low, high, 1)
	high[119] = 6
	checkCompare(t, low, high, -1)
}

func TestCompareBigEqual(t *testing.T) {
	for _, b := range [][]int{nil, {}, {1}, {9999}, {0, 1}, {3, 0, 8}, filled(120, 9999, 9999)} {
		checkCompare(t, b, b, 0)
		checkCompare(t, b, slices.Clone(b), 0)
	}
	checkCompare(t, nil, []int{}, 0)
}

func TestCompareBigLikeNumbers(t *testing.T) {
	var numbers []int
	for _, middle := range []int{0, 100, 9999, 10000, 20000, 99990000, 100000000, 1000000000000, 1000000020000, 9000000000000000000} {
		for d := -1; d <= 1; d++ {
			if middle+d >= 0 {
				numbers = append(numbers, middle+d)
			}
		}
	}
	numbers = append(numbers, math.MaxInt)
	for _, a := range numbers {
		for _, b := range numbers {
			want := 0
			if a < b {
				want = -1
			} else if a > b {
				want = 1
			}
			checkCompare(t, impl.BigOf(a), impl.BigOf(b), want)
		}
	}
}

func TestComparePowers(t *testing.T) {
	// Twelve fifths are more than seven octaves: 3^12 is greater than 2^19.
	for n := 1; n <= 80; n++ {
		three, _ := impl.PowerBig(3, 12*n)
		two, _ := impl.PowerBig(2, 19*n)
		checkCompare(t, three, two, 1)
		checkCompare(t, three, three, 0)
	}
	for _, base := range []int{2, 3, 5, 999} {
		for exponent := range 150 {
			low, _ := impl.PowerBig(base, exponent)
			high, _ := impl.PowerBig(base, exponent+1)
			checkCompare(t, low, high, -1)
		}
	}
}

func TestCompareBigInvalid(t *testing.T) {
	valid := [][]int{nil, {1}, {9999}, {0, 0, 0, 1}, filled(120, 9999, 9999)}
	for _, bad := range invalidBigs() {
		for _, good := range valid {
			checkCompare(t, bad, good, 0)
		}
		for _, other := range invalidBigs() {
			checkCompare(t, bad, other, 0)
		}
	}
}

// Every function gets a number with spare capacity behind it, which must stay as it is.
func TestBigArgumentsAreKept(t *testing.T) {
	for _, count := range []int{0, 1, 3, 120} {
		memory := slices.Repeat([]int{9999}, count+4)
		before := slices.Clone(memory)
		b := memory[:count]
		impl.BigOk(b)
		impl.BigText(b)
		impl.CompareBig(b, b)
		impl.CompareBig(b, memory[:min(count+1, 120)])
		for _, n := range []int{-1, 0, 1, 2, 1000, 1001} {
			impl.TimesBig(b, n)
		}
		if !slices.Equal(memory, before) {
			t.Errorf("a number of %d groups was changed", count)
		}
	}
}

func TestBigResultsAreSeparate(t *testing.T) {
	memory := []int{9998, 1, 77, 77}
	for _, n := range []int{1, 2, 1000} {
		product, _ := impl.TimesBig(memory[:2], n)
		for i := range product {
			product[i] = -5
		}
		_ = append(product, -5, -5)
	}
	if !slices.Equal(memory, []int{9998, 1, 77, 77}) {
		t.Errorf("a product shares memory with its argument: %v", memory)
	}
	for _, result := range []func() []int{
		func() []int { return impl.BigOf(10000) },
		func() []int { b, _ := impl.PowerBig(100, 2); return b },
		func() []int { b, _ := impl.TimesBig([]int{5000}, 2); return b },
	} {
		first, second := result(), result()
		first[0], first[1] = -5, -5
		if !slices.Equal(second, []int{0, 1}) {
			t.Errorf("two results share memory: %v", second)
		}
	}
	first, _ := impl.PowerBig(7, 0)
	first[0] = -5
	if second, ok := impl.PowerBig(7, 0); !ok || !slices.Equal(second, []int{1}) {
		t.Errorf("PowerBig(7, 0) = %v, %v after a result was changed", second, ok)
	}
}
