package amount_test

import (
	"math"
	"math/big"
	"slices"
	"testing"

	"gossamer/amount"
	"gossamer/api"
)

// money is the greatest amount, by the words of the definition: 21 million coins of 100 million units each.
const money = 21_000_000 * 100_000_000

// heavy is the greatest weight of a rate, and broad the greatest weight and the greatest fee for 1000 that Need takes.
const (
	heavy = 1 << 40
	broad = 1 << 20
)

// scatter makes numbers that look random, and are the same in every run.
type scatter uint64

func (s *scatter) next() uint64 {
	*s = *s*6364136223846793005 + 1442695040888963407
	return uint64(*s >> 33)
}

// below is a scattered number below n.
func (s *scatter) below(n int) int {
	return int((s.next()<<33 ^ s.next()) % uint64(n))
}

// upTo is a scattered number between 0 and n, small ones no less often than great ones.
func (s *scatter) upTo(n int) int {
	return s.below(n+1) >> s.below(64)
}

// of is one of a list's numbers.
func (s *scatter) of(list []int) int {
	return list[s.below(len(list))]
}

// rate is a scattered valid rate; small fees and weights are frequent, so that many rates are equal.
func (s *scatter) rate() amount.Rate {
	switch s.below(4) {
	case 0:
		return amount.Rate{Fee: s.below(4), Weight: 1 + s.below(4)}
	case 1:
		return amount.Rate{Fee: money - s.below(4), Weight: heavy - s.below(4)}
	}
	return amount.Rate{Fee: s.upTo(money), Weight: 1 + s.upTo(heavy-1)}
}

// edges are numbers on both sides of every bound, and those whose sums, differences and products wrap around.
var edges = []int{
	math.MinInt, math.MinInt + 1, -money - 1, -money, -heavy, -broad, -1000, -2, -1, 0, 1, 2, 999, 1000, 1001,
	broad - 1, broad, broad + 1, heavy - 1, heavy, heavy + 1, money / 2, money/2 + 1, money - 1, money, money + 1,
	1 << 53, 1 << 62, math.MaxInt - money, math.MaxInt - 1, math.MaxInt,
}

func r(fee, weight int) amount.Rate {
	return amount.Rate{Fee: fee, Weight: weight}
}

// edgeRates are all rates of two edges.
func edgeRates() []amount.Rate {
	var list []amount.Rate
	for _, fee := range edges {
		for _, weight := range edges {
			list = append(list, r(fee, weight))
		}
	}
	return list
}

// The definitions, by numbers of any size.

func isAmount(n *big.Int) bool {
	return n.Sign() >= 0 && n.Cmp(big.NewInt(money)) <= 0
}

func num(n int) *big.Int {
	return big.NewInt(int64(n))
}

func total(list []int) (int, error) {
	sum := new(big.Int)
	for _, n := range list {
		if !isAmount(num(n)) {
			return 0, api.ErrValue
		}
		sum.Add(sum, num(n))
	}
	if !isAmount(sum) {
		return 0, api.ErrValue
	}
	return int(sum.Int64()), nil
}

func fee(in, out int) (int, error) {
	left := new(big.Int).Sub(num(in), num(out))
	if !isAmount(num(in)) || !isAmount(num(out)) || left.Sign() < 0 {
		return 0, api.ErrValue
	}
	return int(left.Int64()), nil
}

func good(x amount.Rate) bool {
	return isAmount(num(x.Fee)) && num(x.Weight).Sign() > 0 && num(x.Weight).Cmp(num(heavy)) <= 0
}

func compare(x, y amount.Rate) int {
	if !good(x) || !good(y) {
		return 0
	}
	return new(big.Int).Mul(num(x.Fee), num(y.Weight)).Cmp(new(big.Int).Mul(num(y.Fee), num(x.Weight)))
}

func with(x, y amount.Rate) (amount.Rate, error) {
	fees := new(big.Int).Add(num(x.Fee), num(y.Fee))
	weights := new(big.Int).Add(num(x.Weight), num(y.Weight))
	if !good(x) || !good(y) || !isAmount(fees) || weights.Cmp(num(heavy)) > 0 {
		return amount.Rate{}, api.ErrRange
	}
	return r(int(fees.Int64()), int(weights.Int64())), nil
}

func need(weight, per int) (int, error) {
	if num(weight).Sign() <= 0 || num(weight).Cmp(num(broad)) > 0 || num(per).Sign() < 0 || num(per).Cmp(num(broad)) > 0 {
		return 0, api.ErrRange
	}
	quotient, rest := new(big.Int).QuoRem(new(big.Int).Mul(num(per), num(weight)), num(1000), new(big.Int))
	if rest.Sign() > 0 {
		quotient.Add(quotient, num(1))
	}
	return int(quotient.Int64()), nil
}

func pays(x amount.Rate, per, least int) bool {
	n, err := need(x.Weight, per)
	return err == nil && good(x) && x.Fee >= n && x.Fee >= least
}

// P9.1: amounts

func checkTotal(t *testing.T, list ...int) {
	t.Helper()
	want, wantErr := total(list)
	if got, err := amount.Total(list...); got != want || err != wantErr {
		t.Errorf("Total(%v) is %d, %v; want %d, %v", list, got, err, want, wantErr)
	}
}

func checkFee(t *testing.T, in, out int) {
	t.Helper()
	want, wantErr := fee(in, out)
	if got, err := amount.Fee(in, out); got != want || err != wantErr {
		t.Errorf("Fee(%d, %d) is %d, %v; want %d, %v", in, out, got, err, want, wantErr)
	}
}

func TestGoodIsBetweenZeroAndAllMoney(t *testing.T) {
	for n, want := range map[int]bool{
		math.MinInt: false, -money: false, -1: false, 0: true, 1: true, money - 1: true, money: true,
		money + 1: false, 1 << 62: false, math.MaxInt: false,
	} {
		if amount.Good(n) != want {
			t.Errorf("Good(%d) is %v", n, !want)
		}
	}
	if money != api.MaxMoney {
		t.Error("the greatest amount isn't MaxMoney")
	}
}

func TestTotalOfKnownLists(t *testing.T) {
	for _, c := range []struct {
		list []int
		want int
		err  error
	}{
		{nil, 0, nil},
		{[]int{}, 0, nil},
		{[]int{0}, 0, nil},
		{[]int{5}, 5, nil},
		{[]int{1, 2, 3, 4}, 10, nil},
		{[]int{money}, money, nil},
		{[]int{money, 0, 0}, money, nil},
		{[]int{0, money - 1, 1}, money, nil},
		{[]int{-1}, 0, api.ErrValue},
		{[]int{3, -1}, 0, api.ErrValue},
		{[]int{-1, 3}, 0, api.ErrValue},
		{[]int{money + 1}, 0, api.ErrValue},
		{[]int{money, 1}, 0, api.ErrValue},
		{[]int{1, money}, 0, api.ErrValue},
		{[]int{money, 1, -1}, 0, api.ErrValue},
		{[]int{money + 1, -1}, 0, api.ErrValue},
		{[]int{-1, money + 1}, 0, api.ErrValue},
		{[]int{math.MaxInt, math.MaxInt, 2}, 0, api.ErrValue},
		{[]int{math.MinInt, math.MinInt}, 0, api.ErrValue},
		{[]int{math.MaxInt, math.MinInt, 1}, 0, api.ErrValue},
		{[]int{1, math.MaxInt}, 0, api.ErrValue},
	} {
		if got, err := amount.Total(c.list...); got != c.want || err != c.err {
			t.Errorf("Total(%v) is %d, %v; want %d, %v", c.list, got, err, c.want, c.err)
		}
	}
}

func TestTotalOfEdges(t *testing.T) {
	for _, a := range edges {
		checkTotal(t, a)
		for _, b := range edges {
			checkTotal(t, a, b)
			for _, c := range edges {
				checkTotal(t, a, b, c)
			}
		}
	}
}

func TestTotalOfScatteredLists(t *testing.T) {
	s := scatter(91)
	for range 3000 {
		list := make([]int, s.below(12))
		for i := range list {
			list[i] = s.upTo(money)
			if s.below(40) == 0 {
				list[i] = s.of(edges)
			}
		}
		checkTotal(t, list...)
	}
}

// 2^64 is 8784 times the greatest amount and a rest that is an amount: summed up without a look at each step, the list gives 5.
func TestTotalDoesNotWrapAround(t *testing.T) {
	const rest = 1<<64 - 8784*money
	list := append(slices.Repeat([]int{money}, 8784), rest, 5)
	sum := 0
	for _, n := range list {
		sum += n
	}
	if sum != 5 {
		t.Fatal("the list was to wrap around to 5, not to", sum)
	}
	for _, size := range []int{1, 2, 4392, 4393, 8784, 8785, len(list)} {
		checkTotal(t, list[:size]...)
	}
	slices.Reverse(list)
	checkTotal(t, list...)
}

func TestTotalLeavesItsArgumentsAlone(t *testing.T) {
	for _, list := range [][]int{{1, 2, 3, 77, 78}, {1, -2, 3, 77, 78}, {money, 2, 3, 77, 78}} {
		before := slices.Clone(list)
		amount.Total(list[:3]...)
		if !slices.Equal(list, before) {
			t.Errorf("%v has become %v", before, list)
		}
	}
}

func TestFeeOfKnownAmounts(t *testing.T) {
	for _, c := range []struct {
		in, out, want int
		err           error
	}{
		{9, 4, 5, nil},
		{0, 0, 0, nil},
		{7, 7, 0, nil},
		{7, 0, 7, nil},
		{money, 0, money, nil},
		{money, money, 0, nil},
		{money, 1, money - 1, nil},
		{4, 5, 0, api.ErrValue},
		{0, money, 0, api.ErrValue},
		{-1, -2, 0, api.ErrValue},
		{-1, -1, 0, api.ErrValue},
		{5, -1, 0, api.ErrValue},
		{-1, 0, 0, api.ErrValue},
		{money + 1, 0, 0, api.ErrValue},
		{money + 1, money, 0, api.ErrValue},
		{money + 1, money + 1, 0, api.ErrValue},
		{math.MinInt, 1, 0, api.ErrValue},
		{math.MinInt, math.MaxInt, 0, api.ErrValue},
		{1, math.MinInt, 0, api.ErrValue},
		{math.MaxInt, math.MaxInt - 1, 0, api.ErrValue},
	} {
		if got, err := amount.Fee(c.in, c.out); got != c.want || err != c.err {
			t.Errorf("Fee(%d, %d) is %d, %v; want %d, %v", c.in, c.out, got, err, c.want, c.err)
		}
	}
}

func TestFeeOfEdgesAndScatteredAmounts(t *testing.T) {
	for _, in := range edges {
		for _, out := range edges {
			checkFee(t, in, out)
		}
	}
	s := scatter(92)
	for range 3000 {
		checkFee(t, s.upTo(money), s.upTo(money))
	}
}

// P9.1: rates

func TestRateIsGoodWithinItsBounds(t *testing.T) {
	for _, c := range []struct {
		rate amount.Rate
		want bool
	}{
		{r(0, 1), true},
		{r(1, 1), true},
		{r(money, 1), true},
		{r(0, heavy), true},
		{r(money, heavy), true},
		{r(5, heavy-1), true},
		{amount.Rate{}, false},
		{r(5, 0), false},
		{r(5, -1), false},
		{r(5, math.MinInt), false},
		{r(5, heavy+1), false},
		{r(5, math.MaxInt), false},
		{r(-1, 5), false},
		{r(math.MinInt, 5), false},
		{r(money+1, 5), false},
		{r(math.MaxInt, 5), false},
		{r(-1, -1), false},
	} {
		if c.rate.Good() != c.want {
			t.Errorf("%v.Good() is %v", c.rate, !c.want)
		}
	}
	for _, x := range edgeRates() {
		if x.Good() != good(x) {
			t.Errorf("%v.Good() is %v", x, x.Good())
		}
	}
}

func TestCompareOfKnownRates(t *testing.T) {
	for _, c := range []struct {
		x, y amount.Rate
		want int
	}{
		{r(1, 3), r(2, 5), -1}, // the chapter's example
		{r(1, 3), r(1, 3), 0},
		{r(1, 3), r(2, 6), 0},
		{r(0, 1), r(0, heavy), 0},
		{r(0, 1), r(1, heavy), -1},
		{r(7, 3), r(9, 4), 1},
		{r(2, 1), r(1, 1), 1},
		{r(1, 2), r(1, 1), -1},
		{r(money, heavy), r(money, heavy), 0},
		{r(money, heavy), r(money-1, heavy), 1},
		{r(money, heavy), r(money, heavy-1), -1},
		{r(money, heavy), r(money-1, heavy-1), -1},
		{r(money, 1), r(0, heavy), 1},
		{r(money, 1), r(1, heavy), 1},
		// The products differ only in the bits above the 64th: 2^64 and 0.
		{r(1<<24, 1), r(0, heavy), 1},
		// 2^64 against 1: the lower half is smaller, the product greater.
		{r(1<<24, 1), r(1, heavy), 1},
		{r(1<<50, 1<<30), r(1<<50-1, 1<<30), 1},
		// 2^80 + 2^40 against 2^80: alike above the 64th bit.
		{r(1<<40+1, heavy), r(1<<40, heavy), 1},
		// 2^63 against 2^63 - 1: the products aren't numbers with a sign.
		{r(1<<33, 1<<30), r(1<<33-1, 1<<30), 1},
	} {
		if got := c.x.Compare(c.y); got != c.want {
			t.Errorf("%v.Compare(%v) is %d; want %d", c.x, c.y, got, c.want)
		}
		if got := c.y.Compare(c.x); got != -c.want {
			t.Errorf("%v.Compare(%v) is %d; want %d", c.y, c.x, got, -c.want)
		}
	}
}

func TestCompareWithInvalidRatesIsZero(t *testing.T) {
	fine := []amount.Rate{r(0, 1), r(1, 1), r(5, 7), r(money, heavy), r(money, 1), r(0, heavy)}
	wrong := []amount.Rate{
		{}, r(1, 0), r(money, 0), r(1, -1), r(-1, 1), r(-1, -1), r(money+1, 1), r(1, heavy+1), r(0, heavy+1),
		r(math.MaxInt, math.MaxInt), r(math.MinInt, math.MinInt),
	}
	for _, x := range wrong {
		for _, y := range append(slices.Clone(fine), wrong...) {
			if x.Compare(y) != 0 || y.Compare(x) != 0 {
				t.Errorf("%v and %v compare as %d and %d", x, y, x.Compare(y), y.Compare(x))
			}
		}
	}
}

func checkWith(t *testing.T, x, y amount.Rate) {
	t.Helper()
	want, wantErr := with(x, y)
	if got, err := x.With(y); got != want || err != wantErr {
		t.Errorf("%v.With(%v) is %v, %v; want %v, %v", x, y, got, err, want, wantErr)
	}
}

func TestWithOfKnownRates(t *testing.T) {
	for _, c := range []struct {
		x, y, want amount.Rate
		err        error
	}{
		{r(1, 2), r(3, 4), r(4, 6), nil},
		{r(0, 1), r(0, 1), r(0, 2), nil},
		{r(money, 1), r(0, 1), r(money, 2), nil},
		{r(money-1, 1), r(1, 1), r(money, 2), nil},
		{r(1, heavy-1), r(1, 1), r(2, heavy), nil},
		{r(money-5, heavy-7), r(5, 7), r(money, heavy), nil},
		{r(money, 1), r(1, 1), amount.Rate{}, api.ErrRange},
		{r(money, 1), r(money, 1), amount.Rate{}, api.ErrRange},
		{r(1, heavy), r(1, 1), amount.Rate{}, api.ErrRange},
		{r(1, heavy), r(1, heavy), amount.Rate{}, api.ErrRange},
		{amount.Rate{}, amount.Rate{}, amount.Rate{}, api.ErrRange},
		// The result of each of these would be valid, one of the two isn't.
		{r(5, 5), r(1, 0), amount.Rate{}, api.ErrRange},
		{r(5, 5), r(1, -1), amount.Rate{}, api.ErrRange},
		{r(5, 5), r(-1, 1), amount.Rate{}, api.ErrRange},
		{r(money+1, 5), r(-1, 1), amount.Rate{}, api.ErrRange},
		{r(5, heavy+1), r(1, -1), amount.Rate{}, api.ErrRange},
		{r(math.MaxInt, 1), r(math.MinInt+1, 1), amount.Rate{}, api.ErrRange},
		{r(math.MinInt, 1), r(math.MinInt, 1), amount.Rate{}, api.ErrRange},
	} {
		if got, err := c.x.With(c.y); got != c.want || err != c.err {
			t.Errorf("%v.With(%v) is %v, %v; want %v, %v", c.x, c.y, got, err, c.want, c.err)
		}
		if got, err := c.y.With(c.x); got != c.want || err != c.err {
			t.Errorf("%v.With(%v) is %v, %v; want %v, %v", c.y, c.x, got, err, c.want, c.err)
		}
	}
}

func TestCompareAndWithOfEdgesAndScatteredRates(t *testing.T) {
	check := func(x, y amount.Rate) {
		t.Helper()
		if got := x.Compare(y); got != compare(x, y) {
			t.Errorf("%v.Compare(%v) is %d; want %d", x, y, got, compare(x, y))
		}
		checkWith(t, x, y)
	}
	s := scatter(93)
	all := edgeRates()
	valid := slices.DeleteFunc(slices.Clone(all), func(x amount.Rate) bool { return !good(x) })
	for _, x := range valid {
		for _, y := range valid {
			check(x, y)
		}
		for range 50 {
			y := all[s.below(len(all))]
			check(x, y)
			check(y, x)
		}
	}
	for range 5000 {
		check(s.rate(), s.rate())
	}
}

func checkNeed(t *testing.T, weight, per int) {
	t.Helper()
	want, wantErr := need(weight, per)
	if got, err := amount.Need(weight, per); got != want || err != wantErr {
		t.Errorf("Need(%d, %d) is %d, %v; want %d, %v", weight, per, got, err, want, wantErr)
	}
}

func TestNeedOfKnownWeights(t *testing.T) {
	for _, c := range []struct {
		weight, per, want int
		err               error
	}{
		{1, 0, 0, nil},
		{broad, 0, 0, nil},
		{1, 1, 1, nil},
		{1, 1000, 1, nil},
		{1, 1001, 2, nil},
		{999, 1, 1, nil},
		{1000, 1, 1, nil},
		{1001, 1, 2, nil},
		{1000, 7, 7, nil},
		{1001, 7, 8, nil},
		{500, 3, 2, nil},
		{2000, 3, 6, nil},
		{broad, 1, 1049, nil},
		{1, broad, 1049, nil},
		{1000, broad, broad, nil},
		{broad, broad, 1099511628, nil},
		{0, 1, 0, api.ErrRange},
		{0, 0, 0, api.ErrRange},
		{-1, 1, 0, api.ErrRange},
		{-1, -1, 0, api.ErrRange},
		{broad + 1, 1, 0, api.ErrRange},
		{1, -1, 0, api.ErrRange},
		{1, broad + 1, 0, api.ErrRange},
		{math.MaxInt, math.MaxInt, 0, api.ErrRange},
		{math.MinInt, math.MinInt, 0, api.ErrRange},
		{1 << 32, 1 << 32, 0, api.ErrRange},
	} {
		if got, err := amount.Need(c.weight, c.per); got != c.want || err != c.err {
			t.Errorf("Need(%d, %d) is %d, %v; want %d, %v", c.weight, c.per, got, err, c.want, c.err)
		}
	}
}

func TestNeedOfEdgesAndScatteredWeights(t *testing.T) {
	for _, weight := range edges {
		for _, per := range edges {
			checkNeed(t, weight, per)
		}
	}
	s := scatter(94)
	for range 5000 {
		checkNeed(t, 1+s.upTo(broad-1), s.upTo(broad))
	}
}

func checkPays(t *testing.T, x amount.Rate, per, least int) {
	t.Helper()
	if got := x.Pays(per, least); got != pays(x, per, least) {
		t.Errorf("%v.Pays(%d, %d) is %v", x, per, least, got)
	}
}

func TestPaysOfKnownRates(t *testing.T) {
	for _, c := range []struct {
		rate       amount.Rate
		per, least int
		want       bool
	}{
		{r(8, 1001), 7, 8, true},
		{r(8, 1001), 7, 0, true},
		{r(7, 1001), 7, 0, false},
		{r(8, 1001), 7, 9, false},
		{r(9, 1001), 7, 9, true},
		{r(0, 1), 0, 0, true},
		{r(0, 1), 0, 1, false},
		{r(0, 1), 1, 0, false},
		{r(0, 1), 0, math.MinInt, true},
		{r(5, 10), 0, -1, true},
		{r(5, 10), 0, 5, true},
		{r(5, 10), 0, 6, false},
		{r(5, 10), 0, math.MaxInt, false},
		{r(money, 10), 0, money, true},
		{r(money, 10), 0, money + 1, false},
		{r(1099511628, broad), broad, 0, true},
		{r(1099511627, broad), broad, 0, false},
		{r(money, 1), broad, 0, true},
		// Need doesn't take these.
		{r(money, broad+1), 0, 0, false},
		{r(money, broad+1), 1, 0, false},
		{r(money, heavy), 0, 0, false},
		{r(money, 10), -1, 0, false},
		{r(money, 10), broad + 1, 0, false},
		{r(money, 10), math.MaxInt, 0, false},
		{r(money, 10), math.MinInt, 0, false},
		// These rates aren't valid.
		{amount.Rate{}, 0, 0, false},
		{r(8, 0), 0, 0, false},
		{r(8, -1), 0, 0, false},
		{r(-1, 10), 0, -5, false},
		{r(math.MinInt, 10), 0, math.MinInt, false},
		{r(money+1, 10), 0, 0, false},
		{r(math.MaxInt, 10), 7, 8, false},
	} {
		if got := c.rate.Pays(c.per, c.least); got != c.want {
			t.Errorf("%v.Pays(%d, %d) is %v", c.rate, c.per, c.least, got)
		}
	}
}

func TestPaysOfEdgesAndScatteredRates(t *testing.T) {
	s := scatter(95)
	for _, x := range edgeRates() {
		for range 20 {
			checkPays(t, x, s.of(edges), s.of(edges))
			checkPays(t, x, s.upTo(broad), s.upTo(money))
		}
	}
	for range 3000 {
		weight, per := 1+s.upTo(broad-1), s.upTo(broad)
		least := s.upTo(money)
		exact, err := need(weight, per)
		if err != nil {
			t.Fatal(err)
		}
		for step := -2; step <= 2; step++ {
			checkPays(t, r(exact+step, weight), per, 0)
			checkPays(t, r(exact+step, weight), per, exact)
			checkPays(t, r(least+step, weight), per, least)
		}
	}
}

// P9.2

func checkOrder(t *testing.T, x, y, z amount.Rate) {
	t.Helper()
	if x.Compare(x) != 0 {
		t.Errorf("%v isn't equal to itself", x)
	}
	if x.Compare(y) != -y.Compare(x) {
		t.Errorf("%v and %v compare as %d and %d", x, y, x.Compare(y), y.Compare(x))
	}
	// Where neither is less than the next one, the first isn't less than the last; and if one of the steps is strict, so is the whole.
	if x.Compare(y) >= 0 && y.Compare(z) >= 0 && x.Compare(z) != max(x.Compare(y), y.Compare(z)) {
		t.Errorf("%v, %v and %v compare as %d, %d and %d", x, y, z, x.Compare(y), y.Compare(z), x.Compare(z))
	}
}

// checkBetween reports whether there was a combination to look at.
func checkBetween(t *testing.T, x, y amount.Rate) bool {
	t.Helper()
	both, err := x.With(y)
	if err != nil {
		return false
	}
	// Strictly between them, unless they are equal.
	if want := x.Compare(y); x.Compare(both) != want || both.Compare(y) != want {
		t.Errorf("%v with %v is %v, which compares as %d and %d", x, y, both, x.Compare(both), both.Compare(y))
	}
	return true
}

func TestRatesAreTotallyOrdered(t *testing.T) {
	var small []amount.Rate
	for fee := range 5 {
		for weight := 1; weight <= 5; weight++ {
			small = append(small, r(fee, weight), r(money-fee, heavy-weight), r(money/5*fee, heavy/5*weight))
		}
	}
	for _, x := range small {
		for _, y := range small {
			for _, z := range small {
				checkOrder(t, x, y, z)
			}
		}
	}
	s := scatter(96)
	for range 20000 {
		checkOrder(t, s.rate(), s.rate(), s.rate())
	}
}

func TestCombinationLiesBetween(t *testing.T) {
	s := scatter(97)
	seen := 0
	for range 20000 {
		x := s.rate()
		if checkBetween(t, x, s.rate()) {
			seen++
		}
		// Almost equal rates, small and great.
		half := r(s.upTo(money/2-1), 1+s.upTo(heavy/2-2))
		for _, y := range []amount.Rate{half, r(half.Fee+1, half.Weight), r(half.Fee, half.Weight+1), r(half.Fee+1, half.Weight+1)} {
			if !checkBetween(t, half, y) || !checkBetween(t, y, half) {
				t.Errorf("%v and %v have no combination", half, y)
			}
		}
	}
	if seen < 5000 {
		t.Error("only", seen, "combinations of scattered rates")
	}
}
