package replace_test

import (
	"math"
	"slices"
	"testing"

	"gossamer/admit"
	"gossamer/api"
	"gossamer/coins"
	"gossamer/graph"
	"gossamer/tx"
)

// leastFee holds that a bid takes the place of others with this fee, and not with less.
func leastFee(t *testing.T, name string, v admit.View, offer func(fee int) api.Tx, step, least int, gone ...api.Tx) {
	t.Helper()
	for _, fee := range []int{least, least + 1, least + 1000} {
		replaces(t, name, v, offer(fee), step, gone...)
	}
	for _, fee := range []int{0, 1, least / 2, least - 2, least - 1} {
		if fee >= 0 && fee < least {
			refuses(t, name, v, offer(fee), step, api.ErrFee)
		}
	}
}

// bids is bid of several fees.
func bids(v admit.View, points ...api.Point) func(fee int) api.Tx {
	return func(fee int) api.Tx { return bid(v, fee, points...) }
}

// heavyBids is heavyBid of several fees.
func heavyBids(v admit.View, points ...api.Point) func(fee int) api.Tx {
	return func(fee int) api.Tx { return heavyBid(v, fee, points...) }
}

// P16.1: condition 4, the sum of the fees

// Without a step the fee must be greater by 1.
func TestFeeIsGreater(t *testing.T) {
	for _, fee := range []int{0, 1, 2, 300, 70000} {
		a := pay(5000, spot(0))
		v := viewOf(t)
		puts(t, v, a, fee)
		leastFee(t, "one conflict", v, bids(v, spot(0)), 0, fee+1, a)
	}
}

// The sum is that of all that goes, each once, with the fees that the graph has, whatever the coins are worth.
func TestFeesOfAllThatGoes(t *testing.T) {
	a := wide(5000, spot(0))
	b, c := pay(3000, tx.Point(a, 0)), pay(3000, tx.Point(a, 1))
	d := pay(100, tx.Point(b, 0), tx.Point(c, 0), spot(1))
	e := pay(50, spot(2))
	v := viewOf(t)
	for i, x := range []api.Tx{e, d, a, b, c} {
		puts(t, v, x, 1000<<i)
	}
	for name, x := range map[string]struct {
		points []api.Point
		least  int
		gone   []api.Tx
	}{
		"the lowest one":         {[]api.Point{tx.Point(c, 0)}, 2001, []api.Tx{d}},
		"the highest one":        {[]api.Point{spot(0)}, 30001, []api.Tx{d, a, b, c}},
		"one of two":             {[]api.Point{tx.Point(a, 1)}, 18001, []api.Tx{d, c}},
		"both":                   {[]api.Point{tx.Point(a, 1), tx.Point(a, 0)}, 26001, []api.Tx{d, b, c}},
		"another one, and two":   {[]api.Point{spot(2), tx.Point(a, 0)}, 11001, []api.Tx{e, d, b}},
		"one by two of its ways": {[]api.Point{spot(1), tx.Point(b, 0)}, 2001, []api.Tx{d}},
	} {
		// Coins that are worth enough let each of these fees be paid, and no rate of a conflict is near.
		points := append(slices.Clone(x.points), spot(9))
		leastFee(t, name, v, bids(v, points...), 0, max(x.least, outbidding(t, v, bid(v, 0, points...))), x.gone...)
	}
}

// outbidding is the least fee at which a transaction has a greater rate than each of its conflicts.
func outbidding(t *testing.T, v admit.View, a api.Tx) int {
	t.Helper()
	least := 0
	for _, id := range v.Graph.Conflicts(a) {
		rate, err := v.Graph.Rate(id)
		if err != nil {
			t.Fatal(err)
		}
		least = max(least, rate.Fee*tx.Weight(a)/rate.Weight+1)
	}
	return least
}

// A sum that isn't an amount is greater than any fee, and so is one that wraps around; the greatest amount can't be outbid either.
func TestFeesThatAreTooGreat(t *testing.T) {
	for n := 1; n <= 9; n++ {
		list := row(spot(0), n)
		v := admit.View{Coins: coins.New(), Graph: graph.New()}
		gives(t, v, spot(0), coin(api.MaxMoney))
		for _, a := range list {
			puts(t, v, a, api.MaxMoney)
		}
		for _, step := range []int{0, 1000} {
			refuses(t, "the greatest fees", v, bid(v, 0, spot(0)), step, api.ErrFee)
			refuses(t, "the greatest fees", v, bid(v, api.MaxMoney, spot(0)), step, api.ErrFee)
		}
	}
	a := pay(5, spot(0))
	v := admit.View{Coins: coins.New(), Graph: graph.New()}
	gives(t, v, spot(0), coin(api.MaxMoney))
	puts(t, v, a, api.MaxMoney-230)
	replaces(t, "the greatest amount but the step", v, bid(v, api.MaxMoney, spot(0)), 1000, a)
	refuses(t, "the greatest amount but less than the step", v, bid(v, api.MaxMoney, spot(0)), 1001, api.ErrFee)
	refuses(t, "the greatest amount but less than the step", v, bid(v, api.MaxMoney-1, spot(0)), 1000, api.ErrFee)
}

// P16.1: condition 4, the step

func TestStep(t *testing.T) {
	a := pay(5000, spot(0))
	b := pay(4000, tx.Point(a, 0))
	v := viewOf(t, a, b)
	// A bid for one point has the weight 230, and one for two 384.
	for _, x := range []struct{ step, need, needOfTwo int }{
		{0, 1, 1}, {1, 1, 1}, {2, 1, 1}, {3, 1, 2}, {4, 1, 2}, {5, 2, 2}, {999, 230, 384}, {1000, 230, 384}, {1001, 231, 385},
		{1004, 231, 386}, {1005, 232, 386}, {20000, 4600, 7680}, {1 << 20, 241173, 402654},
	} {
		leastFee(t, "one point", v, bids(v, spot(0)), x.step, 200+x.need, a, b)
		leastFee(t, "two points", v, bids(v, spot(1), spot(0)), x.step, 200+x.needOfTwo, a, b)
		leastFee(t, "the lower one", v, bids(v, tx.Point(a, 0), spot(9)), x.step, 100+max(x.needOfTwo, 384*100/230+1-100), b)
	}
}

// With a step that Need doesn't have, nothing is replaced, but what has no conflicts is put as ever.
func TestStepsOutOfRange(t *testing.T) {
	v := viewOf(t, pay(5000, spot(0)))
	for _, step := range []int{math.MinInt, math.MinInt + 1, -1 << 20, -1000, -1, 1<<20 + 1, 1 << 40, math.MaxInt - 1, math.MaxInt} {
		for _, fee := range []int{0, 100, 101, 900000} {
			refuses(t, "a step out of range", v, bid(v, fee, spot(0)), step, api.ErrFee)
			replaces(t, "a step out of range", v, bid(v, fee, spot(1)), step)
		}
	}
	replaces(t, "the greatest step", v, bid(v, 900000, spot(0)), 1<<20, pay(5000, spot(0)))
	replaces(t, "the least step", v, bid(v, 900000, spot(0)), 0, pay(5000, spot(0)))
}

// P16.1: condition 4, the rates

// A heavy transaction must have a greater rate than each conflict, by itself.
func TestRates(t *testing.T) {
	for _, fee := range []int{1, 22, 23, 24, 100, 101, 1000, 12345} {
		a := pay(5000, spot(0))
		v := viewOf(t)
		puts(t, v, a, fee)
		// It has the weight 678 against 230.
		least := fee*678/230 + 1
		leastFee(t, "a heavy one", v, heavyBids(v, spot(0)), 0, least, a)
		leastFee(t, "a heavy one", v, heavyBids(v, spot(0)), 10, max(least, fee+7), a)
		// The other way round, the sum decides.
		b := wide(5000, spot(0))
		v = viewOf(t)
		puts(t, v, b, fee)
		leastFee(t, "a light one", v, bids(v, spot(0)), 0, fee+1, b)
	}
}

// Rates that are equal aren't enough.
func TestEqualRates(t *testing.T) {
	a := pay(5000, spot(0))
	v := viewOf(t)
	puts(t, v, a, 230*7)
	leastFee(t, "a heavy one", v, heavyBids(v, spot(0)), 0, 678*7+1, a)
	refuses(t, "the same rate", v, heavyBid(v, 678*7, spot(0)), 0, api.ErrFee)
}

// Of several conflicts, the one with the greatest rate decides, wherever it is.
func TestRatesOfSeveralConflicts(t *testing.T) {
	for n := 1; n <= 4; n++ {
		for best := range n {
			v := viewOf(t)
			var list []api.Tx
			var points []api.Point
			for i := range n {
				a, fee := pay(5000, spot(i)), 10
				if i == best {
					fee = 1000
				}
				puts(t, v, a, fee)
				list, points = append(list, a), append(points, spot(n-1-i))
			}
			a := heavyBid(v, 0, points...)
			least := 1000*tx.Weight(a)/230 + 1
			leastFee(t, "several conflicts", v, heavyBids(v, points...), 0, least, list...)
		}
	}
}

// The rates of descendants, and that of the replaced set, don't matter.
func TestRatesOfOthers(t *testing.T) {
	a := wide(5000, spot(0))
	b := pay(4000, tx.Point(a, 0))
	v := viewOf(t)
	puts(t, v, a, 0)
	puts(t, v, b, 70000)
	leastFee(t, "a dear child", v, heavyBids(v, spot(0)), 0, 70001, a, b)
	a = pay(5000, spot(0))
	b = wide(4, tx.Point(a, 0))
	v = viewOf(t)
	puts(t, v, a, 1000)
	puts(t, v, b, 0)
	leastFee(t, "a cheap child", v, heavyBids(v, spot(0)), 0, 1000*678/230+1, a, b)
}

// P16.1: Check uses the fee and the weight that it is given

func TestCheckOfOtherFees(t *testing.T) {
	a := pay(5000, spot(0))
	v := viewOf(t, a)
	rival := bid(v, 500, spot(0))
	x, err := v.Look(rival, free())
	if err != nil {
		t.Fatal(err)
	}
	for _, e := range []struct {
		fee, weight, step int
		isEnough          bool
	}{
		{330, 230, 1000, true}, {329, 230, 1000, false}, {331, 230, 1004, true}, {331, 230, 1005, false},
		{101, 230, 0, true}, {100, 230, 0, false}, {101, 232, 0, true}, {101, 233, 0, false},
		{101, 1, 1000, true}, {101, 1, 1001, false}, {100, 1, 0, false}, {500, 0, 0, false}, {500, -1, 0, false},
		{500, math.MinInt, 0, false}, {500, math.MaxInt, 0, false}, {1 << 30, 1 << 20, 1000, true},
		{1 << 30, 1<<20 + 1, 0, false}, {api.MaxMoney, 1 << 20, 1 << 20, true}, {api.MaxMoney, 1<<20 + 1, 1 << 20, false},
		{api.MaxMoney + 1, 230, 0, false}, {api.MaxMoney + 101, 230, 0, false}, {math.MaxInt, 230, 0, false},
		{0, 230, 0, false}, {-1, 230, 0, false}, {math.MinInt, 230, 0, false}, {math.MinInt + 99, 230, 0, false}, {math.MinInt + 101, 230, 0, false},
	} {
		x.Fee, x.Weight = e.fee, e.weight
		if e.isEnough {
			checkIs(t, "another fee", v, rival, x, e.step, idsOf(a), nil)
		} else {
			checkIs(t, "another fee", v, rival, x, e.step, nil, api.ErrFee)
		}
	}
}
