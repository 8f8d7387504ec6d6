package admit_test

import (
	"math"
	"strings"
	"testing"

	"gossamer/admit"
	"gossamer/api"
	"gossamer/lock"
	"gossamer/tx"
)

// P15.1: a transaction that passes

func TestLook(t *testing.T) {
	a := making([]api.Point{spot(0)}, 4000, 3000)
	v := viewOf(t, a)
	passes(t, "a coin of the coin set", v, pay(9000, spot(1)), admit.Usual(), 1000)
	passes(t, "a coin of the graph", v, pay(3000, tx.Point(a, 0)), admit.Usual(), 1000)
	passes(t, "coins of both", v, making([]api.Point{spot(2), tx.Point(a, 1)}, 5000, 6000), admit.Usual(), 2000)
	firm := pay(9000, spot(1))
	firm.Firm = true
	passes(t, "a firm one", v, resigned(firm), admit.Usual(), 1000)
}

// The chapter's example, and others: the points without a coin are told with ErrOrphan alone.
func TestOrphans(t *testing.T) {
	a := making([]api.Point{spot(0)}, 4000, 3000)
	v := viewOf(t, a)
	one, two, three := spot(40), spot(30), tx.Point(a, 2)
	for name, c := range map[string]struct{ points, want []api.Point }{
		"one point":           {[]api.Point{one}, []api.Point{one}},
		"several points":      {[]api.Point{two, spot(1), three, tx.Point(a, 0), one}, []api.Point{two, three, one}},
		"one beside a rival":  {[]api.Point{spot(0), one}, []api.Point{one}},
		"one behind a parent": {[]api.Point{tx.Point(a, 1), two}, []api.Point{two}},
		"eight points":        {spots(28)[20:], spots(28)[20:]},
	} {
		for _, l := range []admit.Limits{free(), admit.Usual(), {}} {
			lookIs(t, name, v, making(c.points, 1), l, admit.Look{Missing: c.want}, api.ErrOrphan)
		}
		feeIs(t, name, v, making(c.points, 1), 0, api.ErrOrphan)
	}
}

// P15.1: what is there already

func TestTransactionsOfTheGraph(t *testing.T) {
	a := making([]api.Point{spot(0), spot(1)}, 4000, 3000)
	b := pay(100, tx.Point(a, 1))
	v := viewOf(t, a, b)
	for name, c := range map[string]api.Tx{"a": a, "b": b, "a with another witness": twin(a), "b with another witness": twin(b)} {
		fails(t, name, v, c, free(), api.ErrDup)
		fails(t, name, v, c, admit.Limits{}, api.ErrDup)
	}
	// Another value, order or mark makes another id.
	passes(t, "another value", v, making([]api.Point{spot(0), spot(1)}, 4000, 2999), free(), 2*spotValue-6999, a)
	passes(t, "another order of coins", v, making([]api.Point{spot(0), spot(1)}, 3000, 4000), free(), 2*spotValue-7000, a)
	passes(t, "another order of spends", v, making([]api.Point{spot(1), spot(0)}, 4000, 3000), free(), 2*spotValue-7000, a)
	v.Graph.Remove(tx.ID(a))
	passes(t, "a, which was removed", v, a, free(), 2*spotValue-7000)
	fails(t, "b, whose parent was removed", v, b, free(), api.ErrDup)
}

func TestCoinsThatAreThere(t *testing.T) {
	for size := 1; size <= api.MaxCoins; size++ {
		values := make([]int, size)
		a := making([]api.Point{spot(0)}, values...)
		for n := range api.MaxCoins {
			v := viewOf(t)
			// What the coin is doesn't matter.
			gives(t, v, tx.Point(a, n), coin(77, "other"))
			if n < size {
				fails(t, "one of its coins in the coin set", v, a, free(), api.ErrDup)
			} else {
				passes(t, "a number in the coin set of which it has no coin", v, a, free(), spotValue)
			}
		}
		v := viewOf(t)
		gives(t, v, tx.Point(a, -1), coin(77, "other"))
		gives(t, v, tx.Point(a, size), coin(77, "other"))
		gives(t, v, tx.Point(pay(1, spot(0)), 0), coin(77, "other"))
		passes(t, "points beside its own in the coin set", v, a, free(), spotValue)
	}
}

// Only the points of its own coins make a transaction one that is there already.
func TestCoinsThatTheGraphHas(t *testing.T) {
	a := making([]api.Point{spot(0)}, 4000, 3000)
	v := viewOf(t, a, pay(1, tx.Point(a, 0)))
	passes(t, "other coins of a parent of the graph", v, pay(2000, tx.Point(a, 1)), free(), 1000)
	// The graph has a child of it already.
	b := pay(5, tx.Point(pay(9, spot(3)), 0))
	w := viewOf(t, b)
	passes(t, "the parent of one in the graph", w, pay(9, spot(3)), free(), spotValue-9)
	passes(t, "the parent of one in the graph, with strict limits", w, pay(9, spot(3)), admit.Limits{Weight: 1800, Ancestors: 1, Descendants: 1}, spotValue-9)
}

// P15.1: the weight

func TestWeights(t *testing.T) {
	v := viewOf(t)
	for _, a := range []api.Tx{pay(1, spot(0)), making(spots(8), 1, 1, 1, 1, 1, 1, 1, 1), making(spots(3), 5, 5)} {
		weight, l := tx.Weight(a), free()
		fee, err := v.Fee(a)
		if err != nil {
			t.Fatal(err)
		}
		for _, most := range []int{weight, weight + 1, 1 << 20, math.MaxInt} {
			l.Weight = most
			passes(t, "a weight that isn't above the maximum", v, a, l, fee)
		}
		for _, most := range []int{weight - 1, 1, 0, -1, -weight, math.MinInt} {
			l.Weight = most
			fails(t, "a weight above the maximum", v, a, l, api.ErrLimit)
		}
	}
}

// Around the usual maximum and minimum, by keys of some lengths: eight spends and eight coins weigh 1748 and the bytes of the keys.
func TestUsualLimits(t *testing.T) {
	for length, want := range map[int]error{51: nil, 52: nil, 53: api.ErrLimit, 60: api.ErrLimit} {
		v := viewOf(t)
		var points []api.Point
		var keys []string
		for i := range 8 {
			points, keys = append(points, spot(60+i)), append(keys, strings.Repeat("k", (length+i)/8))
			gives(t, v, points[i], coin(1000, keys[i]))
		}
		weight := 1748 + length
		for fee, wantFee := range map[int]error{weight - 1: api.ErrFee, weight: nil, weight + 1: nil} {
			a, err := lock.Sign(unsigned(points, 8000-fee, 0, 0, 0, 0, 0, 0, 0), keys...)
			if err != nil || tx.Weight(a) != weight {
				t.Fatalf("the weight is %d, want %d: %v", tx.Weight(a), weight, err)
			}
			switch {
			case want != nil:
				fails(t, "a weight above the usual maximum", v, a, admit.Usual(), want)
			case wantFee != nil:
				fails(t, "a fee below the usual minimum", v, a, admit.Usual(), wantFee)
			default:
				passes(t, "a weight and a fee that are usual", v, a, admit.Usual(), fee)
			}
		}
	}
}

// P15.1: the fee

func TestFeesThatPay(t *testing.T) {
	v := viewOf(t)
	for _, per := range []int{0, 1, 2, 999, 1000, 1001, 5000} {
		l := free()
		l.Per = per
		weight := tx.Weight(pay(1, spot(0)))
		need := (per*weight + 999) / 1000
		passes(t, "just the fee that is needed", v, pay(spotValue-need, spot(0)), l, need)
		passes(t, "one more than the fee that is needed", v, pay(spotValue-need-1, spot(0)), l, need+1)
		if need > 0 {
			fails(t, "one less than the fee that is needed", v, pay(spotValue-need+1, spot(0)), l, api.ErrFee)
			fails(t, "no fee", v, pay(spotValue, spot(0)), l, api.ErrFee)
		}
	}
}

// A minimum fee for which Need of layer 9 has an error can't be paid.
func TestFeesThatNonePays(t *testing.T) {
	v := viewOf(t)
	gives(t, v, spot(60), coin(api.MaxMoney, "k"))
	l := free()
	l.Per = 1 << 20
	passes(t, "the greatest minimum fee", v, pay(0, spot(60)), l, api.MaxMoney)
	for _, per := range []int{1<<20 + 1, math.MaxInt, -1, -1000, math.MinInt} {
		l.Per = per
		fails(t, "a minimum fee out of range", v, pay(0, spot(60)), l, api.ErrFee)
		fails(t, "a minimum fee out of range and a fee of 0", v, pay(api.MaxMoney, spot(60)), l, api.ErrFee)
	}
}

// P15.1: conflicts

func TestConflictsAreInTheGraphsOrder(t *testing.T) {
	a, b, c, d := pay(5, spot(3)), pay(5, spot(2), spot(5)), pay(5, spot(1), spot(4)), pay(5, spot(7))
	child := pay(4, tx.Point(a, 0))
	v := viewOf(t, c, a, child, d, b)
	for name, e := range map[string]struct {
		points []api.Point
		want   []api.Tx
	}{
		"none":                        {[]api.Point{spot(0), spot(8)}, nil},
		"one":                         {[]api.Point{spot(0), spot(3)}, []api.Tx{a}},
		"one by two points":           {[]api.Point{spot(4), spot(1)}, []api.Tx{c}},
		"all, in order":               {[]api.Point{spot(1), spot(3), spot(7), spot(2)}, []api.Tx{c, a, d, b}},
		"all, in another order":       {[]api.Point{spot(5), spot(7), spot(3), spot(2), spot(1)}, []api.Tx{c, a, d, b}},
		"a child, without its parent": {[]api.Point{tx.Point(a, 0), spot(0)}, []api.Tx{child}},
		"a child and some others":     {[]api.Point{spot(2), tx.Point(a, 0), spot(1)}, []api.Tx{c, child, b}},
		"one without its child":       {[]api.Point{spot(3), tx.Point(b, 0)}, []api.Tx{a}},
	} {
		in := 0
		for _, p := range e.points {
			x, _ := v.Coin(p)
			in += x.Value
		}
		passes(t, name, v, pay(1, e.points...), free(), in-1, e.want...)
	}
}

// Whether conflicts are firm, or pay more, isn't asked here.
func TestAnyConflictPasses(t *testing.T) {
	firm := pay(5, spot(0))
	firm.Firm = true
	firm = resigned(firm)
	v := viewOf(t)
	puts(t, v, firm, api.MaxMoney)
	passes(t, "a firm conflict that pays more", v, pay(spotValue-1, spot(0)), free(), 1, firm)
}

// P15.1: the first check that fails decides

// flaws are what is wrong with a transaction: flaw i is there if bit i is set, and check i fails by it.
type flaws int

func (f flaws) has(i int) bool {
	return f>>i&1 == 1
}

// flawed is a transaction with these flaws, its limits, and its view. Of the two limits of families, own picks the one that is broken.
func flawed(t *testing.T, f flaws, own bool) (admit.View, api.Tx, admit.Limits) {
	t.Helper()
	a := pay(9000, spot(0))
	b := pay(8000, tx.Point(a, 0))
	v := viewOf(t, a, b)
	points := []api.Point{tx.Point(b, 0), spot(1)}
	if f.has(3) {
		points = append(points, spot(50))
	}
	if f.has(9) {
		points = append(points, spot(0))
	}
	value := 100
	if f.has(5) {
		value = api.MaxMoney
	}
	c := pay(value, points...)
	if f.has(1) {
		c.Coins = append(c.Coins, make([]api.Coin, 8)...)
		c = resigned(c)
	}
	if f.has(2) {
		gives(t, v, tx.Point(c, 0), coin(1, "other"))
	}
	if f.has(4) {
		c.Spends[1].Seal++
	}
	l := admit.Limits{Per: 1000, Weight: tx.Weight(c), Ancestors: 3, Descendants: 3}
	if f.has(6) {
		l.Weight--
	}
	if f.has(7) {
		l.Per = 1 << 20
	}
	if f.has(8) && own {
		l.Ancestors = 0
	} else if f.has(8) {
		l.Descendants = 0
	}
	return v, c, l
}

func TestFirstCheckThatFails(t *testing.T) {
	errs := []error{nil, api.ErrForm, api.ErrDup, api.ErrOrphan, api.ErrWitness, api.ErrValue, api.ErrLimit, api.ErrFee, api.ErrLimit, api.ErrSpent}
	for f := flaws(0); f < 1<<10; f += 2 {
		for _, own := range []bool{true, false} {
			v, a, l := flawed(t, f, own)
			first := 0
			for i := 9; i >= 1; i-- {
				if f.has(i) {
					first = i
				}
			}
			switch first {
			case 0:
				passes(t, "nothing wrong", v, a, l, 17900)
			case 3:
				lookIs(t, "a lost point", v, a, l, admit.Look{Missing: []api.Point{spot(50)}}, api.ErrOrphan)
			default:
				fails(t, "something wrong", v, a, l, errs[first])
			}
			feeOfFlawed(t, f, v, a)
			if t.Failed() {
				t.Fatalf("with the flaws %b, of which %d is the first one", f, first)
			}
		}
	}
}

// feeOfFlawed holds that Fee has the checks 1, 3, 4 and 5 alone.
func feeOfFlawed(t *testing.T, f flaws, v admit.View, a api.Tx) {
	t.Helper()
	switch {
	case f.has(1):
		feeIs(t, "flaw 1", v, a, 0, api.ErrForm)
	case f.has(3):
		feeIs(t, "flaw 3", v, a, 0, api.ErrOrphan)
	case f.has(4):
		feeIs(t, "flaw 4", v, a, 0, api.ErrWitness)
	case f.has(5):
		feeIs(t, "flaw 5", v, a, 0, api.ErrValue)
	case f.has(9):
		feeIs(t, "flaw 9", v, a, 17900+spotValue, nil)
	default:
		feeIs(t, "no such flaw", v, a, 17900, nil)
	}
}
