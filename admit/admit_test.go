package admit_test

import (
	"math"
	"strings"
	"testing"

	"gossamer/admit"
	"gossamer/api"
	"gossamer/coins"
	"gossamer/graph"
	"gossamer/lock"
	"gossamer/tx"
)

// P15.1: Usual

func TestUsual(t *testing.T) {
	want := admit.Limits{Per: 1000, Weight: 1800, Ancestors: 8, Descendants: 8}
	if got := admit.Usual(); got != want {
		t.Errorf("Usual is %v, want %v", got, want)
	}
}

// P15.1: Coin

func TestCoin(t *testing.T) {
	a := making([]api.Point{spot(0)}, 10, 20, 30)
	b := pay(5, tx.Point(a, 1))
	v := viewOf(t, a, b)
	gives(t, v, tx.Point(a, 2), coin(77, "other"))
	gives(t, v, tx.Point(a, 3), coin(78, "other"))
	for name, c := range map[string]struct {
		point api.Point
		want  api.Coin
		ok    bool
	}{
		"a coin of the coin set":                              {spot(1), coin(spotValue, "k"), true},
		"a coin of the coin set that is spent by the graph":   {spot(0), coin(spotValue, "k"), true},
		"a coin of the graph":                                 {tx.Point(a, 0), coin(10, "k"), true},
		"a coin of the graph that is spent there":             {tx.Point(a, 1), coin(20, "k"), true},
		"a coin that both have":                               {tx.Point(a, 2), coin(30, "k"), true},
		"a coin of the coin set beside those of the graph":    {tx.Point(a, 3), coin(78, "other"), true},
		"a number that the graph's transaction doesn't have":  {tx.Point(a, 4), api.Coin{}, false},
		"the number -1":                                       {tx.Point(a, -1), api.Coin{}, false},
		"the least number":                                    {tx.Point(a, math.MinInt), api.Coin{}, false},
		"the greatest number":                                 {tx.Point(b, math.MaxInt), api.Coin{}, false},
		"another number of a digest that the coin set has":    {api.Point{Tx: spot(1).Tx, N: 0}, api.Coin{}, false},
		"a digest that neither has":                           {spot(spotCount), api.Coin{}, false},
		"zero bytes":                                          {api.Point{}, api.Coin{}, false},
		"a coin of a transaction that isn't in the graph yet": {tx.Point(pay(4, tx.Point(b, 0)), 0), api.Coin{}, false},
	} {
		coinIs(t, name, v, c.point, c.want, c.ok)
	}
}

// P15.1: Missing

func TestMissing(t *testing.T) {
	a := making([]api.Point{spot(0)}, 10, 20)
	v := viewOf(t, a, pay(5, tx.Point(a, 1)))
	one, two, three := spot(40), spot(30), tx.Point(a, 2)
	for name, c := range map[string]struct {
		points, want []api.Point
	}{
		"no spends":                     {nil, nil},
		"coins of both":                 {[]api.Point{spot(1), tx.Point(a, 0)}, nil},
		"coins that the graph spends":   {[]api.Point{spot(0), tx.Point(a, 1)}, nil},
		"one point without a coin":      {[]api.Point{one}, []api.Point{one}},
		"several, in their order":       {[]api.Point{one, spot(3), three, tx.Point(a, 0), two, spot(4)}, []api.Point{one, three, two}},
		"several, in the other order":   {[]api.Point{two, tx.Point(a, 0), three, spot(3), one}, []api.Point{two, three, one}},
		"one point twice":               {[]api.Point{one, one}, []api.Point{one}},
		"points again and again":        {[]api.Point{two, one, two, spot(2), spot(2), three, one, two, three}, []api.Point{two, one, three}},
		"one digest with other numbers": {[]api.Point{{Tx: one.Tx, N: 3}, {Tx: one.Tx, N: 1}, {Tx: one.Tx, N: 3}}, []api.Point{{Tx: one.Tx, N: 3}, {Tx: one.Tx, N: 1}}},
		"numbers that none may have":    {[]api.Point{{N: -1}, {N: math.MaxInt}, {N: 8}, {N: math.MinInt}}, []api.Point{{N: -1}, {N: math.MaxInt}, {N: 8}, {N: math.MinInt}}},
	} {
		// Whether the transaction is valid, unlocks its coins or pays enough doesn't matter.
		missingIs(t, name, v, unsigned(c.points), c.want...)
		missingIs(t, name, v, unsigned(c.points, 1, -1, api.MaxMoney), c.want...)
	}
}

func TestMissingOfManySpends(t *testing.T) {
	var points, want []api.Point
	for i := range 30000 {
		points = append(points, api.Point{Tx: spot(1).Tx, N: i % 20000})
		if i < 20000 && i != spot(1).N {
			want = append(want, points[i])
		}
	}
	missingIs(t, "many spends", viewOf(t), unsigned(points, 1), want...)
}

// P15.1: Fee

func TestFee(t *testing.T) {
	a := making([]api.Point{spot(0)}, 500, 30)
	v := viewOf(t, a, pay(5, tx.Point(a, 1)))
	own := []api.Point{tx.Point(a, 0), spot(1), tx.Point(a, 1)}
	for name, c := range map[string]struct {
		tx   api.Tx
		want int
		err  error
	}{
		"a coin of the coin set":           {pay(spotValue-7, spot(1)), 7, nil},
		"a coin of the graph":              {pay(499, tx.Point(a, 0)), 1, nil},
		"coins that the graph spends":      {pay(30, spot(0), tx.Point(a, 1)), spotValue, nil},
		"coins of both":                    {making(own, 1, 2, 3), spotValue + 530 - 6, nil},
		"nothing for oneself":              {pay(0, spot(1)), spotValue, nil},
		"no fee":                           {making(own, spotValue, 30, 500), 0, nil},
		"one more than there is":           {making(own, spotValue, 30, 501), 0, api.ErrValue},
		"much more than there is":          {making(own, api.MaxMoney), 0, api.ErrValue},
		"all spots of a valid transaction": {making(spots(8), 1, 1, 1, 1, 1, 1, 1, 1), 8*spotValue - 8, nil},
	} {
		feeIs(t, name, v, c.tx, c.want, c.err)
	}
}

// The coins need different keys, each at its own place.
func TestFeeAsksEachWitness(t *testing.T) {
	v := viewOf(t)
	var points []api.Point
	keys := []string{"a", "", strings.Repeat("k", 32), "d"}
	for i, key := range keys {
		points = append(points, spot(60+i))
		gives(t, v, spot(60+i), coin(10, key))
	}
	right, err := lock.Sign(unsigned(points, 33), keys...)
	if err != nil {
		t.Fatal(err)
	}
	feeIs(t, "the right keys", v, right, 7, nil)
	for i := range keys {
		for name, do := range map[string]func(s *api.Spend){
			"another key":                   func(s *api.Spend) { s.Key = "z" },
			"another seal":                  func(s *api.Spend) { s.Seal++ },
			"a seal that has another bit":   func(s *api.Spend) { s.Seal ^= 1 << 63 },
			"another key and its seal":      func(s *api.Spend) { s.Key, s.Seal = "z", lock.Seal("z", tx.ID(right)) },
			"the seal of another one's key": func(s *api.Spend) { s.Seal = right.Spends[(i+1)%4].Seal },
		} {
			wrong := clone(right)
			do(&wrong.Spends[i])
			feeIs(t, name, v, wrong, 0, api.ErrWitness)
			fails(t, name, v, wrong, free(), api.ErrWitness)
		}
	}
	// What was signed is changed afterwards.
	cheaper := clone(right)
	cheaper.Coins[0].Value--
	feeIs(t, "another value", v, cheaper, 0, api.ErrWitness)
}

// Sums of coins around the greatest amount, which one set can have as its coins are many.
func TestFeeOfGreatSums(t *testing.T) {
	v := viewOf(t)
	half := api.MaxMoney / 2
	great, small, least, most := spot(60), spot(61), spot(62), spot(63)
	gives(t, v, great, coin(half, "k"))
	gives(t, v, small, coin(half, "k"))
	gives(t, v, least, coin(1, "k"))
	gives(t, v, most, coin(api.MaxMoney, "k"))
	for name, c := range map[string]struct {
		tx   api.Tx
		want int
		err  error
	}{
		"the greatest amount":                  {pay(0, most), api.MaxMoney, nil},
		"the greatest amount as a sum":         {pay(1, great, small), api.MaxMoney - 1, nil},
		"one more than the greatest amount":    {pay(api.MaxMoney, great, small, least), 0, api.ErrValue},
		"much more than the greatest amount":   {pay(api.MaxMoney, great, small, most), 0, api.ErrValue},
		"the greatest amount for the greatest": {pay(api.MaxMoney, most), 0, nil},
	} {
		feeIs(t, name, v, c.tx, c.want, c.err)
		if c.err != nil {
			fails(t, name, v, c.tx, free(), c.err)
		} else {
			passes(t, name, v, c.tx, free(), c.want)
		}
	}
}

// A set has a coin that isn't an amount by undoing a transaction that spent such a coin.
func TestFeeOfCoinsThatAreNoAmounts(t *testing.T) {
	for _, value := range []int{-1, math.MinInt, api.MaxMoney + 1, math.MaxInt} {
		v := viewOf(t)
		odd := pay(0, spot(70))
		gives(t, v, tx.Point(odd, 0), odd.Coins[0])
		if err := v.Coins.Back(coins.Undo{Tx: odd, Coins: []api.Coin{coin(value, "k")}}); err != nil {
			t.Fatal(err)
		}
		coinIs(t, "a value that isn't an amount", v, spot(70), coin(value, "k"), true)
		for _, a := range []api.Tx{pay(0, spot(70)), pay(0, spot(70), spot(1)), pay(1, spot(1), spot(70))} {
			feeIs(t, "a value that isn't an amount", v, a, 0, api.ErrValue)
			fails(t, "a value that isn't an amount", v, a, free(), api.ErrValue)
		}
	}
}

// Fee asks neither whether a transaction is there already, nor for conflicts, nor for limits.
func TestFeeOfWhatIsThere(t *testing.T) {
	a := pay(4000, spot(0))
	b := pay(100, tx.Point(a, 0))
	v := viewOf(t, a, b)
	gives(t, v, tx.Point(b, 0), b.Coins[0])
	feeIs(t, "a transaction of the graph", v, a, 6000, nil)
	feeIs(t, "its child, whose coin is in the coin set", v, b, 3900, nil)
	feeIs(t, "a conflict", v, pay(1, spot(0)), spotValue-1, nil)
	feeIs(t, "a conflict of its own ancestor", v, pay(spotValue, spot(0), tx.Point(b, 0)), 100, nil)
}

// invalid are transactions that aren't valid, with their errors. All of what they spend is there, and signed.
func invalid() map[string]struct {
	tx  api.Tx
	err error
} {
	change := func(do func(a *api.Tx)) api.Tx {
		a := making(spots(2), 5, 6)
		do(&a)
		return resigned(a)
	}
	long := change(func(a *api.Tx) {})
	long.Spends[1].Key = strings.Repeat("k", api.MaxKey+1)
	return map[string]struct {
		tx  api.Tx
		err error
	}{
		"nothing":            {api.Tx{}, api.ErrForm},
		"no spends":          {change(func(a *api.Tx) { a.Spends = nil }), api.ErrForm},
		"no coins":           {change(func(a *api.Tx) { a.Coins = nil }), api.ErrForm},
		"nine spends":        {making(spots(9), 5), api.ErrForm},
		"nine coins":         {making(spots(1), 1, 1, 1, 1, 1, 1, 1, 1, 1), api.ErrForm},
		"a long key":         {long, api.ErrForm},
		"a number of -1":     {change(func(a *api.Tx) { a.Spends[1].From.N = -1 }), api.ErrForm},
		"a number of 8":      {change(func(a *api.Tx) { a.Spends[1].From.N = 8 }), api.ErrForm},
		"a negative value":   {change(func(a *api.Tx) { a.Coins[1].Value = -1 }), api.ErrValue},
		"a value too great":  {change(func(a *api.Tx) { a.Coins[1].Value = api.MaxMoney + 1 }), api.ErrValue},
		"a sum too great":    {change(func(a *api.Tx) { a.Coins[1].Value = api.MaxMoney }), api.ErrValue},
		"a point twice":      {change(func(a *api.Tx) { a.Spends[1].From = a.Spends[0].From }), api.ErrSpent},
		"a lost point twice": {change(func(a *api.Tx) { a.Spends[0].From, a.Spends[1].From = spot(50), spot(50) }), api.ErrSpent},
	}
}

// P15.1: what isn't valid has the error of layer 10, whatever else is wrong with it.
func TestInvalidTransactions(t *testing.T) {
	v := viewOf(t, pay(3, spot(0)))
	strict := admit.Limits{Per: -1, Weight: -1, Ancestors: -1, Descendants: -1}
	for name, c := range invalid() {
		feeIs(t, name, v, c.tx, 0, c.err)
		feeIs(t, name+" on nothing", admit.View{}, c.tx, 0, c.err)
		for _, l := range []admit.Limits{free(), strict, admit.Usual(), {}} {
			fails(t, name, v, c.tx, l, c.err)
			fails(t, name+" on nothing", admit.View{}, c.tx, l, c.err)
		}
	}
}

// P15.1: nil coins and a nil graph count as empty ones.

func TestNilViews(t *testing.T) {
	full := viewOf(t)
	a := pay(4000, spot(0))
	b := pay(100, tx.Point(a, 0))
	for name, pair := range map[string][2]admit.View{
		"nothing":  {{}, {Coins: coins.New(), Graph: graph.New()}},
		"no coins": {{Graph: viewOf(t, a).Graph}, {Coins: coins.New(), Graph: viewOf(t, a).Graph}},
		"no graph": {{Coins: full.Coins}, {Coins: full.Coins, Graph: graph.New()}},
		"a zero set and a zero graph": {
			{Coins: new(coins.Set), Graph: new(graph.Graph)}, {Coins: coins.New(), Graph: graph.New()},
		},
	} {
		got, empty := pair[0], pair[1]
		for _, c := range []api.Tx{{}, a, b, pay(1, spot(0)), pay(1, tx.Point(a, 0), spot(5)), twin(b), pay(api.MaxMoney, spot(3))} {
			for n := range 2 {
				want, ok := empty.Coin(tx.Point(c, n))
				coinIs(t, name, got, tx.Point(c, n), want, ok)
			}
			missingIs(t, name, got, c, empty.Missing(c)...)
			fee, err := empty.Fee(c)
			feeIs(t, name, got, c, fee, err)
			for _, l := range []admit.Limits{free(), admit.Usual(), {}} {
				look, err := empty.Look(c, l)
				lookIs(t, name, got, c, l, look, err)
			}
		}
	}
}

func TestNilViewsByHand(t *testing.T) {
	a := pay(4000, spot(0))
	b := pay(100, tx.Point(a, 0))
	lost := func(p ...api.Point) admit.Look { return admit.Look{Missing: p} }
	nothing, noCoins, noGraph := admit.View{}, admit.View{Graph: viewOf(t, a).Graph}, admit.View{Coins: viewOf(t).Coins}
	coinIs(t, "nothing", nothing, spot(0), api.Coin{}, false)
	lookIs(t, "nothing", nothing, a, free(), lost(spot(0)), api.ErrOrphan)
	feeIs(t, "nothing", nothing, a, 0, api.ErrOrphan)
	fails(t, "no coins", noCoins, a, free(), api.ErrDup)
	passes(t, "no coins", noCoins, b, free(), 3900)
	lookIs(t, "no coins", noCoins, pay(1, spot(0)), free(), lost(spot(0)), api.ErrOrphan)
	passes(t, "no graph", noGraph, a, free(), 6000)
	lookIs(t, "no graph", noGraph, b, free(), lost(tx.Point(a, 0)), api.ErrOrphan)
}
