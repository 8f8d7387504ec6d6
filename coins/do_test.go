package coins_test

import (
	"fmt"
	"slices"
	"strings"
	"testing"

	"gossamer/api"
	"gossamer/coins"
)

// purse is a set of four coins, and their points.
func purse(t *testing.T) (*coins.Set, []api.Point) {
	t.Helper()
	points := []api.Point{{Tx: hash(7), N: 1}, {Tx: hash(3), N: 2}, {Tx: hash(9)}, {Tx: hash(3)}}
	s := coins.New()
	for i, c := range purseCoins() {
		putIs(t, "a new point", s, points[i], c, nil)
	}
	return s, points
}

func purseCoins() []api.Coin {
	return []api.Coin{coin(10, "a"), coin(5, "b"), coin(0, ""), coin(10, "a")}
}

// three spends three coins of the purse, worth 15, for coins of 3 and 6.
func three(points []api.Point) api.Tx {
	return sealed(api.Tx{
		Spends: []api.Spend{{From: points[1], Key: "b"}, {From: points[2]}, {From: points[0], Key: "a"}},
		Coins:  []api.Coin{coin(3, "c"), coin(6, "d")},
		Firm:   true,
	})
}

// changed is a transaction with something else in it, and with the seals that belong to it then.
func changed(a api.Tx, change func(a *api.Tx)) api.Tx {
	a = clone(a)
	change(&a)
	return sealed(a)
}

// broken is a transaction with something else in it, and with its old seals.
func broken(a api.Tx, change func(a *api.Tx)) api.Tx {
	a = clone(a)
	change(&a)
	return a
}

type refused struct {
	tx  api.Tx
	err error
}

// invalid are transactions that aren't valid, with the error of layer 10. No set has what they spend.
func invalid() map[string]refused {
	good := paying(api.Point{Tx: hash(200)}, 1, "a")
	many := func(n int) []api.Spend {
		var list []api.Spend
		for i := range n {
			list = append(list, api.Spend{From: api.Point{Tx: hash(201, byte(i))}, Key: "a"})
		}
		return list
	}
	return map[string]refused{
		"nothing":       {api.Tx{}, api.ErrForm},
		"no spends":     {changed(good, func(a *api.Tx) { a.Spends = nil }), api.ErrForm},
		"no coins":      {changed(good, func(a *api.Tx) { a.Coins = nil }), api.ErrForm},
		"nine spends":   {changed(good, func(a *api.Tx) { a.Spends = many(9) }), api.ErrForm},
		"nine coins":    {changed(good, func(a *api.Tx) { a.Coins = make([]api.Coin, 9) }), api.ErrForm},
		"a long key":    {changed(good, func(a *api.Tx) { a.Spends[0].Key = strings.Repeat("k", 33) }), api.ErrForm},
		"a number of 8": {changed(good, func(a *api.Tx) { a.Spends[0].From.N = 8 }), api.ErrForm},
		"no number":     {changed(good, func(a *api.Tx) { a.Spends[0].From.N = -1 }), api.ErrForm},
		"no amount":     {changed(good, func(a *api.Tx) { a.Coins[0].Value = -1 }), api.ErrValue},
		"too much":      {changed(good, func(a *api.Tx) { a.Coins[0].Value = api.MaxMoney + 1 }), api.ErrValue},
		"too great a sum": {changed(good, func(a *api.Tx) {
			a.Coins = []api.Coin{{Value: api.MaxMoney}, {Value: 1}}
		}), api.ErrValue},
		"a point twice": {changed(good, func(a *api.Tx) { a.Spends = append(a.Spends, a.Spends[0]) }), api.ErrSpent},
		"no amount and a point twice": {changed(good, func(a *api.Tx) {
			a.Spends, a.Coins[0].Value = append(a.Spends, a.Spends[0]), -1
		}), api.ErrValue},
		"a number of 8 and a point twice": {changed(good, func(a *api.Tx) {
			a.Spends[0].From.N = 8
			a.Spends = append(a.Spends, a.Spends[0])
		}), api.ErrForm},
	}
}

// P12.1: Fee and Do

func TestFeeAndDo(t *testing.T) {
	s, points := purse(t)
	a := three(points)
	feeIs(t, "three spends", s, a, 6, nil)
	does(t, "three spends", s, a, coin(5, "b"), coin(0, ""), coin(10, "a"))
	want := model{}.with(points[3], coin(10, "a")).with(own(a, 0), coin(3, "c")).with(own(a, 1), coin(6, "d"))
	unchanged(t, "three spends", s, want)
	for _, p := range points[:3] {
		getIs(t, "a spent point", s, p, api.Coin{}, false)
	}
	worthIs(t, "the set behind three spends", s, 19, nil)
}

// The witnesses aren't part of the id, and both are part of what is returned.
func TestDoReturnsTheWholeTransaction(t *testing.T) {
	s, points := purse(t)
	a := three(points)
	u := does(t, "three spends", s, a, coin(5, "b"), coin(0, ""), coin(10, "a"))
	if !u.Tx.Firm || u.Tx.Spends[0].Key != "b" || u.Tx.Spends[2].Seal != seal("a", a) || u.Tx.Coins[1] != coin(6, "d") {
		t.Errorf("what is returned of %v is %v", a, u.Tx)
	}
}

// All numbers of spends and of coins that a valid transaction has.
func TestDoOfAllSizes(t *testing.T) {
	for spends := 1; spends <= 8; spends++ {
		for size := 1; size <= 8; size++ {
			s, want, a := coins.New(), model{}, api.Tx{}
			var spent []api.Coin
			for i := range spends {
				p, key := api.Point{Tx: hash(byte(3 * i)), N: 7 - i}, fmt.Sprint("key ", i)
				putIs(t, "a coin to be spent", s, p, coin(10+i, key), nil)
				a.Spends = append(a.Spends, api.Spend{From: p, Key: key})
				spent = append(spent, coin(10+i, key))
			}
			putIs(t, "a coin that isn't spent", s, api.Point{N: 1}, coin(1, ""), nil)
			for i := range size {
				a.Coins = append(a.Coins, coin(i/4, fmt.Sprint("own ", i)))
			}
			a = sealed(a)
			in, _ := sumOf(spent)
			out, _ := sumOf(a.Coins)
			feeIs(t, "some spends and coins", s, a, in-out, nil)
			u := does(t, "some spends and coins", s, a, spent...)
			want = want.with(api.Point{N: 1}, coin(1, ""))
			for i, c := range a.Coins {
				want = want.with(own(a, i), c)
			}
			unchanged(t, "some spends and coins", s, want)
			backIs(t, "some spends and coins", s, u, nil)
			sizeIs(t, "the restored set", s, spends+1)
		}
	}
}

func TestFeesOfAllAmounts(t *testing.T) {
	for _, c := range []struct{ in, more, out, fee int }{
		{0, 0, 0, 0}, {7, 0, 7, 0}, {7, 0, 6, 1}, {7, 5, 12, 0}, {7, 5, 11, 1}, {7, 5, 0, 12},
		{api.MaxMoney, 0, api.MaxMoney, 0}, {api.MaxMoney, 0, 0, api.MaxMoney}, {api.MaxMoney, 0, 1, api.MaxMoney - 1},
		{api.MaxMoney - 1, 1, api.MaxMoney, 0}, {api.MaxMoney - 1, 1, 0, api.MaxMoney}, {1, api.MaxMoney - 1, 1, api.MaxMoney - 1},
	} {
		s, a := ofTwo(t, c.in, c.more, c.out)
		feeIs(t, "two coins", s, a, c.fee, nil)
		does(t, "two coins", s, a, coin(c.in, "a"), coin(c.more, "b"))
		worthIs(t, "the one coin that is left", s, c.out, nil)
	}
	for _, c := range []struct{ in, more, out int }{
		{0, 0, 1}, {7, 0, 8}, {7, 5, 13}, {0, 0, api.MaxMoney}, {api.MaxMoney - 1, 0, api.MaxMoney},
		{api.MaxMoney, 1, 0}, {1, api.MaxMoney, 5}, {api.MaxMoney, 1, api.MaxMoney}, {api.MaxMoney, api.MaxMoney, api.MaxMoney},
	} {
		s, a := ofTwo(t, c.in, c.more, c.out)
		fails(t, fmt.Sprint("coins of ", c.in, " and ", c.more, " for one of ", c.out), s, a, api.ErrValue)
	}
}

// ofTwo is a set of two coins, and a transaction that spends both for one.
func ofTwo(t *testing.T, in, more, out int) (*coins.Set, api.Tx) {
	t.Helper()
	s, p, q := coins.New(), api.Point{N: 1}, api.Point{N: 2}
	putIs(t, "a coin", s, p, coin(in, "a"), nil)
	putIs(t, "another coin", s, q, coin(more, "b"), nil)
	return s, sealed(api.Tx{Spends: []api.Spend{{From: p, Key: "a"}, {From: q, Key: "b"}}, Coins: []api.Coin{coin(out, "c")}})
}

// P12.1: the chapter's example

func TestExample(t *testing.T) {
	s := coins.New()
	putIs(t, "a coin of 10", s, api.Point{}, coin(10, "a"), nil)
	a := paying(api.Point{}, 7, "a")
	feeIs(t, "a coin of 7", s, a, 3, nil)
	does(t, "a coin of 7", s, a, coin(10, "a"))
	worthIs(t, "the set behind it", s, 7, nil)
}

// P12.1, P12.3: the errors of Fee and Do

func TestInvalidTransactions(t *testing.T) {
	s, _ := purse(t)
	for name, c := range invalid() {
		fails(t, name, s, c.tx, c.err)
	}
	// The same error, although what they spend is there.
	for name, c := range invalid() {
		full := coins.New()
		for _, spend := range c.tx.Spends {
			full.Put(spend.From, coin(api.MaxMoney, "a"))
		}
		fails(t, name+", spending what is there", full, c.tx, c.err)
	}
}

// Whichever point is the one that isn't there.
func TestOrphans(t *testing.T) {
	s, points := purse(t)
	for i := range 3 {
		for name, other := range map[string]api.Point{
			"another number": {Tx: points[i].Tx, N: 7},
			"another digest": {Tx: hash(77), N: points[i].N},
		} {
			fails(t, name, s, changed(three(points), func(a *api.Tx) { a.Spends[i].From = other }), api.ErrOrphan)
		}
		without, _ := purse(t)
		does(t, "one point spent before", without, paying(points[i], 0, purseKeys[i]), purseCoins()[i])
		fails(t, "a point that isn't there any more", without, three(points), api.ErrOrphan)
	}
	fails(t, "an empty set", coins.New(), three(points), api.ErrOrphan)
	does(t, "three spends", s, three(points), coin(5, "b"), coin(0, ""), coin(10, "a"))
	fails(t, "the same transaction again", s, three(points), api.ErrOrphan)
}

// purseKeys are the keys of the purse's coins.
var purseKeys = [...]string{"a", "b", "", "a"}

// Whichever spend is the one that doesn't unlock its coin.
func TestWrongWitnesses(t *testing.T) {
	s, points := purse(t)
	a := three(points)
	for i := range 3 {
		fails(t, "another key", s, changed(a, func(a *api.Tx) { a.Spends[i].Key = "x" }), api.ErrWitness)
		fails(t, "another seal", s, broken(a, func(a *api.Tx) { a.Spends[i].Seal++ }), api.ErrWitness)
		fails(t, "no seal", s, broken(a, func(a *api.Tx) { a.Spends[i].Seal = 0 }), api.ErrWitness)
		fails(t, "another coin", s, changed(a, func(a *api.Tx) {
			j := (i + 1) % 3
			a.Spends[i].From, a.Spends[j].From = a.Spends[j].From, a.Spends[i].From
		}), api.ErrWitness)
	}
	for name, change := range map[string]func(a *api.Tx){
		"another value":   func(a *api.Tx) { a.Coins[0].Value++ },
		"another lock":    func(a *api.Tx) { a.Coins[1].Lock++ },
		"one coin less":   func(a *api.Tx) { a.Coins = a.Coins[:1] },
		"another flag":    func(a *api.Tx) { a.Firm = false },
		"one spend less":  func(a *api.Tx) { a.Spends = a.Spends[1:] },
		"another point":   func(a *api.Tx) { a.Spends[2].From = points[3] },
		"another order":   func(a *api.Tx) { slices.Reverse(a.Spends) },
		"the coins' turn": func(a *api.Tx) { slices.Reverse(a.Coins) },
	} {
		fails(t, name+" behind the seals", s, broken(a, change), api.ErrWitness)
		if _, err := s.Fee(changed(a, change)); err != nil {
			t.Errorf("with %s and new seals, Fee is %v", name, err)
		}
	}
}

// A coin's point may have the coin of a transaction that is yet to be applied: whichever coin it is.
func TestOwnPointsThatAreThere(t *testing.T) {
	_, points := purse(t)
	a := three(points)
	for n := range 2 {
		s, _ := purse(t)
		putIs(t, "a coin of a transaction ahead of it", s, own(a, n), coin(1, "x"), nil)
		feeIs(t, "a point of its own that is there", s, a, 6, nil)
		doFails(t, "a point of its own that is there", s, a, api.ErrDup)
		does(t, "the same with another id", s, changed(a, func(a *api.Tx) { a.Firm = false }), coin(5, "b"), coin(0, ""), coin(10, "a"))
	}
	for _, n := range []int{-1, 2, 3, 1 << 32} {
		s, _ := purse(t)
		putIs(t, "a coin that no transaction has", s, own(a, n), coin(1, "x"), nil)
		does(t, "a point of its id that isn't its own", s, a, coin(5, "b"), coin(0, ""), coin(10, "a"))
		getIs(t, "that point", s, own(a, n), coin(1, "x"), true)
	}
}

// P12.1, rule 2: the first error of Fee and Do

func TestOrderOfErrors(t *testing.T) {
	s, points := purse(t)
	none := func(*api.Tx) {}
	missing := func(a *api.Tx) { a.Spends[2].From.Tx = hash(77) }
	rich := func(a *api.Tx) { a.Coins[1].Value = 100 }
	twice := func(a *api.Tx) { a.Spends[2].From = a.Spends[0].From }
	noCoins := func(a *api.Tx) { a.Coins = nil }
	noAmount := func(a *api.Tx) { a.Coins[0].Value = -1 }
	for _, c := range []struct {
		name      string
		one, more func(a *api.Tx)
		wrongSeal bool
		want      error
	}{
		{"too rich coins", rich, none, false, api.ErrValue},
		{"a wrong seal", none, none, true, api.ErrWitness},
		{"a wrong seal and too rich coins", rich, none, true, api.ErrWitness},
		{"a missing point", missing, none, false, api.ErrOrphan},
		{"a missing point and too rich coins", missing, rich, false, api.ErrOrphan},
		{"a missing point and a wrong seal", missing, none, true, api.ErrOrphan},
		{"a missing point, a wrong seal and too rich coins", missing, rich, true, api.ErrOrphan},
		{"a point twice and a wrong seal", twice, none, true, api.ErrSpent},
		{"a point twice and too rich coins", twice, rich, false, api.ErrSpent},
		{"no amount and a missing point", noAmount, missing, false, api.ErrValue},
		{"no amount and a wrong seal", noAmount, none, true, api.ErrValue},
		{"no coins and a missing point", noCoins, missing, false, api.ErrForm},
		{"no coins and a wrong seal", noCoins, none, true, api.ErrForm},
	} {
		a := changed(changed(three(points), c.one), c.more)
		if c.wrongSeal {
			a.Spends[0].Seal++
		}
		fails(t, c.name, s, a, c.want)
		// The error of Fee comes ahead of that of Do alone.
		with := s.Copy()
		putIs(t, "its own point", with, own(a, 0), coin(1, "x"), nil)
		fails(t, c.name+" and a point of its own", with, a, c.want)
	}
}

// A coin that Back restored needn't be an amount; then it can't be spent.
func TestSpendsOfNoAmounts(t *testing.T) {
	for _, value := range []int{-1, api.MaxMoney + 1, -1 << 63} {
		s, p, q := coins.New(), api.Point{N: 1}, api.Point{N: 2}
		u := coins.Undo{Tx: api.Tx{Spends: []api.Spend{{From: p}}}, Coins: []api.Coin{coin(value, "a")}}
		backIs(t, "a coin of no amount", s, u, nil)
		putIs(t, "another coin", s, q, coin(100, "b"), nil)
		getIs(t, "a restored coin", s, p, coin(value, "a"), true)
		worthIs(t, "a set with no amount", s, 0, api.ErrValue)
		fails(t, "a coin of no amount", s, paying(p, 0, "a"), api.ErrValue)
		two := sealed(api.Tx{Spends: []api.Spend{{From: q, Key: "b"}, {From: p, Key: "a"}}, Coins: []api.Coin{coin(5, "c")}})
		fails(t, "a coin of no amount beside another", s, two, api.ErrValue)
		fails(t, "a wrong key for it", s, paying(p, 0, "b"), api.ErrWitness)
		does(t, "the other coin alone", s, paying(q, 99, "b"), coin(100, "b"))
	}
}

// P12.2

// A walk applies transactions one behind the other, and undoes them from the last one on.
func TestDoAndBack(t *testing.T) {
	s, points := purse(t)
	was := []model{content(s)}
	var undos []coins.Undo
	step := func(a api.Tx, fee int) {
		t.Helper()
		before, err := s.Worth()
		if err != nil {
			t.Fatal(err)
		}
		feeIs(t, "a transaction of the walk", s, a, fee, nil)
		u, err := s.Do(a)
		if err != nil {
			t.Fatal(err)
		}
		worthIs(t, "the set behind a transaction of the walk", s, before-fee, nil)
		undos, was = append(undos, u), append(was, content(s))
	}
	a := three(points)
	b := paying(points[3], 10, "a")
	c := sealed(api.Tx{Spends: []api.Spend{{From: own(b, 0), Key: "a"}, {From: own(a, 1), Key: "d"}}, Coins: make([]api.Coin, 8)})
	d := paying(own(a, 0), 0, "c")
	step(a, 6)
	step(b, 0)
	step(c, 16)
	step(d, 3)
	for i := len(undos) - 1; i >= 0; i-- {
		backIs(t, "the last one of the walk", s, undos[i], nil)
		unchanged(t, "what was undone", s, was[i])
	}
	// It can all be done again.
	for i, x := range []api.Tx{a, b, c, d} {
		does(t, "a transaction that was undone", s, x, undos[i].Coins...)
		unchanged(t, "what was done again", s, was[i+1])
	}
}

func TestScatteredDoAndBack(t *testing.T) {
	w := world{scatter: 320}
	s, done := coins.New(), 0
	for i := range 1500 {
		if s.Len() < 4 {
			putIs(t, "a new point", s, api.Point{Tx: hash(50), N: i % 8}, coin(w.below(30), w.key()), nil)
		}
		was := content(s)
		worth, err := s.Worth()
		if err != nil {
			t.Fatal(err)
		}
		a := w.tx(was)
		fee, feeErr := s.Fee(a)
		u, err := s.Do(a)
		if err != feeErr && err != api.ErrDup {
			t.Fatalf("of %v, Fee is %v and Do is %v", a, feeErr, err)
		}
		if err != nil {
			continue
		}
		done++
		worthIs(t, "the set behind a transaction", s, worth-fee, nil)
		after := content(s)
		backIs(t, "what was done", s, u, nil)
		unchanged(t, "what was undone", s, was)
		if w.one(2) {
			does(t, "what was undone", s, a, u.Coins...)
			unchanged(t, "what was done again", s, after)
		}
	}
	if done < 100 {
		t.Errorf("only %d transactions could be applied", done)
	}
}

// The result hangs neither on the order in which coins were put nor on what was there before.
func TestResultsHangOnTheContentsAlone(t *testing.T) {
	s, points := purse(t)
	other := coins.New()
	for _, i := range []int{2, 0, 3, 1} {
		putIs(t, "a new point", other, points[i], purseCoins()[i], nil)
		u := does(t, "a coin that comes and goes", other, paying(points[i], 0, purseKeys[i]), purseCoins()[i])
		backIs(t, "a coin that comes and goes", other, u, nil)
	}
	unchanged(t, "another order", other, content(s))
	a := three(points)
	feeIs(t, "one set", s, a, 6, nil)
	feeIs(t, "the other set", other, a, 6, nil)
	does(t, "one set", s, a, coin(5, "b"), coin(0, ""), coin(10, "a"))
	does(t, "the other set", other, a, coin(5, "b"), coin(0, ""), coin(10, "a"))
	unchanged(t, "the same transaction", other, content(s))
}
