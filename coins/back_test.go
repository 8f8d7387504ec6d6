package coins_test

import (
	"math"
	"slices"
	"testing"

	"gossamer/api"
	"gossamer/coins"
)

// undoOf is what undoes a transaction, whether it was applied or not.
func undoOf(a api.Tx, spent ...api.Coin) coins.Undo {
	return coins.Undo{Tx: a, Coins: spent}
}

// P12.1: Back

func TestBack(t *testing.T) {
	s, points := purse(t)
	was := content(s)
	a := three(points)
	u := does(t, "three spends", s, a, coin(5, "b"), coin(0, ""), coin(10, "a"))
	backIs(t, "what Do returned", s, u, nil)
	unchanged(t, "what Do returned", s, was)
	backIs(t, "the same again", s, u, api.ErrNone)
	does(t, "the same transaction", s, a, u.Coins...)
	backIs(t, "what the first Do returned", s, u, nil)
	unchanged(t, "what the first Do returned", s, was)
}

// What is undone needn't be what Do returned: it is taken as it is.
func TestBackOfOthers(t *testing.T) {
	s := setOf(t, api.Point{N: 5})
	a := paying(api.Point{N: 1}, 7, "a")
	putIs(t, "its coin, but with another value and lock", s, own(a, 0), coin(1, "x"), nil)
	backIs(t, "a transaction that wasn't applied", s, undoOf(a, coin(30, "z")), nil)
	unchanged(t, "a transaction that wasn't applied", s, model{}.with(api.Point{N: 1}, coin(30, "z")).with(api.Point{N: 5}, coinNumbered(0)))
	backIs(t, "nothing", s, coins.Undo{}, nil)
	sizeIs(t, "the set behind nothing", s, 2)
	backIs(t, "empty lists", s, coins.Undo{Tx: api.Tx{Spends: []api.Spend{}, Coins: []api.Coin{}}, Coins: []api.Coin{}}, nil)
	sizeIs(t, "the set behind empty lists", s, 2)
	backIs(t, "a flag alone", s, coins.Undo{Tx: api.Tx{Firm: true}}, nil)
	sizeIs(t, "the set behind a flag", s, 2)
}

// Neither the limits of a transaction nor its witnesses count.
func TestBackOfInvalidTransactions(t *testing.T) {
	s, a := coins.New(), api.Tx{}
	var spent []api.Coin
	for i := range 200 {
		n := []int{math.MinInt, -1, 0, 8, 1 << 32}[i%5]
		a.Spends = append(a.Spends, api.Spend{From: api.Point{Tx: hash(9, byte(i)), N: n}, Key: string(make([]byte, i)), Seal: 5})
		a.Coins = append(a.Coins, api.Coin{Value: i - 100, Lock: 3})
		spent = append(spent, api.Coin{Value: 100 - i, Lock: uint64(i)})
	}
	for n := range a.Coins {
		backIs(t, "not all of the coins", s, undoOf(a, spent...), api.ErrNone)
		putIs(t, "one coin more", s, own(a, n), coin(n, "x"), nil)
	}
	backIs(t, "all of the coins", s, undoOf(a, spent...), nil)
	want := model{}
	for i, spend := range a.Spends {
		want = want.with(spend.From, spent[i])
	}
	unchanged(t, "all of the coins", s, want)
}

func TestBackOfAWrongNumberOfCoins(t *testing.T) {
	s, points := purse(t)
	u := does(t, "three spends", s, three(points), coin(5, "b"), coin(0, ""), coin(10, "a"))
	more := slices.Concat(u.Coins, u.Coins, u.Coins)
	for n := range 8 {
		if n != 3 {
			backIs(t, "another number of coins", s, undoOf(u.Tx, more[:n]...), api.ErrRange)
		}
	}
	backIs(t, "coins without spends", s, undoOf(api.Tx{Coins: u.Tx.Coins}, coin(1, "a")), api.ErrRange)
	backIs(t, "a coin without a transaction", s, undoOf(api.Tx{}, coin(1, "a")), api.ErrRange)
	backIs(t, "the right number", s, u, nil)
}

// Whichever coin of the transaction is the one that isn't there.
func TestBackOfMissingCoins(t *testing.T) {
	for n := range 2 {
		s, points := purse(t)
		u := does(t, "three spends", s, three(points), coin(5, "b"), coin(0, ""), coin(10, "a"))
		next := paying(own(u.Tx, n), 1, [...]string{"c", "d"}[n])
		v := does(t, "a child", s, next, u.Tx.Coins[n])
		backIs(t, "a spent coin", s, u, api.ErrNone)
		backIs(t, "the child", s, v, nil)
		backIs(t, "a coin that is there again", s, u, nil)
	}
	_, points := purse(t)
	backIs(t, "an empty set", coins.New(), undoOf(three(points), make([]api.Coin, 3)...), api.ErrNone)
}

// Whichever point is the one that is there again.
func TestBackOfPointsThatAreThere(t *testing.T) {
	for i := range 3 {
		s, points := purse(t)
		u := does(t, "three spends", s, three(points), coin(5, "b"), coin(0, ""), coin(10, "a"))
		putIs(t, "a point that was spent", s, points[i], coin(1, "new"), nil)
		backIs(t, "a point that is there again", s, u, api.ErrDup)
		does(t, "that coin's spend", s, paying(points[i], 0, "new"), coin(1, "new"))
		backIs(t, "a point that isn't there any more", s, u, nil)
		getIs(t, "the restored coin", s, points[i], purseCoins()[i], true)
	}
}

// P12.1, rule 2: the first error of Back

func TestOrderOfErrorsOfBack(t *testing.T) {
	s, points := purse(t)
	a := three(points)
	spent := []api.Coin{coin(5, "b"), coin(0, ""), coin(10, "a")}
	// None of its coins is there, and all that it spends is.
	backIs(t, "all three errors", s, undoOf(a, spent[:2]...), api.ErrRange)
	backIs(t, "missing coins and points that are there", s, undoOf(a, spent...), api.ErrNone)
	putIs(t, "one coin", s, own(a, 0), a.Coins[0], nil)
	backIs(t, "one missing coin and points that are there", s, undoOf(a, spent...), api.ErrNone)
	putIs(t, "the other coin", s, own(a, 1), a.Coins[1], nil)
	backIs(t, "points that are there", s, undoOf(a, spent...), api.ErrDup)
	backIs(t, "points that are there, and too few coins", s, undoOf(a, spent[1:]...), api.ErrRange)
	other := changed(a, func(a *api.Tx) { a.Spends[0].From.N, a.Spends[1].From.N, a.Spends[2].From.N = 5, 6, 7 })
	backIs(t, "missing coins and too few coins", s, undoOf(other, spent[:1]...), api.ErrRange)
	backIs(t, "missing coins", s, undoOf(other, spent...), api.ErrNone)
}

// P12.1: of a point that is spent twice, the last coin is restored.
func TestBackOfAPointSpentTwice(t *testing.T) {
	p, q := api.Point{Tx: hash(4), N: 1}, api.Point{Tx: hash(4), N: 2}
	a := api.Tx{Spends: []api.Spend{{From: p}, {From: q}, {From: p}, {From: q}, {From: p}}}
	s := coins.New()
	backIs(t, "points spent twice", s, undoOf(a, coin(1, "a"), coin(2, "b"), coin(3, "c"), coin(4, "d"), coin(5, "e")), nil)
	unchanged(t, "points spent twice", s, model{{p, coin(5, "e")}, {q, coin(4, "d")}})
	s = coins.New()
	backIs(t, "the least value last", s, undoOf(a, coin(9, "a"), coin(8, "b"), coin(7, "c"), coin(6, "d"), api.Coin{}), nil)
	unchanged(t, "the least value last", s, model{{p, api.Coin{}}, {q, coin(6, "d")}})
	backIs(t, "points that are there", s, undoOf(a, make([]api.Coin, 5)...), api.ErrDup)
}
