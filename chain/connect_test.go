package chain_test

import (
	"fmt"
	"reflect"
	"slices"
	"testing"

	"gossamer/api"
	"gossamer/chain"
	"gossamer/coins"
	"gossamer/lock"
	"gossamer/tx"
)

// P13.1: Connect

func TestConnect(t *testing.T) {
	s := initial(t, 6)
	c := chain.New(s)
	a := moving([]api.Point{spot(1), spot(4)}, 150, 20, 5)
	b := paying(spot(2), 100)
	one := c.Next(a, b)
	connects(t, "two transactions", c, one, 25)
	wantCoins := s.Copy()
	for _, a := range []api.Tx{a, b} {
		if _, err := wantCoins.Do(a); err != nil {
			t.Fatal(err)
		}
	}
	want := state{tip: chain.ID(one), height: 1, coins: content(wantCoins), blocks: []api.Block{one}, fees: []int{25}}
	stateIs(t, "two transactions", c, want)
	d := moving([]api.Point{tx.Point(a, 1), spot(0), tx.Point(b, 0)}, 7)
	two := c.Next(d)
	connects(t, "a transaction that spends coins of the block before", c, two, 213)
	if _, err := wantCoins.Do(d); err != nil {
		t.Fatal(err)
	}
	want = state{tip: chain.ID(two), height: 2, coins: content(wantCoins), blocks: []api.Block{one, two}, fees: []int{25, 213}}
	stateIs(t, "a transaction that spends coins of the block before", c, want)
}

// A later transaction of a block may spend coins of an earlier one, and not the other way round.
func TestFamiliesInBlocks(t *testing.T) {
	for _, n := range []int{2, 3, 59, 60} {
		c := chain.New(initial(t, 1))
		list := row(spot(0), 100, n)
		for i := range list[1:] {
			swapped := slices.Clone(list)
			swapped[i], swapped[i+1] = swapped[i+1], swapped[i]
			refuses(t, "a child ahead of its parent", c, c.Next(swapped...), api.ErrOrphan)
		}
		for i := range list[1:] {
			refuses(t, "a parent that is missing", c, c.Next(slices.Delete(slices.Clone(list), i, i+1)...), api.ErrOrphan)
		}
		b := c.Next(list...)
		connects(t, "a row of transactions", c, b, n)
		if got := c.Coins().Points(); !slices.Equal(got, []api.Point{tx.Point(list[n-1], 0)}) {
			t.Errorf("behind a row of %d, the points are %v", n, got)
		}
		disconnects(t, "a row of transactions", c, b)
		stateIs(t, "a row of transactions that was undone", c, stateOf(chain.New(initial(t, 1))))
	}
}

// The transaction that joins two branches needn't follow either of them directly.
func TestBranchesInABlock(t *testing.T) {
	c := chain.New(initial(t, 2))
	root := paying(spot(1), 40, 50)
	left, right := paying(tx.Point(root, 0), 39), paying(tx.Point(root, 1), 48)
	last := moving([]api.Point{tx.Point(right, 0), spot(0), tx.Point(left, 0)}, 180)
	b := c.Next(root, left, right, last)
	connects(t, "branches", c, b, 10+1+2+7)
	other := c.Next()
	connects(t, "nothing", c, other, 0)
	disconnects(t, "nothing", c, other)
	disconnects(t, "branches", c, b)
	same := c.Next(root, right, left, last)
	connects(t, "another order", c, same, 20)
}

// P13.1: ErrState

func TestBlocksThatAreNotNext(t *testing.T) {
	c := chain.New(initial(t, 5))
	for h := range 4 {
		next := c.Next(paying(spot(h), 99))
		for i := range next.Prev {
			wrong := clone(next)
			wrong.Prev[i] ^= 1 << (i % 8)
			refuses(t, fmt.Sprint("another byte ", i, " of Prev"), c, wrong, api.ErrState)
		}
		for _, other := range []int{1, 2, 3, 4, 5, 6, 1 << 31, next.Height + 1<<8, next.Height + 1<<16} {
			if other != next.Height {
				wrong := clone(next)
				wrong.Height = other
				refuses(t, fmt.Sprint("height ", other, " for ", next.Height), c, wrong, api.ErrState)
			}
		}
		for other := range h {
			wrong := clone(next)
			b, _ := c.Block(other + 1)
			wrong.Prev = b.Prev
			refuses(t, fmt.Sprint("the Prev of block ", other+1), c, wrong, api.ErrState)
			refuses(t, fmt.Sprint("block ", other+1, " again"), c, b, api.ErrState)
		}
		connects(t, "the next block", c, next, 1)
		refuses(t, "the same block again", c, next, api.ErrState)
	}
}

// The chapter's example.
func TestExample(t *testing.T) {
	c := chain.New(nil)
	connects(t, "height 1", c, api.Block{Height: 1}, 0)
	refuses(t, "another block of height 1", c, api.Block{Height: 1}, api.ErrState)
	refuses(t, "another block of height 1 behind the tip", c, api.Block{Prev: c.Tip(), Height: 1}, api.ErrState)
}

// P13.1, P13.3: the errors of layer 12

// broken puts two more coins into a set of ten, and is transactions that can't be applied to it then, with their errors.
func broken(t *testing.T, s *coins.Set) map[error]api.Tx {
	t.Helper()
	put(t, s, spot(10), 100)
	dup := paying(spot(10), 1, 2, 3)
	put(t, s, tx.Point(dup, 2), 50)
	wrong := paying(spot(10), 90)
	wrong.Spends[0].Seal++
	return map[error]api.Tx{
		api.ErrOrphan:  paying(spot(11), 5),
		api.ErrWitness: wrong,
		api.ErrValue:   paying(spot(10), 101),
		api.ErrDup:     dup,
	}
}

func TestTransactionsThatCannotBeApplied(t *testing.T) {
	for _, n := range []int{1, 2, 3, 10} {
		for i := range n {
			s := initial(t, 10)
			for want, wrong := range broken(t, s) {
				for name, good := range map[string][]api.Tx{"side": side(n - 1), "row": row(spot(3), 100, n-1)} {
					c := chain.New(s)
					refuses(t, fmt.Sprint("a wrong transaction ", i, " in a ", name), c, c.Next(slices.Insert(slices.Clone(good), i, wrong)...), want)
					connects(t, "the other ones", c, c.Next(good...), n-1)
					refuses(t, "a wrong transaction behind a "+name, c, c.Next(wrong), want)
				}
			}
		}
	}
}

// The last one of a full block can't be applied.
func TestWrongTransactionAtTheEnd(t *testing.T) {
	s := initial(t, 10)
	for want, wrong := range broken(t, s) {
		c := chain.New(s)
		refuses(t, "59 transactions and a wrong one", c, c.Next(append(row(spot(3), 100, 59), wrong)...), want)
		connects(t, "a block instead", c, c.Next(row(spot(3), 100, 59)...), 59)
	}
}

// The first transaction that can't be applied tells the error.
func TestFirstTransactionThatCannotBeApplied(t *testing.T) {
	s := initial(t, 10)
	list := broken(t, s)
	c := chain.New(s)
	good := side(6)
	for want, first := range list {
		for other, second := range list {
			if other != want {
				for i := range 4 {
					txs := slices.Concat(good[:i], []api.Tx{first}, good[i:5], []api.Tx{second}, good[5:])
					refuses(t, fmt.Sprint("wrong transactions ", i, " and 6"), c, c.Next(txs...), want)
				}
			}
		}
	}
}

// Two transactions of a block can't spend one point, nor can they have the same id with different witnesses.
func TestPointsSpentTwiceInABlock(t *testing.T) {
	c := chain.New(initial(t, 3))
	a := paying(spot(0), 80)
	refuses(t, "two spends of one point", c, c.Next(a, paying(spot(1), 100), paying(spot(0), 81)), api.ErrOrphan)
	same := cloneTx(a)
	same.Spends[0].Seal++
	refuses(t, "one id twice", c, c.Next(a, same), api.ErrOrphan)
	refuses(t, "one id twice, the wrong witness first", c, c.Next(same, a), api.ErrWitness)
	connects(t, "one of them", c, c.Next(a), 20)
	refuses(t, "a point that a block before spent", c, c.Next(paying(spot(0), 81)), api.ErrOrphan)
	refuses(t, "the same transaction again", c, c.Next(a), api.ErrOrphan)
}

// A transaction without fee is as good as others, and so is one whose coins have no value.
func TestFeesOfNothing(t *testing.T) {
	c := chain.New(initial(t, 3))
	a := paying(spot(0), 60, 40)
	connects(t, "no fee", c, c.Next(a), 0)
	b := moving([]api.Point{tx.Point(a, 0), spot(2)}, 0, 0)
	connects(t, "no value", c, c.Next(b), 160)
	connects(t, "neither", c, c.Next(moving([]api.Point{tx.Point(b, 1), tx.Point(b, 0)}, 0)), 0)
}

// Each coin asks for its own key.
func TestKeysOfABlock(t *testing.T) {
	s := coins.New()
	keys := []string{"", "a", "b", "some longer key"}
	var a api.Tx
	for i, key := range keys {
		if err := s.Put(spot(i), api.Coin{Value: 10, Lock: lock.Lock(key)}); err != nil {
			t.Fatal(err)
		}
		a.Spends = append(a.Spends, api.Spend{From: spot(i)})
	}
	a.Coins = []api.Coin{{Value: 33, Lock: lock.Lock("z")}}
	a, err := lock.Sign(a, keys...)
	if err != nil {
		t.Fatal(err)
	}
	b, err := lock.Sign(api.Tx{Spends: []api.Spend{{From: tx.Point(a, 0)}}, Coins: []api.Coin{{Value: 31, Lock: 5}}, Firm: true}, "z")
	if err != nil {
		t.Fatal(err)
	}
	c := chain.New(s)
	for i := range keys {
		wrong := cloneTx(a)
		wrong.Spends[i].Key += "x"
		refuses(t, "a wrong key", c, c.Next(wrong), api.ErrWitness)
		refuses(t, "a wrong key ahead of a child", c, c.Next(wrong, b), api.ErrWitness)
	}
	connects(t, "the right keys", c, c.Next(a, b), 9)
}

// P13.1, rule 2: the first error of Connect
func TestOrderOfErrorsOfConnect(t *testing.T) {
	c := chain.New(initial(t, 3))
	connects(t, "a block", c, c.Next(), 0)
	orphan := paying(spot(50), 5)
	wrongs := []api.Block{
		{Prev: hash(1), Height: 2},
		{Prev: c.Tip(), Height: 3},
		{Prev: hash(1), Height: 3},
		{Height: 1},
	}
	for _, wrong := range wrongs {
		refuses(t, "not the next block", c, wrong, api.ErrState)
		wrong.Txs = []api.Tx{orphan}
		refuses(t, "not the next block, and an orphan", c, wrong, api.ErrState)
		wrong.Txs = []api.Tx{paying(spot(0), 500)}
		refuses(t, "not the next block, and too much", c, wrong, api.ErrState)
		wrong.Txs = []api.Tx{orphan, orphan}
		refuses(t, "not the next block, and equal ones", c, wrong, api.ErrDup)
		for want, a := range invalid() {
			wrong.Txs = []api.Tx{orphan, a}
			refuses(t, "not the next block, and an invalid one", c, wrong, want)
		}
		wrong.Txs = make([]api.Tx, 61)
		refuses(t, "not the next block, and too many", c, wrong, api.ErrFull)
		wrong.Height = 0
		refuses(t, "all errors", c, wrong, api.ErrForm)
	}
	for want, a := range invalid() {
		refuses(t, "an orphan and an invalid one", c, c.Next(orphan, a), want)
	}
	refuses(t, "equal orphans", c, c.Next(orphan, orphan), api.ErrDup)
	refuses(t, "61 orphans", c, c.Next(slices.Repeat([]api.Tx{orphan}, 61)...), api.ErrFull)
}

// P13.1, P13.2: Disconnect

// A walk connects blocks, and disconnects them from the last one on, twice.
func TestConnectAndDisconnect(t *testing.T) {
	c := chain.New(initial(t, 8))
	first := row(spot(1), 100, 3)
	fork := moving([]api.Point{spot(0), tx.Point(first[2], 0)}, 10, 20, 30, 40, 50)
	all := [][]api.Tx{
		first,
		nil,
		{paying(spot(2), 1), fork, paying(tx.Point(fork, 3), 40)},
		{paying(tx.Point(fork, 0), 0), paying(spot(3), 77)},
		row(tx.Point(fork, 4), 50, 50),
	}
	for range 2 {
		was := []state{stateOf(c)}
		var blocks []api.Block
		for i, fees := range []int{3, 0, 99 + 47, 10 + 23, 50} {
			b := c.Next(all[i]...)
			connects(t, fmt.Sprint("block ", i), c, b, fees)
			was, blocks = append(was, stateOf(c)), append(blocks, b)
		}
		for i, b := range slices.Backward(blocks) {
			disconnects(t, fmt.Sprint("block ", i), c, b)
			stateIs(t, fmt.Sprint("block ", i, " that was disconnected"), c, was[i])
			connects(t, fmt.Sprint("block ", i, " again"), c, b, was[i+1].fees[i])
			stateIs(t, fmt.Sprint("block ", i, " again"), c, was[i+1])
			disconnects(t, fmt.Sprint("block ", i, " again"), c, b)
			nothingAt(t, "a disconnected block", c, i+1)
		}
		if b, err := c.Disconnect(); err != api.ErrNone || !reflect.DeepEqual(b, api.Block{}) {
			t.Errorf("of no block, Disconnect is %v, %v; want ErrNone", b, err)
		}
		stateIs(t, "a walk there and back", c, stateOf(chain.New(initial(t, 8))))
	}
}

// What was disconnected leaves room for another branch.
func TestOtherBranches(t *testing.T) {
	c := chain.New(initial(t, 8))
	base := c.Next(paying(spot(0), 50))
	connects(t, "the common block", c, base, 50)
	one, two := c.Next(paying(spot(1), 90)), c.Next(paying(spot(1), 80, 5), paying(spot(2), 99))
	connects(t, "one branch", c, one, 10)
	child := c.Next(paying(tx.Point(one.Txs[0], 0), 4))
	refuses(t, "the other branch", c, two, api.ErrState)
	disconnects(t, "one branch", c, one)
	refuses(t, "a child of what was disconnected", c, child, api.ErrState)
	connects(t, "the other branch", c, two, 16)
	refuses(t, "a child of what was disconnected", c, child, api.ErrState)
	refuses(t, "a spend of what was disconnected", c, c.Next(child.Txs[0]), api.ErrOrphan)
	disconnects(t, "the other branch", c, two)
	connects(t, "one branch again", c, one, 10)
	connects(t, "its child", c, child, 86)
}
