package chain_test

import (
	"reflect"
	"slices"
	"testing"

	"gossamer/api"
	"gossamer/chain"
	"gossamer/tx"
)

// spared is an equal block whose lists have spare capacity with something more in it.
func spared(b api.Block) api.Block {
	other := api.Block{Prev: b.Prev, Height: b.Height}
	for _, a := range b.Txs {
		spends := slices.Concat(a.Spends, []api.Spend{{Seal: 991}, {Seal: 992}})
		made := slices.Concat(a.Coins, []api.Coin{{Lock: 993}, {Lock: 994}})
		other.Txs = append(other.Txs, api.Tx{Spends: spends[:len(a.Spends)], Coins: made[:len(a.Coins)], Firm: a.Firm})
	}
	other.Txs = slices.Concat(other.Txs, numbered(2))[:len(b.Txs)]
	return other
}

// whole is a spared block with what its spare capacity holds.
func whole(b api.Block) api.Block {
	other := api.Block{Prev: b.Prev, Height: b.Height}
	for _, a := range b.Txs {
		other.Txs = append(other.Txs, api.Tx{Spends: a.Spends[:len(a.Spends)+2], Coins: a.Coins[:len(a.Coins)+2], Firm: a.Firm})
	}
	other.Txs = append(other.Txs, b.Txs[len(b.Txs):len(b.Txs)+2]...)
	return other
}

// fill overwrites all elements up to the capacity.
func fill[E any](list []E, with E) {
	for i := range list[:cap(list)] {
		list[:cap(list)][i] = with
	}
}

// spoil overwrites all that a block's lists hold, up to their capacity.
func spoil(b api.Block) {
	for _, a := range b.Txs[:cap(b.Txs)] {
		fill(a.Spends, api.Spend{From: api.Point{Tx: hash(0x55), N: 5}, Key: "spoilt", Seal: 0x55})
		fill(a.Coins, api.Coin{Value: 0x55, Lock: 0x55})
	}
	fill(b.Txs, api.Tx{Firm: true})
}

// forked is a chain with three blocks, and what they consist of.
func forked(t *testing.T) (*chain.Chain, []api.Block) {
	t.Helper()
	c := chain.New(initial(t, 9))
	var list []api.Block
	first := row(spot(1), 100, 3)
	for i, txs := range [][]api.Tx{first, {paying(spot(0), 90, 5), paying(tx.Point(first[2], 0), 50, 6, 7)}, {paying(spot(2), 30)}} {
		b := c.Next(txs...)
		connects(t, "a block", c, b, []int{3, 5 + 34, 70}[i])
		list = append(list, clone(b))
	}
	return c, list
}

// P13.3: arguments aren't modified

func TestCallsLeaveTheirArguments(t *testing.T) {
	c, list := forked(t)
	blocks := append(slices.Clone(list), c.Next(), c.Next(side(60)...), c.Next(paying(spot(3), 5), paying(spot(60), 9)), c.Next(side(70)...))
	for want, a := range invalid() {
		if want != api.ErrForm {
			blocks = append(blocks, c.Next(a, paying(spot(4), 1)))
		}
	}
	for _, b := range append(blocks, c.Next(paying(spot(3), 5), paying(spot(4), 9, 8))) {
		given, want := spared(b), clone(whole(spared(b)))
		chain.ID(given)
		chain.Check(given)
		c.Next(given.Txs...)
		c.Connect(given)
		c.Disconnect()
		c.Connect(given)
		if !equal(whole(given), want) {
			t.Errorf("an argument was changed: %v, want %v", whole(given), want)
		}
	}
}

// P13.3: arguments aren't retained

func TestNewKeepsNothing(t *testing.T) {
	s := initial(t, 3)
	c := chain.New(s)
	was := stateOf(c)
	put(t, s, spot(7), 1)
	if _, err := s.Do(paying(spot(1), 20)); err != nil {
		t.Fatal(err)
	}
	stateIs(t, "a change of the argument of New", c, was)
	before := content(s)
	connects(t, "a block", c, c.Next(paying(spot(1), 30), paying(spot(0), 4)), 70+96)
	if !reflect.DeepEqual(content(s), before) {
		t.Errorf("a block shows in the argument of New: %v", content(s))
	}
}

func TestConnectKeepsNothing(t *testing.T) {
	c, _ := forked(t)
	before := stateOf(c)
	b := c.Next(paying(spot(3), 60, 8), paying(spot(4), 9))
	given := spared(b)
	connects(t, "spare capacity", c, given, 32+91)
	after := stateOf(c)
	spoil(given)
	stateIs(t, "a change of the argument of Connect", c, after)
	disconnects(t, "what is there behind the change", c, b)
	stateIs(t, "what was disconnected", c, before)
}

// P13.3: results are newly allocated

func TestBlocksAreNewMemory(t *testing.T) {
	c, list := forked(t)
	was := stateOf(c)
	for i, want := range list {
		one, _ := c.Block(i + 1)
		two, _ := c.Block(i + 1)
		spoil(one)
		if !equal(two, want) {
			t.Errorf("a change of block %d shows in another result: %v", i+1, two)
		}
		stateIs(t, "a change of what Block returned", c, was)
	}
	for i, want := range slices.Backward(list) {
		other := c.Copy()
		got, err := c.Disconnect()
		if err != nil {
			t.Fatal(err)
		}
		spoil(got)
		disconnects(t, "a copy of before", other, want)
		connects(t, "the block again", c, want, was.fees[i])
		disconnects(t, "the block again", c, want)
	}
	stateIs(t, "changes of what Disconnect returned", c, stateOf(chain.New(initial(t, 9))))
}

func TestNextIsNewMemory(t *testing.T) {
	c, _ := forked(t)
	for _, on := range []*chain.Chain{c, nil} {
		given := spared(api.Block{Txs: append(side(3), paying(spot(5), 1, 2, 3))})
		want := clone(whole(given))
		got := on.Next(given.Txs...)
		wantNext := clone(got)
		spoil(on.Next(given.Txs...))
		if !equal(whole(given), want) || !equal(got, wantNext) {
			t.Errorf("a change of what Next returned shows in %v or %v", given, got)
		}
		spoil(given)
		if !equal(got, wantNext) {
			t.Errorf("a change of the argument of Next shows in %v", got)
		}
	}
}

// No two lists of a block share memory, nor does one reach into another's by its spare capacity.
func TestListsOfBlocksAreApart(t *testing.T) {
	c, list := forked(t)
	last := list[len(list)-1]
	for name, result := range map[string]func() api.Block{
		"Next":       func() api.Block { return c.Next(append(row(spot(3), 100, 4), paying(spot(5), 1, 2, 3))...) },
		"Block":      func() api.Block { b, _ := c.Block(2); return b },
		"Disconnect": func() api.Block { b, _ := c.Copy().Disconnect(); return b },
	} {
		want := clone(result())
		if name == "Disconnect" && !equal(want, last) {
			t.Fatalf("Disconnect is %v, want %v", want, last)
		}
		for i := range want.Txs {
			got, changed := result(), clone(want)
			fill(got.Txs[i].Spends, api.Spend{Key: "spoilt"})
			fill(changed.Txs[i].Spends, api.Spend{Key: "spoilt"})
			if !equal(got, changed) {
				t.Errorf("of %s, a change of the spends of %d is %v, want %v", name, i, got, changed)
			}
			got, changed = result(), clone(want)
			fill(got.Txs[i].Coins, api.Coin{Value: 55})
			fill(changed.Txs[i].Coins, api.Coin{Value: 55})
			if !equal(got, changed) {
				t.Errorf("of %s, a change of the coins of %d is %v, want %v", name, i, got, changed)
			}
		}
	}
}

func TestCoinsAreNewMemory(t *testing.T) {
	c, _ := forked(t)
	was := stateOf(c)
	one, two := c.Coins(), c.Coins()
	put(t, one, spot(70), 5)
	if _, err := one.Do(paying(spot(3), 20)); err != nil {
		t.Fatal(err)
	}
	stateIs(t, "a change of the coins", c, was)
	if !reflect.DeepEqual(content(two), was.coins) {
		t.Errorf("a change of the coins shows in another result: %v", content(two))
	}
	connects(t, "a block", c, c.Next(paying(spot(3), 20)), 80)
	if !reflect.DeepEqual(content(two), was.coins) {
		t.Errorf("a block shows in coins that were returned before: %v", content(two))
	}
}

// P13.3: copies are independent

func TestCopyOfAChain(t *testing.T) {
	c, _ := forked(t)
	was := stateOf(c)
	d := c.Copy()
	if d == c {
		t.Fatal("a copy is the chain itself")
	}
	stateIs(t, "Copy", d, was)
	connects(t, "one more on the chain", c, c.Next(paying(spot(5), 50)), 50)
	stateIs(t, "a block on the chain", d, was)
	after := stateOf(c)
	connects(t, "another one on the copy", d, d.Next(paying(spot(6), 40), paying(spot(5), 40)), 120)
	stateIs(t, "a block on the copy", c, after)
	for range 4 {
		if _, err := d.Disconnect(); err != nil {
			t.Fatal(err)
		}
		stateIs(t, "a block less on the copy", c, after)
	}
	stateIs(t, "all blocks less", d, stateOf(chain.New(initial(t, 9))))
}

// goesOn connects three more blocks, each of which spends another spot.
func goesOn(t *testing.T, c *chain.Chain, from int) {
	t.Helper()
	for i := range 3 {
		connects(t, "a branch", c, c.Next(paying(spot(from+i), 95)), 5)
	}
}

// Whatever lengths a chain and its copies have, and whichever of them goes on first, the others keep their blocks.
func TestBranchesOfCopies(t *testing.T) {
	for length := range 10 {
		for less := range min(4, length+1) {
			c := chain.New(initial(t, 9))
			for range length {
				connects(t, "a block", c, c.Next(), 0)
			}
			a, b := c.Copy(), c.Copy()
			was := stateOf(c)
			for _, x := range []*chain.Chain{c, a} {
				for range less {
					x.Disconnect()
				}
			}
			stateIs(t, "blocks less on others", b, was)
			stateIs(t, "blocks less", c, stateOf(a))
			goesOn(t, c, 0)
			ofC := stateOf(c)
			stateIs(t, "another branch", b, was)
			goesOn(t, a, 3)
			ofA := stateOf(a)
			stateIs(t, "a second branch", b, was)
			goesOn(t, b, 6)
			stateIs(t, "a third branch", a, ofA)
			stateIs(t, "a second and a third branch", c, ofC)
			if got := stateOf(b).blocks[:length]; length > 0 && !reflect.DeepEqual(got, was.blocks) {
				t.Errorf("the first %d blocks of a copy are %v, want %v", length, got, was.blocks)
			}
		}
	}
}
