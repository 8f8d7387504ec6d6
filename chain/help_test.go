package chain_test

import (
	"reflect"
	"slices"
	"testing"

	"gossamer/api"
	"gossamer/chain"
	"gossamer/coins"
	"gossamer/lock"
	"gossamer/tx"
)

// hash is a digest with so many bytes in front, and zero bytes behind them.
func hash(front ...byte) api.Hash {
	var h api.Hash
	copy(h[:], front)
	return h
}

// spot is a point of the initial coins.
func spot(i int) api.Point {
	return api.Point{Tx: hash(7, byte(i)), N: i % api.MaxCoins}
}

// initial is a set of so many coins of 100, locked with the key a, at the first spots.
func initial(t *testing.T, n int) *coins.Set {
	t.Helper()
	s := coins.New()
	for i := range n {
		put(t, s, spot(i), 100)
	}
	return s
}

// put puts a coin that is locked with the key a.
func put(t *testing.T, s *coins.Set, p api.Point, value int) {
	t.Helper()
	if err := s.Put(p, api.Coin{Value: value, Lock: lock.Lock("a")}); err != nil {
		t.Fatal(err)
	}
}

// signed is a transaction with the key a everywhere.
func signed(a api.Tx) api.Tx {
	keys := slices.Repeat([]string{"a"}, len(a.Spends))
	a, _ = lock.Sign(a, keys...)
	return a
}

// moving is a transaction that spends points for coins of these values, all locked with the key a.
func moving(points []api.Point, values ...int) api.Tx {
	var a api.Tx
	for _, p := range points {
		a.Spends = append(a.Spends, api.Spend{From: p})
	}
	for _, v := range values {
		a.Coins = append(a.Coins, api.Coin{Value: v, Lock: lock.Lock("a")})
	}
	return signed(a)
}

// paying is a transaction that spends one point.
func paying(p api.Point, values ...int) api.Tx {
	return moving([]api.Point{p}, values...)
}

// row is n transactions, each of which spends the coin of the one before it and pays a fee of 1.
func row(p api.Point, value, n int) []api.Tx {
	var list []api.Tx
	for i := range n {
		a := paying(p, value-1-i)
		list, p = append(list, a), tx.Point(a, 0)
	}
	return list
}

// side is n transactions, each of which spends another one of the spots and pays a fee of 1.
func side(n int) []api.Tx {
	var list []api.Tx
	for i := range n {
		list = append(list, paying(spot(i), 99))
	}
	return list
}

// clone is an equal block that shares no memory with b, without empty lists.
func clone(b api.Block) api.Block {
	other := api.Block{Prev: b.Prev, Height: b.Height}
	for _, a := range b.Txs {
		other.Txs = append(other.Txs, cloneTx(a))
	}
	return other
}

func cloneTx(a api.Tx) api.Tx {
	other := api.Tx{Firm: a.Firm}
	other.Spends = append(other.Spends, a.Spends...)
	other.Coins = append(other.Coins, a.Coins...)
	return other
}

// equal tells whether blocks are equal, a nil list and an empty one alike.
func equal(a, b api.Block) bool {
	return reflect.DeepEqual(clone(a), clone(b))
}

type entry struct {
	p api.Point
	c api.Coin
}

// content is all that a set tells about its coins.
func content(s *coins.Set) []entry {
	var list []entry
	for _, p := range s.Points() {
		c, _ := s.Get(p)
		list = append(list, entry{p, c})
	}
	return list
}

// state is all that a chain tells.
type state struct {
	tip    api.Hash
	height int
	coins  []entry
	blocks []api.Block
	fees   []int
}

func stateOf(c *chain.Chain) state {
	s := state{tip: c.Tip(), height: c.Height(), coins: content(c.Coins())}
	for h := 1; ; h++ {
		b, ok := c.Block(h)
		if !ok {
			return s
		}
		fees, _ := c.Fees(h)
		s.blocks, s.fees = append(s.blocks, clone(b)), append(s.fees, fees)
	}
}

// stateIs holds a chain against what it should be.
func stateIs(t *testing.T, name string, c *chain.Chain, want state) {
	t.Helper()
	if got := stateOf(c); !reflect.DeepEqual(got, want) {
		t.Errorf("behind %s, the chain is %v, want %v", name, got, want)
	}
}

// connects connects a block that is the next one, whose transactions pay these fees.
func connects(t *testing.T, name string, c *chain.Chain, b api.Block, fees int) {
	t.Helper()
	before := worth(c)
	if err := c.Connect(b); err != nil {
		t.Fatalf("with %s, Connect is %v", name, err)
	}
	if c.Tip() != chain.ID(b) || c.Height() != b.Height {
		t.Errorf("behind %s, the tip is %x of height %d, want %x and %d", name, c.Tip(), c.Height(), chain.ID(b), b.Height)
	}
	blockIs(t, name, c, b.Height, b)
	feesAre(t, name, c, b.Height, fees, true)
	// P13.2: fees are paid to nobody.
	if got := worth(c); got != before-fees {
		t.Errorf("behind %s, the coins are worth %d, want %d less %d", name, got, before, fees)
	}
}

// worth is what the coins of a chain are worth, be it an amount or not.
func worth(c *chain.Chain) int {
	sum := 0
	for _, e := range content(c.Coins()) {
		sum += e.c.Value
	}
	return sum
}

// refuses holds an error of Connect, which changes nothing.
func refuses(t *testing.T, name string, c *chain.Chain, b api.Block, want error) {
	t.Helper()
	before := stateOf(c)
	if err := c.Connect(b); err != want {
		t.Errorf("with %s, Connect is %v, want %v", name, err, want)
	}
	stateIs(t, name, c, before)
}

// disconnects takes the last block back, which should be b.
func disconnects(t *testing.T, name string, c *chain.Chain, b api.Block) {
	t.Helper()
	got, err := c.Disconnect()
	if err != nil || !equal(got, b) {
		t.Fatalf("of %s, Disconnect is %v, %v; want %v", name, got, err, b)
	}
}

func checkIs(t *testing.T, name string, b api.Block, want error) {
	t.Helper()
	if err := chain.Check(b); err != want {
		t.Errorf("of %s, Check is %v, want %v", name, err, want)
	}
}

func blockIs(t *testing.T, name string, c *chain.Chain, height int, want api.Block) {
	t.Helper()
	if b, ok := c.Block(height); !ok || !equal(b, want) {
		t.Errorf("behind %s, Block of %d is %v, %v; want %v", name, height, b, ok, want)
	}
}

func feesAre(t *testing.T, name string, c *chain.Chain, height, want int, wantOK bool) {
	t.Helper()
	if fees, ok := c.Fees(height); fees != want || ok != wantOK {
		t.Errorf("behind %s, Fees of %d is %d, %v; want %d, %v", name, height, fees, ok, want, wantOK)
	}
}

// nothingAt holds that a chain has no block of a height.
func nothingAt(t *testing.T, name string, c *chain.Chain, height int) {
	t.Helper()
	if b, ok := c.Block(height); ok || !reflect.DeepEqual(b, api.Block{}) {
		t.Errorf("behind %s, Block of %d is %v, %v; want none", name, height, b, ok)
	}
	feesAre(t, name, c, height, 0, false)
}
