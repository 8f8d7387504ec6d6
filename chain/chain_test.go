package chain_test

import (
	"bytes"
	"crypto/sha256"
	"encoding/binary"
	"encoding/hex"
	"fmt"
	"math"
	"reflect"
	"slices"
	"strings"
	"testing"

	"gossamer/api"
	"gossamer/chain"
	"gossamer/coins"
	"gossamer/tx"
)

// numbered are transactions that tell their numbers, from 1 on. Their seals are none.
func numbered(n int) []api.Tx {
	var list []api.Tx
	for i := 1; i <= n; i++ {
		list = append(list, api.Tx{
			Spends: []api.Spend{{From: api.Point{Tx: hash(byte(i)), N: i % 8}, Key: strings.Repeat("k", i), Seal: uint64(i)}},
			Coins:  []api.Coin{{Value: 100 * i, Lock: 7}},
			Firm:   i%2 == 1,
		})
	}
	return list
}

// P13.1: ID

// The ids were computed by another program from the definitions.
func TestIDs(t *testing.T) {
	var prev api.Hash
	for i := range prev {
		prev[i] = byte(i + 1)
	}
	wrong := []api.Tx{{}, {
		Spends: []api.Spend{{From: api.Point{N: -1}}},
		Coins:  slices.Repeat([]api.Coin{{Value: -5, Lock: 1}}, 9),
		Firm:   true,
	}}
	for _, c := range []struct {
		b    api.Block
		want string
	}{
		{api.Block{}, "ddf4689a7fcb9bc8888232f8a1961effac49bc574bc8bdbaf740b042e08683d8"},
		{api.Block{Height: 1}, "11203601f18d8ef92315021e22472d167d62bf4f23344538ac985db7609d2d23"},
		{api.Block{Height: 1, Txs: []api.Tx{}}, "11203601f18d8ef92315021e22472d167d62bf4f23344538ac985db7609d2d23"},
		{api.Block{Prev: prev, Height: 1}, "da3410569edd737cff0bfa8585a49a3800b8f5e085e6fff9306409cc745c34da"},
		{api.Block{Height: 1 << 31}, "6740853e697fd394d5db5aabc372d4a92797c6412ed18ff7b9e3fa66efb25f3b"},
		{api.Block{Height: -1}, "9b542a41bcfb9fe00498208bc9f539165f933ee6ed7567b7540ea68d897cb050"},
		{api.Block{Height: math.MinInt}, "b19afa5105f2dc2148fd91350ecff8aa6e5b0da65ec5ef7f96181692a88dca13"},
		{api.Block{Height: 0x0102030405060708}, "5c61b8d0c92645ca24ad5792cde9ef0a4f9dfc7321d27ad7f71df9b54f3d7e60"},
		{api.Block{Prev: hash(9), Height: 2, Txs: numbered(1)}, "2872f96e9b93cd89963bf31e447759064981c3b8b45d732a66a70698e0b7c0b0"},
		{api.Block{Prev: hash(9), Height: 2, Txs: numbered(2)}, "eca091e99ffc85c0bdad51ea30c08c5b22a128896fd05996ac13f816fd418dd8"},
		{api.Block{Prev: hash(9), Height: 2, Txs: numbered(3)}, "c9a1b0e02093c39d05dd4f171b9f1ff44a19a1a4df76a5cde1477de0d63ca82e"},
		{api.Block{Prev: hash(9), Height: 300, Txs: numbered(5)}, "6177596ea2d766179ebb3afa43fbaf22cb0241f48603d85185d9abff574414fa"},
		{api.Block{Prev: hash(9), Height: 2, Txs: numbered(30)}, "78c78baf29f657107b360935bf278268e48c7af14e0fbb3b8514aa3232e93b60"},
		{api.Block{Prev: hash(9), Height: 2, Txs: wrong}, "9c7b82f3eab9d8b63b485b45ea6c68ce3e1ec669c18930673d0a8747d0c9046c"},
	} {
		if got := chain.ID(c.b); hex.EncodeToString(got[:]) != c.want {
			t.Errorf("of %v, ID is %x, want %s", c.b, got, c.want)
		}
	}
}

// twice is the double digest of some texts, one behind the other.
func twice(texts ...[]byte) api.Hash {
	once := sha256.Sum256(bytes.Join(texts, nil))
	return sha256.Sum256(once[:])
}

// rootOf is the tree digest of digests.
func rootOf(list []api.Hash) api.Hash {
	switch len(list) {
	case 0:
		return api.Hash{}
	case 1:
		return list[0]
	}
	var next []api.Hash
	for pair := range slices.Chunk(list, 2) {
		next = append(next, twice(pair[0][:], pair[len(pair)-1][:]))
	}
	return rootOf(next)
}

// idOf is the id of a block as the definitions say.
func idOf(b api.Block) api.Hash {
	var list []api.Hash
	for _, a := range b.Txs {
		list = append(list, tx.Wide(a))
	}
	root := rootOf(list)
	return twice(b.Prev[:], binary.LittleEndian.AppendUint64(nil, uint64(b.Height)), root[:])
}

func TestIDsOfAllSizes(t *testing.T) {
	all := numbered(140)
	for n := range all {
		b := api.Block{Prev: hash(1, byte(n)), Height: n * n * n, Txs: all[:n]}
		if got := chain.ID(b); got != idOf(b) {
			t.Errorf("of %d transactions, ID is %x, want %x", n, got, idOf(b))
		}
	}
}

// P13.1: the id tells everything of a block, the witnesses included.
func TestIDTellsEverything(t *testing.T) {
	b := api.Block{Prev: hash(1, 2, 3), Height: 5, Txs: numbered(5)}
	seen := map[api.Hash]string{}
	see := func(name string, b api.Block) {
		t.Helper()
		id := chain.ID(b)
		if id != idOf(b) {
			t.Errorf("with %s, ID is %x, want %x", name, id, idOf(b))
		}
		if other, ok := seen[id]; ok {
			t.Errorf("with %s, ID is the same as with %s", name, other)
		}
		seen[id] = name
	}
	see("nothing else", b)
	for i := range b.Prev {
		other := clone(b)
		other.Prev[i]++
		see(fmt.Sprint("another byte ", i, " of Prev"), other)
	}
	for i := range 64 {
		other := clone(b)
		other.Height ^= 1 << i
		see(fmt.Sprint("another bit ", i, " of the height"), other)
	}
	for i := range b.Txs {
		for name, change := range map[string]func(a *api.Tx){
			"key":   func(a *api.Tx) { a.Spends[0].Key += "x" },
			"seal":  func(a *api.Tx) { a.Spends[0].Seal++ },
			"point": func(a *api.Tx) { a.Spends[0].From.Tx[31]++ },
			"value": func(a *api.Tx) { a.Coins[0].Value++ },
			"lock":  func(a *api.Tx) { a.Coins[0].Lock++ },
			"flag":  func(a *api.Tx) { a.Firm = !a.Firm },
		} {
			other := clone(b)
			change(&other.Txs[i])
			see(fmt.Sprint("another ", name, " of ", i), other)
		}
		other := clone(b)
		other.Txs = slices.Delete(other.Txs, i, i+1)
		see(fmt.Sprint("no transaction ", i), other)
		for j := range i {
			other := clone(b)
			other.Txs[i], other.Txs[j] = other.Txs[j], other.Txs[i]
			see(fmt.Sprint("transactions ", i, " and ", j, " swapped"), other)
		}
	}
}

// P13.1: Check

func TestHeightsOfValidBlocks(t *testing.T) {
	for _, h := range []int{1, 2, 59, 60, 61, 1 << 16, 1<<31 - 1, 1 << 31} {
		checkIs(t, fmt.Sprint("height ", h), api.Block{Height: h}, nil)
		checkIs(t, fmt.Sprint("height ", h, " and transactions"), api.Block{Height: h, Prev: hash(5), Txs: side(3)}, nil)
	}
	for _, h := range []int{0, -1, -1 << 31, math.MinInt, 1<<31 + 1, 1 << 32, 1<<32 + 1, 1 << 62, math.MaxInt} {
		checkIs(t, fmt.Sprint("height ", h), api.Block{Height: h}, api.ErrForm)
	}
}

func TestNumbersOfTransactions(t *testing.T) {
	all := numbered(32)
	all = append(all, side(60)...)
	for _, n := range []int{0, 1, 2, 3, 31, 32, 59, 60} {
		checkIs(t, fmt.Sprint(n, " transactions"), api.Block{Height: 1, Txs: all[:n]}, nil)
	}
	for _, n := range []int{61, 62, 92} {
		checkIs(t, fmt.Sprint(n, " transactions"), api.Block{Height: 1, Txs: all[:n]}, api.ErrFull)
	}
	checkIs(t, "many transactions", api.Block{Height: 1, Txs: make([]api.Tx, 5000)}, api.ErrFull)
}

// invalid are transactions that aren't valid, with their errors.
func invalid() map[error]api.Tx {
	return map[error]api.Tx{
		api.ErrForm:  {},
		api.ErrValue: paying(spot(70), -1),
		api.ErrSpent: moving([]api.Point{spot(70), spot(71), spot(70)}, 5),
	}
}

func TestInvalidTransactionsOfBlocks(t *testing.T) {
	all := side(60)
	for i := range all {
		for want, wrong := range invalid() {
			txs := slices.Clone(all)
			txs[i] = wrong
			checkIs(t, fmt.Sprint("an invalid transaction ", i), api.Block{Height: 1, Txs: txs}, want)
			checkIs(t, "it alone", api.Block{Height: 1, Txs: txs[i : i+1]}, want)
		}
	}
	// The first one that isn't valid tells the error.
	for want, first := range invalid() {
		for _, second := range invalid() {
			for i := range 4 {
				txs := slices.Concat(all[:i], []api.Tx{first}, all[i:5], []api.Tx{second}, all[5:8])
				checkIs(t, fmt.Sprint("invalid transactions ", i, " and 6"), api.Block{Height: 1, Txs: txs}, want)
			}
		}
	}
}

func TestEqualTransactions(t *testing.T) {
	all := side(60)
	for i := range all {
		for j := range i {
			txs := slices.Clone(all)
			txs[i] = txs[j]
			checkIs(t, fmt.Sprint("equal transactions ", j, " and ", i), api.Block{Height: 1, Txs: txs}, api.ErrDup)
		}
	}
	checkIs(t, "60 equal ones", api.Block{Height: 1, Txs: slices.Repeat(all[:1], 60)}, api.ErrDup)
	// By another witness, the wide id is another one, and the id isn't.
	other := cloneTx(all[2])
	other.Spends[0].Seal++
	checkIs(t, "equal ids with another seal", api.Block{Height: 1, Txs: []api.Tx{all[2], other, all[1]}}, nil)
	other.Spends[0] = api.Spend{From: other.Spends[0].From, Key: "b", Seal: all[2].Spends[0].Seal}
	checkIs(t, "equal ids with another key", api.Block{Height: 1, Txs: []api.Tx{all[2], other, all[1]}}, nil)
	// Nor do other differences make them equal.
	more := cloneTx(all[2])
	more.Firm = true
	checkIs(t, "another flag", api.Block{Height: 1, Txs: []api.Tx{all[2], more}}, nil)
}

// A list whose last one is repeated can have the tree digest of the list itself. Such a block isn't valid.
func TestRepeatedTransactionsWithTheSameID(t *testing.T) {
	one := api.Block{Height: 1, Txs: side(3)}
	two := api.Block{Height: 1, Txs: append(side(3), side(3)[2])}
	if chain.ID(one) != chain.ID(two) {
		t.Error("the ids aren't the same, which the definition of tree digests wants")
	}
	checkIs(t, "three transactions", one, nil)
	checkIs(t, "the last one repeated", two, api.ErrDup)
}

// P13.1, rule 2: the first error of Check
func TestOrderOfErrorsOfCheck(t *testing.T) {
	same := slices.Repeat(side(1), 61)
	for want, wrong := range invalid() {
		txs := append(slices.Clone(same), wrong)
		checkIs(t, "all errors", api.Block{Height: 0, Txs: txs}, api.ErrForm)
		checkIs(t, "too many, an invalid and equal ones", api.Block{Height: 1, Txs: txs}, api.ErrFull)
		checkIs(t, "an invalid one first, and too many", api.Block{Height: 1, Txs: append([]api.Tx{wrong}, same...)}, api.ErrFull)
		checkIs(t, "an invalid one and equal ones", api.Block{Height: 1, Txs: txs[2:]}, want)
		checkIs(t, "an invalid one twice", api.Block{Height: 1, Txs: []api.Tx{wrong, wrong}}, want)
		checkIs(t, "a wrong height and an invalid one", api.Block{Height: 1<<31 + 1, Txs: []api.Tx{wrong}}, api.ErrForm)
		checkIs(t, "a wrong height and equal ones", api.Block{Height: -1, Txs: same[:2]}, api.ErrForm)
	}
	checkIs(t, "a wrong height and too many", api.Block{Height: 0, Txs: same}, api.ErrForm)
	checkIs(t, "too many equal ones", api.Block{Height: 1, Txs: same}, api.ErrFull)
}

// Whether a block is the next one, and whether it can be applied, isn't asked for.
func TestCheckAsksForNothingElse(t *testing.T) {
	all := numbered(32)
	for i, a := range all {
		checkIs(t, fmt.Sprint("a transaction without the right seals ", i), api.Block{Prev: hash(3), Height: 77, Txs: []api.Tx{a}}, nil)
	}
	checkIs(t, "spends of one point by two", api.Block{Height: 9, Txs: []api.Tx{paying(spot(1), 3), paying(spot(1), 4)}}, nil)
	checkIs(t, "a child ahead of its parent", api.Block{Height: 9, Txs: slices.Concat(row(spot(0), 100, 2)[1:], row(spot(0), 100, 1))}, nil)
}

// P13.1: New

func TestNew(t *testing.T) {
	s := initial(t, 5)
	for name, c := range map[string]*chain.Chain{"a set": chain.New(s), "an empty set": chain.New(coins.New()), "no set": chain.New(nil)} {
		if c == nil || c.Tip() != (api.Hash{}) || c.Height() != 0 {
			t.Fatalf("of %s, New is %v", name, c)
		}
		nothingAt(t, name, c, 0)
		nothingAt(t, name, c, 1)
		if b, err := c.Disconnect(); err != api.ErrNone || !reflect.DeepEqual(b, api.Block{}) {
			t.Errorf("of %s, Disconnect is %v, %v; want ErrNone", name, b, err)
		}
	}
	if got := chain.New(s).Coins(); !reflect.DeepEqual(content(got), content(s)) {
		t.Errorf("the coins of a new chain are %v, want %v", content(got), content(s))
	}
	for _, c := range []*chain.Chain{chain.New(nil), chain.New(coins.New())} {
		if got := c.Coins(); got == nil || got.Len() != 0 {
			t.Errorf("the coins of a chain without coins are %v", got)
		}
		refuses(t, "no coins", c, c.Next(paying(spot(0), 5)), api.ErrOrphan)
		connects(t, "no coins and no transactions", c, c.Next(), 0)
	}
}

// P13.1: Next

func TestNext(t *testing.T) {
	c := chain.New(initial(t, 3))
	for h := range 4 {
		for _, txs := range [][]api.Tx{nil, side(1), side(7), numbered(61), {{}, {Firm: true}}, {paying(spot(1), -1)}, slices.Repeat(side(1), 100)} {
			before := stateOf(c)
			got, want := c.Next(txs...), api.Block{Prev: c.Tip(), Height: h + 1, Txs: txs}
			if !equal(got, want) {
				t.Errorf("on height %d, Next is %v, want %v", h, got, want)
			}
			stateIs(t, "Next", c, before)
		}
		connects(t, "a block without transactions", c, c.Next(), 0)
	}
}

// P13.1: Block and Fees

func TestBlockAndFees(t *testing.T) {
	c := chain.New(initial(t, 15))
	var list []api.Block
	var fees []int
	used := 0
	for h := 1; h <= 6; h++ {
		var txs []api.Tx
		sum := 0
		for i := range h - 1 {
			txs = append(txs, paying(spot(used), 100-10*h, i))
			sum += 10*h - i
			used++
		}
		b := c.Next(txs...)
		connects(t, "one block more", c, b, sum)
		list, fees = append(list, b), append(fees, sum)
		for i, b := range list {
			blockIs(t, "one block more", c, i+1, b)
			feesAre(t, "one block more", c, i+1, fees[i], true)
		}
		for _, h := range []int{0, -1, -2, -h, h + 1, h + 2, math.MinInt, math.MinInt + 1, math.MaxInt, 1 << 32, 1<<32 + 1} {
			nothingAt(t, "one block more", c, h)
		}
	}
	if want := []int{0, 20, 59, 117, 194, 290}; !slices.Equal(fees, want) {
		t.Errorf("the fees are %v, want %v", fees, want)
	}
}

// The fees of a block can be more than an amount.
func TestGreatFees(t *testing.T) {
	s, n := coins.New(), api.MaxTxs
	var txs []api.Tx
	for i := range n {
		put(t, s, spot(i), api.MaxMoney)
		txs = append(txs, paying(spot(i), i))
	}
	c := chain.New(s)
	b := c.Next(txs...)
	connects(t, "60 transactions that pay nearly everything", c, b, n*api.MaxMoney-n*(n-1)/2)
	disconnects(t, "60 transactions that pay nearly everything", c, b)
}

// P13.1: a nil chain

func TestNilChain(t *testing.T) {
	var c *chain.Chain
	if c.Tip() != (api.Hash{}) || c.Height() != 0 || c.Coins() != nil || c.Copy() != nil {
		t.Errorf("a nil chain has the tip %x, the height %d, the coins %v and the copy %v", c.Tip(), c.Height(), c.Coins(), c.Copy())
	}
	for _, h := range []int{0, 1, -1, math.MinInt, math.MaxInt} {
		nothingAt(t, "nil", c, h)
	}
	for _, txs := range [][]api.Tx{nil, side(3), numbered(61), {{}}} {
		if got, want := c.Next(txs...), (api.Block{Height: 1, Txs: txs}); !equal(got, want) {
			t.Errorf("on a nil chain, Next is %v, want %v", got, want)
		}
	}
	for name, e := range map[string]struct {
		b    api.Block
		want error
	}{
		"the next block":       {c.Next(), api.ErrState},
		"transactions":         {c.Next(side(3)...), api.ErrState},
		"another height":       {api.Block{Height: 2}, api.ErrState},
		"another block before": {api.Block{Prev: hash(1), Height: 1}, api.ErrState},
		"a wrong height":       {api.Block{}, api.ErrForm},
		"too many":             {c.Next(side(61)...), api.ErrFull},
		"equal ones":           {c.Next(slices.Repeat(side(1), 2)...), api.ErrDup},
		"form":                 {c.Next(invalid()[api.ErrForm]), api.ErrForm},
		"value":                {c.Next(invalid()[api.ErrValue]), api.ErrValue},
		"a point twice":        {c.Next(invalid()[api.ErrSpent]), api.ErrSpent},
	} {
		if err := c.Connect(e.b); err != e.want {
			t.Errorf("with %s on a nil chain, Connect is %v, want %v", name, err, e.want)
		}
	}
	if b, err := c.Disconnect(); err != api.ErrNone || !reflect.DeepEqual(b, api.Block{}) {
		t.Errorf("on a nil chain, Disconnect is %v, %v; want ErrNone", b, err)
	}
}
