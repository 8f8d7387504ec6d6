package chain_test

import (
	"math/rand/v2"
	"reflect"
	"slices"
	"testing"

	"gossamer/api"
	"gossamer/chain"
	"gossamer/coins"
	"gossamer/tx"
)

// model is a chain as the chapter defines it, with the coins as they were at each height: nothing is ever undone.
type model struct {
	blocks []api.Block
	fees   []int
	coins  []*coins.Set
}

func (m model) last() *coins.Set {
	return m.coins[len(m.blocks)]
}

func (m model) state() state {
	s := state{height: len(m.blocks), coins: content(m.last()), fees: m.fees}
	if len(m.blocks) > 0 {
		s.tip = idOf(m.blocks[len(m.blocks)-1])
	}
	for _, b := range m.blocks {
		s.blocks = append(s.blocks, clone(b))
	}
	return s
}

func (m model) next(txs []api.Tx) api.Block {
	return api.Block{Prev: m.state().tip, Height: len(m.blocks) + 1, Txs: txs}
}

// check is the error of a block that isn't valid.
func check(b api.Block) error {
	if b.Height <= 0 || b.Height > 1<<31 {
		return api.ErrForm
	}
	if len(b.Txs) > 60 {
		return api.ErrFull
	}
	for _, a := range b.Txs {
		if err := tx.Check(a); err != nil {
			return err
		}
	}
	seen := map[api.Hash]int{}
	for _, a := range b.Txs {
		seen[tx.Wide(a)]++
	}
	if len(seen) < len(b.Txs) {
		return api.ErrDup
	}
	return nil
}

func (m model) connect(b api.Block) (model, error) {
	if err := check(b); err != nil {
		return m, err
	}
	if next := m.next(nil); b.Prev != next.Prev || b.Height != next.Height {
		return m, api.ErrState
	}
	s, sum := m.last().Copy(), 0
	for _, a := range b.Txs {
		fee, _ := s.Fee(a)
		if _, err := s.Do(a); err != nil {
			return m, err
		}
		sum += fee
	}
	return model{
		blocks: append(slices.Clone(m.blocks), clone(b)),
		fees:   append(slices.Clone(m.fees), sum),
		coins:  append(slices.Clone(m.coins), s),
	}, nil
}

func (m model) disconnect() (model, api.Block, error) {
	n := len(m.blocks)
	if n == 0 {
		return m, api.Block{}, api.ErrNone
	}
	less := model{blocks: m.blocks[:n-1], coins: m.coins[:n]}
	if n > 1 {
		less.fees = m.fees[:n-1]
	}
	return less, m.blocks[n-1], nil
}

// both is a chain, and what it should be.
type both struct {
	chain *chain.Chain
	want  model
}

// world is chains on which scattered calls are made.
type world struct {
	*rand.Rand
	chains []both
	old    []api.Block
	seen   map[string]int
}

// one tells whether one of n chances came.
func (w *world) one(n int) bool {
	return w.IntN(n) == 0
}

// tx is a transaction that spends points of a set mostly.
func (w *world) tx(s *coins.Set) api.Tx {
	var points []api.Point
	all := s.Points()
	worth := 0
	for range 1 + w.IntN(3) {
		p := spot(w.IntN(40))
		if len(all) > 0 && !w.one(15) {
			p = all[w.IntN(len(all))]
		}
		if !slices.Contains(points, p) || w.one(30) {
			c, _ := s.Get(p)
			points, worth = append(points, p), worth+c.Value
		}
	}
	var values []int
	for n := 1 + w.IntN(3); n > 0; n-- {
		v := w.IntN(worth/n + 2)
		if w.one(60) {
			v = -1
		}
		values, worth = append(values, v), max(0, worth-v)
	}
	a := moving(points, values...)
	if w.one(30) {
		a.Spends[0].Seal++
	}
	return a
}

// block is mostly the next block of a chain, whose transactions mostly can be applied.
func (w *world) block(m model) api.Block {
	if len(w.old) > 0 && w.one(5) {
		return w.old[w.IntN(len(w.old))]
	}
	s := m.last().Copy()
	var txs []api.Tx
	for range w.IntN(6) {
		a := w.tx(s)
		if len(txs) > 0 && w.one(30) {
			a = txs[w.IntN(len(txs))]
		}
		if w.one(40) {
			// A coin can be there ahead of the transaction that makes it only from the beginning on: see fresh.
			a = paying(spot(39), 1)
		}
		txs = append(txs, a)
		s.Do(a)
	}
	b := m.next(txs)
	switch w.IntN(30) {
	case 0:
		b.Height += w.IntN(5) - 2
	case 1:
		b.Prev[w.IntN(32)]++
	case 2:
		b.Txs = append(b.Txs, side(60)...)
	case 3:
		w.Shuffle(len(txs), func(i, j int) { txs[i], txs[j] = txs[j], txs[i] })
	}
	return b
}

// fresh is a new chain, whose coins include one of a transaction that isn't in a block yet.
func (w *world) fresh(t *testing.T) both {
	s := initial(t, 5+w.IntN(10))
	put(t, s, spot(39), 10)
	put(t, s, tx.Point(paying(spot(39), 1), 0), 5)
	return both{chain.New(s), model{coins: []*coins.Set{s}}}
}

// count counts what a kind of call returned.
func (w *world) count(call string, err error) {
	if err != nil {
		call += " " + err.Error()
	}
	w.seen[call]++
}

// step makes one scattered call on one of the chains, and holds it against the model.
func (w *world) step(t *testing.T) {
	t.Helper()
	b := &w.chains[w.IntN(len(w.chains))]
	switch w.IntN(10) {
	case 0:
		w.chains[w.IntN(len(w.chains))] = both{b.chain.Copy(), b.want}
	case 1, 2, 3:
		after, block, want := b.want.disconnect()
		w.count("disconnect", want)
		got, err := b.chain.Disconnect()
		if err != want || !equal(got, block) {
			t.Errorf("Disconnect is %v, %v; want %v, %v", got, err, block, want)
		}
		b.want = after
	case 4:
		txs := []api.Tx{w.tx(b.want.last()), w.tx(b.want.last())}
		if got, want := b.chain.Next(txs...), b.want.next(txs); !equal(got, want) {
			t.Errorf("Next is %v, want %v", got, want)
		}
	default:
		block := w.block(b.want)
		w.old = append(w.old, clone(block))
		after, want := b.want.connect(block)
		w.count("connect", want)
		checkIs(t, "a scattered block", block, check(block))
		if err := b.chain.Connect(block); err != want {
			t.Errorf("with %v, Connect is %v, want %v", block, err, want)
		}
		b.want = after
	}
}

// P13.1, P13.2, P13.3: any calls in any order do what the definitions say, on chains of which some are copies of others.
func TestScatteredCalls(t *testing.T) {
	w := world{Rand: rand.New(rand.NewPCG(13, 39)), seen: map[string]int{}}
	for range 4 {
		w.chains = append(w.chains, w.fresh(t))
	}
	for i := range 4000 {
		w.step(t)
		for _, b := range w.chains {
			if got, want := stateOf(b.chain), b.want.state(); !reflect.DeepEqual(got, want) {
				t.Fatalf("behind scattered calls, a chain is %v, want %v", got, want)
			}
		}
		if t.Failed() {
			t.Fatalf("after %d calls", i+1)
		}
		// Some forgetting lets the same things happen again.
		if i%40 == 39 {
			w.chains[w.IntN(4)] = w.fresh(t)
			w.old = w.old[max(0, len(w.old)-10):]
		}
	}
	for _, call := range []string{
		"connect", "connect form", "connect full", "connect spent", "connect value", "connect dup", "connect state", "connect orphan", "connect witness",
		"disconnect", "disconnect none",
	} {
		if w.seen[call] < 5 {
			t.Errorf("the calls with the result %q are %d, too few for a test", call, w.seen[call])
		}
	}
}
