package replace_test

import (
	"fmt"
	"math"
	"reflect"
	"slices"
	"testing"

	"gossamer/admit"
	"gossamer/amount"
	"gossamer/api"
	"gossamer/coins"
	"gossamer/graph"
	"gossamer/lock"
	"gossamer/replace"
	"gossamer/tx"
)

// spotCount is how many spots have a coin in the views of the tests, and spotValue what each of these is worth.
const (
	spotCount = 30
	spotValue = 1_000_000
)

// spot is a point of a coin that no transaction of a graph makes.
func spot(i int) api.Point {
	return api.Point{Tx: api.Hash{7, byte(i)}, N: i % api.MaxCoins}
}

func coin(value int) api.Coin {
	return api.Coin{Value: value, Lock: lock.Lock("k")}
}

// making is a transaction that spends points for coins of these values, with all spends and coins by the key k.
func making(points []api.Point, values ...int) api.Tx {
	var a api.Tx
	for _, p := range points {
		a.Spends = append(a.Spends, api.Spend{From: p})
	}
	for _, value := range values {
		a.Coins = append(a.Coins, coin(value))
	}
	return resigned(a)
}

// resigned is a transaction all of whose spends are signed by the key k.
func resigned(a api.Tx) api.Tx {
	signed, err := lock.Sign(a, slices.Repeat([]string{"k"}, len(a.Spends))...)
	if err != nil {
		panic(err)
	}
	return signed
}

// pay is a transaction of one coin.
func pay(value int, points ...api.Point) api.Tx {
	return making(points, value)
}

// wide is a transaction of eight coins.
func wide(value int, points ...api.Point) api.Tx {
	return making(points, slices.Repeat([]int{value}, api.MaxCoins)...)
}

// firm is the same transaction, which can't be replaced.
func firm(a api.Tx) api.Tx {
	other := clone(a)
	other.Firm = true
	return resigned(other)
}

// row is n transactions, each of which spends a coin of the one before it.
func row(p api.Point, n int) []api.Tx {
	var list []api.Tx
	for i := range n {
		a := pay(5000-i, p)
		list, p = append(list, a), tx.Point(a, 0)
	}
	return list
}

// bid is a transaction of one coin that pays this fee in a view.
func bid(v admit.View, fee int, points ...api.Point) api.Tx {
	return making(points, worth(v, points)-fee)
}

// heavyBid is a transaction of eight coins that pays this fee in a view.
func heavyBid(v admit.View, fee int, points ...api.Point) api.Tx {
	values := slices.Repeat([]int{1}, api.MaxCoins)
	values[0] = worth(v, points) - fee - 7
	return making(points, values...)
}

// worth is what the coins of points are worth in a view.
func worth(v admit.View, points []api.Point) int {
	sum := 0
	for _, p := range points {
		c, _ := v.Coin(p)
		sum += c.Value
	}
	return sum
}

// clone is an equal transaction that shares no memory with a, without empty lists.
func clone(a api.Tx) api.Tx {
	other := api.Tx{Firm: a.Firm}
	other.Spends = append(other.Spends, a.Spends...)
	other.Coins = append(other.Coins, a.Coins...)
	return other
}

func cloneAll(txs []api.Tx) []api.Tx {
	var list []api.Tx
	for _, a := range txs {
		list = append(list, clone(a))
	}
	return list
}

// equal tells whether transactions are equal, a nil list and an empty one alike.
func equal(a, b []api.Tx) bool {
	return reflect.DeepEqual(cloneAll(a), cloneAll(b))
}

func idsOf(txs ...api.Tx) []api.Hash {
	var list []api.Hash
	for _, a := range txs {
		list = append(list, tx.ID(a))
	}
	return list
}

// free are limits that every valid transaction keeps.
func free() admit.Limits {
	return admit.Limits{Per: 0, Weight: math.MaxInt, Ancestors: math.MaxInt, Descendants: math.MaxInt}
}

// viewOf is a view with the spots' coins, and a graph of transactions with the fee 100 each.
func viewOf(t *testing.T, txs ...api.Tx) admit.View {
	t.Helper()
	v := admit.View{Coins: coins.New(), Graph: graph.New()}
	for i := range spotCount {
		gives(t, v, spot(i), coin(spotValue))
	}
	for _, a := range txs {
		puts(t, v, a, 100)
	}
	return v
}

// gives puts a coin into a view's coin set.
func gives(t *testing.T, v admit.View, p api.Point, c api.Coin) {
	t.Helper()
	if err := v.Coins.Put(p, c); err != nil {
		t.Fatalf("a coin at %v can't be put: %v", p, err)
	}
}

// puts puts a transaction into a view's graph.
func puts(t *testing.T, v admit.View, a api.Tx, fee int) {
	t.Helper()
	if err := v.Graph.Put(a, fee); err != nil {
		t.Fatalf("the transaction %v can't be put: %v", a, err)
	}
}

// copied is another view like it.
func copied(v admit.View) admit.View {
	return admit.View{Coins: v.Coins.Copy(), Graph: v.Graph.Copy()}
}

// state is all that a view has.
type state struct {
	coins map[api.Point]api.Coin
	ids   []api.Hash
	txs   []api.Tx
	rates []amount.Rate
}

// String tells no more of a state than a failed test needs.
func (s state) String() string {
	text := fmt.Sprintf("%d coins", len(s.coins))
	for i, id := range s.ids {
		text += fmt.Sprintf(", %x with %v", id[:4], s.rates[i])
	}
	return text
}

func stateOf(v admit.View) state {
	s := state{coins: map[api.Point]api.Coin{}, ids: v.Graph.IDs()}
	for _, p := range v.Coins.Points() {
		s.coins[p], _ = v.Coins.Get(p)
	}
	for _, id := range s.ids {
		a, _ := v.Graph.Get(id)
		rate, _ := v.Graph.Rate(id)
		s.txs, s.rates = append(s.txs, clone(a)), append(s.rates, rate)
	}
	return s
}

// fees is the sum of all fees.
func (s state) fees() int {
	sum := 0
	for _, rate := range s.rates {
		sum += rate.Fee
	}
	return sum
}

// after is a state in which a transaction stands behind the others, without these.
func (s state) after(a api.Tx, fee int, gone []api.Hash) state {
	next := state{coins: s.coins}
	for i, id := range s.ids {
		if !slices.Contains(gone, id) {
			next.ids, next.txs, next.rates = append(next.ids, id), append(next.txs, s.txs[i]), append(next.rates, s.rates[i])
		}
	}
	next.ids, next.txs = append(next.ids, tx.ID(a)), append(next.txs, clone(a))
	next.rates = append(next.rates, amount.Rate{Fee: fee, Weight: tx.Weight(a)})
	return next
}

// stateIs holds what a view has.
func stateIs(t *testing.T, name string, v admit.View, want state) {
	t.Helper()
	if got := stateOf(v); !reflect.DeepEqual(got, want) {
		t.Errorf("behind %s, the view is %v, want %v", name, got, want)
	}
}

// sameLook tells whether all is equal, a nil list and an empty one alike.
func sameLook(a, b admit.Look) bool {
	return a.Fee == b.Fee && a.Weight == b.Weight && slices.Equal(a.Conflicts, b.Conflicts) && slices.Equal(a.Missing, b.Missing)
}

func goesIs(t *testing.T, name string, g *graph.Graph, a api.Tx, want ...api.Hash) {
	t.Helper()
	if got := replace.Goes(g, a); !slices.Equal(got, want) {
		t.Errorf("with %s, Goes is %x, want %x", name, got, want)
	}
}

func checkIs(t *testing.T, name string, v admit.View, a api.Tx, x admit.Look, step int, want []api.Hash, wantErr error) {
	t.Helper()
	was := stateOf(v)
	if got, err := replace.Check(v, a, x, step); !slices.Equal(got, want) || err != wantErr {
		t.Errorf("with %s, %v and the step %d, Check is %x, %v; want %x, %v", name, x, step, got, err, want, wantErr)
	}
	stateIs(t, name+" and Check", v, was)
}

func tryIs(t *testing.T, name string, v admit.View, a api.Tx, l admit.Limits, step int, want admit.Look, goes []api.Hash, wantErr error) {
	t.Helper()
	was := stateOf(v)
	if x, got, err := replace.Try(v, a, l, step); !sameLook(x, want) || !slices.Equal(got, goes) || err != wantErr {
		t.Errorf("with %s and the step %d, Try is %v, %x, %v; want %v, %x, %v", name, step, x, got, err, want, goes, wantErr)
	}
	stateIs(t, name+" and Try", v, was)
}

// doIs holds what Do returns, and what it leaves in a view.
func doIs(t *testing.T, name string, v admit.View, a api.Tx, l admit.Limits, step int, want []api.Tx, wantErr error, then state) {
	t.Helper()
	if got, err := replace.Do(v, a, l, step); !equal(got, want) || err != wantErr {
		t.Errorf("with %s and the step %d, Do is %v, %v; want %v, %v", name, step, got, err, want, wantErr)
	}
	stateIs(t, name+" and Do", v, then)
}

// replaces holds that a transaction takes the place of just these, by all calls. The view stays as it is.
func replaces(t *testing.T, name string, v admit.View, a api.Tx, step int, gone ...api.Tx) {
	t.Helper()
	x, err := v.Look(a, free())
	if err != nil {
		t.Fatalf("%s doesn't pass the checks of layer 15: %v", name, err)
	}
	ids := idsOf(gone...)
	goesIs(t, name, v.Graph, a, ids...)
	checkIs(t, name, v, a, x, step, ids, nil)
	tryIs(t, name, v, a, free(), step, x, ids, nil)
	was, w := stateOf(v), copied(v)
	doIs(t, name, w, a, free(), step, gone, nil, was.after(a, x.Fee, ids))
	standsAlone(t, name, w.Graph, a)
	if now := stateOf(w).fees(); len(gone) > 0 && now <= was.fees() {
		t.Errorf("with %s, all fees are %d and were %d", name, now, was.fees())
	}
}

// standsAlone holds that a transaction is in the graph, and that no other one spends what it spends (P16.2).
func standsAlone(t *testing.T, name string, g *graph.Graph, a api.Tx) {
	t.Helper()
	for _, s := range a.Spends {
		if id, ok := g.Spender(s.From); !ok || id != tx.ID(a) {
			t.Errorf("with %s, the spender of %v is %x, %v", name, s.From, id, ok)
		}
	}
	if !g.Has(tx.ID(a)) || len(g.Conflicts(a)) > 0 {
		t.Errorf("with %s, the graph has it: %v, and its conflicts are %x", name, g.Has(tx.ID(a)), g.Conflicts(a))
	}
}

// refuses holds that a transaction that passes the checks of layer 15 doesn't take the place of its conflicts, by all calls.
func refuses(t *testing.T, name string, v admit.View, a api.Tx, step int, want error) {
	t.Helper()
	x, err := v.Look(a, free())
	if err != nil || len(x.Conflicts) == 0 {
		t.Fatalf("%s has the result %v, %v by the checks of layer 15", name, x, err)
	}
	checkIs(t, name, v, a, x, step, nil, want)
	tryIs(t, name, v, a, free(), step, admit.Look{}, nil, want)
	doIs(t, name, copied(v), a, free(), step, nil, want, stateOf(v))
}

// fails holds that a transaction doesn't pass the checks of layer 15, and that the calls tell what these tell.
func fails(t *testing.T, name string, v admit.View, a api.Tx, l admit.Limits, want error, missing ...api.Point) {
	t.Helper()
	for _, step := range []int{math.MinInt, 0, 1000, math.MaxInt} {
		tryIs(t, name, v, a, l, step, admit.Look{Missing: missing}, nil, want)
		doIs(t, name, copied(v), a, l, step, nil, want, stateOf(v))
	}
}
