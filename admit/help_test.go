package admit_test

import (
	"math"
	"reflect"
	"slices"
	"testing"

	"gossamer/admit"
	"gossamer/amount"
	"gossamer/api"
	"gossamer/coins"
	"gossamer/graph"
	"gossamer/lock"
	"gossamer/tx"
)

// spotCount is how many spots have a coin in the views of the tests, and spotValue what each of these is worth.
const (
	spotCount = 20
	spotValue = 10000
)

// spot is a point of a coin that no transaction of a graph makes.
func spot(i int) api.Point {
	return api.Point{Tx: api.Hash{7, byte(i)}, N: i % api.MaxCoins}
}

// spots are the first n spots.
func spots(n int) []api.Point {
	var list []api.Point
	for i := range n {
		list = append(list, spot(i))
	}
	return list
}

func coin(value int, key string) api.Coin {
	return api.Coin{Value: value, Lock: lock.Lock(key)}
}

// unsigned is a transaction that spends points for coins of these values, which the key k unlocks.
func unsigned(points []api.Point, values ...int) api.Tx {
	var a api.Tx
	for _, p := range points {
		a.Spends = append(a.Spends, api.Spend{From: p})
	}
	for _, value := range values {
		a.Coins = append(a.Coins, coin(value, "k"))
	}
	return a
}

// resigned is a transaction all of whose spends are signed by the key k.
func resigned(a api.Tx) api.Tx {
	signed, err := lock.Sign(a, slices.Repeat([]string{"k"}, len(a.Spends))...)
	if err != nil {
		panic(err)
	}
	return signed
}

// making is unsigned, signed by the key k.
func making(points []api.Point, values ...int) api.Tx {
	return resigned(unsigned(points, values...))
}

// pay is a transaction of one coin.
func pay(value int, points ...api.Point) api.Tx {
	return making(points, value)
}

// row is n transactions, each of which spends a coin of the one before it.
func row(p api.Point, n int) []api.Tx {
	var list []api.Tx
	for i := range n {
		a := pay(5000-i, p)
		list, p = append(list, a), tx.Point(a, 0)
	}
	return list
}

// twin has the id of a transaction, and a witness that unlocks nothing.
func twin(a api.Tx) api.Tx {
	other := clone(a)
	other.Spends[0].Key += "more"
	return other
}

// clone is an equal transaction that shares no memory with a, without empty lists.
func clone(a api.Tx) api.Tx {
	other := api.Tx{Firm: a.Firm}
	other.Spends = append(other.Spends, a.Spends...)
	other.Coins = append(other.Coins, a.Coins...)
	return other
}

// equal tells whether transactions are equal, a nil list and an empty one alike.
func equal(a, b api.Tx) bool {
	return reflect.DeepEqual(clone(a), clone(b))
}

func idsOf(txs ...api.Tx) []api.Hash {
	var list []api.Hash
	for _, a := range txs {
		list = append(list, tx.ID(a))
	}
	return list
}

// free are limits that every valid transaction keeps in these tests.
func free() admit.Limits {
	return admit.Limits{Per: 0, Weight: math.MaxInt, Ancestors: math.MaxInt, Descendants: math.MaxInt}
}

// viewOf is a view with the spots' coins, and a graph of transactions with the fees 10, 11 and so on.
func viewOf(t *testing.T, txs ...api.Tx) admit.View {
	t.Helper()
	v := admit.View{Coins: coins.New(), Graph: graph.New()}
	for _, p := range spots(spotCount) {
		gives(t, v, p, coin(spotValue, "k"))
	}
	for i, a := range txs {
		puts(t, v, a, 10+i)
	}
	return v
}

// gives puts a coin into a view's coin set.
func gives(t *testing.T, v admit.View, p api.Point, c api.Coin) {
	t.Helper()
	if err := v.Coins.Put(p, c); err != nil {
		t.Fatalf("a coin at %v can't be put: %v", p, err)
	}
}

// puts puts a transaction into a view's graph.
func puts(t *testing.T, v admit.View, a api.Tx, fee int) {
	t.Helper()
	if err := v.Graph.Put(a, fee); err != nil {
		t.Fatalf("the transaction %v can't be put: %v", a, err)
	}
}

// state is all that a view has.
type state struct {
	coins map[api.Point]api.Coin
	ids   []api.Hash
	txs   []api.Tx
	rates []amount.Rate
}

func stateOf(v admit.View) state {
	s := state{coins: map[api.Point]api.Coin{}, ids: v.Graph.IDs()}
	for _, p := range v.Coins.Points() {
		s.coins[p], _ = v.Coins.Get(p)
	}
	for _, id := range s.ids {
		a, _ := v.Graph.Get(id)
		rate, _ := v.Graph.Rate(id)
		s.txs, s.rates = append(s.txs, clone(a)), append(s.rates, rate)
	}
	return s
}

// unchanged holds a view against what it was before.
func unchanged(t *testing.T, name string, v admit.View, was state) {
	t.Helper()
	if got := stateOf(v); !reflect.DeepEqual(got, was) {
		t.Errorf("behind %s, the view is %v, want %v", name, got, was)
	}
}

// sameLook tells whether all is equal, a nil list and an empty one alike.
func sameLook(a, b admit.Look) bool {
	return a.Fee == b.Fee && a.Weight == b.Weight && slices.Equal(a.Conflicts, b.Conflicts) && slices.Equal(a.Missing, b.Missing)
}

// lookIs holds what Look returns, with the view unchanged.
func lookIs(t *testing.T, name string, v admit.View, a api.Tx, l admit.Limits, want admit.Look, wantErr error) {
	t.Helper()
	was := stateOf(v)
	if got, err := v.Look(a, l); !sameLook(got, want) || err != wantErr {
		t.Errorf("with %s and %v, Look is %v, %v; want %v, %v", name, l, got, err, want, wantErr)
	}
	unchanged(t, name+" and Look", v, was)
}

// passes holds that a transaction passes all checks, with this fee and these conflicts.
func passes(t *testing.T, name string, v admit.View, a api.Tx, l admit.Limits, fee int, conflicts ...api.Tx) {
	t.Helper()
	lookIs(t, name, v, a, l, admit.Look{Fee: fee, Weight: tx.Weight(a), Conflicts: idsOf(conflicts...)}, nil)
}

// fails holds that a transaction doesn't pass the checks, without points that have no coin.
func fails(t *testing.T, name string, v admit.View, a api.Tx, l admit.Limits, want error) {
	t.Helper()
	lookIs(t, name, v, a, l, admit.Look{}, want)
}

func feeIs(t *testing.T, name string, v admit.View, a api.Tx, want int, wantErr error) {
	t.Helper()
	was := stateOf(v)
	if got, err := v.Fee(a); got != want || err != wantErr {
		t.Errorf("with %s, Fee is %d, %v; want %d, %v", name, got, err, want, wantErr)
	}
	unchanged(t, name+" and Fee", v, was)
}

func missingIs(t *testing.T, name string, v admit.View, a api.Tx, want ...api.Point) {
	t.Helper()
	was := stateOf(v)
	if got := v.Missing(a); !slices.Equal(got, want) {
		t.Errorf("with %s, Missing is %v, want %v", name, got, want)
	}
	unchanged(t, name+" and Missing", v, was)
}

func coinIs(t *testing.T, name string, v admit.View, p api.Point, want api.Coin, ok bool) {
	t.Helper()
	was := stateOf(v)
	if got, is := v.Coin(p); got != want || is != ok {
		t.Errorf("with %s, Coin is %v, %v; want %v, %v", name, got, is, want, ok)
	}
	unchanged(t, name+" and Coin", v, was)
}
