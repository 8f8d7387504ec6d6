package coins_test

import (
	"crypto/sha256"
	"encoding/binary"
	"reflect"
	"slices"
	"testing"

	"gossamer/api"
	"gossamer/coins"
)

// scatter makes numbers that look random, and are the same in every run.
type scatter uint64

func (s *scatter) next() uint64 {
	*s = *s*6364136223846793005 + 1442695040888963407
	return uint64(*s >> 33)
}

// below is a scattered number below n.
func (s *scatter) below(n int) int {
	return int((s.next()<<33 ^ s.next()) % uint64(n))
}

// one tells whether one of n chances came.
func (s *scatter) one(n int) bool {
	return s.below(n) == 0
}

// first is the first word of SHA-256 of a text.
func first(text string) uint64 {
	sum := sha256.Sum256([]byte(text))
	return binary.BigEndian.Uint64(sum[:])
}

// idOf is the id of a transaction as the definitions of layers 8 and 10 say, with up to 252 spends and coins.
func idOf(t api.Tx) api.Hash {
	base := []byte{byte(len(t.Spends))}
	for _, s := range t.Spends {
		base = append(base, s.From.Tx[:]...)
		base = binary.LittleEndian.AppendUint32(base, uint32(s.From.N))
	}
	base = append(base, byte(len(t.Coins)))
	for _, c := range t.Coins {
		base = binary.LittleEndian.AppendUint64(base, uint64(c.Value))
		base = binary.LittleEndian.AppendUint64(base, c.Lock)
	}
	if t.Firm {
		base = append(base, 1)
	} else {
		base = append(base, 0)
	}
	once := sha256.Sum256(base)
	return sha256.Sum256(once[:])
}

// own is the point of a transaction's coin.
func own(t api.Tx, n int) api.Point {
	return api.Point{Tx: idOf(t), N: n}
}

// coin is a coin that a key unlocks.
func coin(value int, key string) api.Coin {
	return api.Coin{Value: value, Lock: first(key)}
}

// seal is the seal of a key for a transaction.
func seal(key string, t api.Tx) uint64 {
	id := idOf(t)
	return first(key + string(id[:]))
}

// sealed is a transaction with the seals that belong to its keys.
func sealed(t api.Tx) api.Tx {
	t = clone(t)
	for i, s := range t.Spends {
		t.Spends[i].Seal = seal(s.Key, t)
	}
	return t
}

// paying is a sealed transaction that spends one point by a key for one coin of the same key.
func paying(from api.Point, value int, key string) api.Tx {
	return sealed(api.Tx{Spends: []api.Spend{{From: from, Key: key}}, Coins: []api.Coin{coin(value, key)}})
}

// clone is an equal transaction that shares no memory with t.
func clone(t api.Tx) api.Tx {
	var c api.Tx
	c.Spends = append(c.Spends, t.Spends...)
	c.Coins = append(c.Coins, t.Coins...)
	c.Firm = t.Firm
	return c
}

// equal tells whether transactions are equal, a nil list and an empty one alike.
func equal(a, b api.Tx) bool {
	return reflect.DeepEqual(clone(a), clone(b))
}

// equalUndo tells whether all is equal, a nil list and an empty one alike.
func equalUndo(a, b coins.Undo) bool {
	return equal(a.Tx, b.Tx) && slices.Equal(a.Coins, b.Coins)
}

// content is all that a set tells about its coins.
func content(s *coins.Set) model {
	var m model
	for _, p := range s.Points() {
		c, _ := s.Get(p)
		m = append(m, entry{p, c})
	}
	return m
}

// unchanged holds a set against what it was before.
func unchanged(t *testing.T, name string, s *coins.Set, was model) {
	t.Helper()
	if got := content(s); !slices.Equal(got, was) || s.Len() != len(was) {
		t.Errorf("behind %s, the set is %v with %d coins, want %v", name, got, s.Len(), was)
	}
}

func feeIs(t *testing.T, name string, s *coins.Set, a api.Tx, want int, wantErr error) {
	t.Helper()
	was := content(s)
	if got, err := s.Fee(a); got != want || err != wantErr {
		t.Errorf("with %s, Fee is %d, %v; want %d, %v", name, got, err, want, wantErr)
	}
	unchanged(t, name+" and Fee", s, was)
}

// does applies a transaction that can be applied, which spends these coins.
func does(t *testing.T, name string, s *coins.Set, a api.Tx, spent ...api.Coin) coins.Undo {
	t.Helper()
	u, err := s.Do(a)
	if err != nil || !equalUndo(u, coins.Undo{Tx: a, Coins: spent}) {
		t.Fatalf("with %s, Do is %v, %v; want %v and the coins %v", name, u, err, a, spent)
	}
	return u
}

func doFails(t *testing.T, name string, s *coins.Set, a api.Tx, want error) {
	t.Helper()
	was := content(s)
	u, err := s.Do(a)
	if err != want || !reflect.DeepEqual(u, coins.Undo{}) {
		t.Errorf("with %s, Do is %v, %v; want the error %v", name, u, err, want)
	}
	unchanged(t, name+" and Do", s, was)
}

// fails holds the error of both Fee and Do.
func fails(t *testing.T, name string, s *coins.Set, a api.Tx, want error) {
	t.Helper()
	feeIs(t, name, s, a, 0, want)
	doFails(t, name, s, a, want)
}

func backIs(t *testing.T, name string, s *coins.Set, u coins.Undo, want error) {
	t.Helper()
	was := content(s)
	if got := s.Back(u); got != want {
		t.Errorf("with %s, Back is %v, want %v", name, got, want)
	}
	if want != nil {
		unchanged(t, name+" and Back", s, was)
	}
}
