package tx_test

import (
	"bytes"
	"slices"
	"testing"

	"gossamer/api"
	"gossamer/tx"
)

// spared is an equal transaction whose lists have spare capacity with more spends and coins in it.
func spared(a api.Tx) api.Tx {
	spends := slices.Concat(a.Spends, []api.Spend{{Seal: 991}, {Seal: 992}})
	coins := slices.Concat(a.Coins, []api.Coin{{Lock: 993}, {Lock: 994}})
	return api.Tx{Spends: spends[:len(a.Spends)], Coins: coins[:len(a.Coins)], Firm: a.Firm}
}

// whole is a spared transaction with what its spare capacity holds.
func whole(a api.Tx) api.Tx {
	return api.Tx{Spends: a.Spends[:len(a.Spends)+2], Coins: a.Coins[:len(a.Coins)+2], Firm: a.Firm}
}

// spoil overwrites all that a transaction's lists hold, up to their capacity.
func spoil(a api.Tx) {
	for i := range a.Spends[:cap(a.Spends)] {
		a.Spends[:cap(a.Spends)][i] = api.Spend{From: api.Point{Tx: api.Hash{0x55}, N: 5}, Key: "spoilt", Seal: 0x55}
	}
	for i := range a.Coins[:cap(a.Coins)] {
		a.Coins[:cap(a.Coins)][i] = api.Coin{Value: 0x55, Lock: 0x55}
	}
}

// fill overwrites all bytes up to the capacity.
func fill(b []byte) {
	for i := range b[:cap(b)] {
		b[:cap(b)][i] = 0x55
	}
}

// samples are transactions of all kinds, valid and invalid, with lists that have no elements, too.
func samples() []api.Tx {
	s := scatter(130)
	list := []api.Tx{known(), small(), {}, {Spends: make([]api.Spend, 2)}, {Coins: make([]api.Coin, 2)}}
	for range 20 {
		list = append(list, s.valid(), s.any())
	}
	return list
}

// P10.3

func TestCallsLeaveTheirArguments(t *testing.T) {
	for _, a := range samples() {
		given, other := spared(a), spared(a)
		want := clone(whole(given))
		tx.Check(given)
		tx.Bytes(given)
		tx.Base(given)
		tx.ID(given)
		tx.Wide(given)
		tx.Weight(given)
		tx.Out(given)
		tx.Point(given, 1)
		tx.Copy(given)
		tx.Same(given, other)
		tx.Same(other, given)
		if !equal(whole(given), want) || !equal(whole(other), want) {
			t.Errorf("the argument %v was changed", a)
		}
	}
}

func TestReadLeavesItsArgument(t *testing.T) {
	for _, a := range samples() {
		for _, behind := range [][]byte{nil, {1}} {
			text := slices.Concat(encode(a, true), behind)
			b := slices.Concat(text, bytes.Repeat([]byte{0xaa}, 50))
			tx.Read(b[:len(text)])
			if !bytes.Equal(b, slices.Concat(text, bytes.Repeat([]byte{0xaa}, 50))) {
				t.Errorf("the argument %x was changed", text)
			}
		}
	}
}

func TestReadKeepsNothingOfItsArgument(t *testing.T) {
	s := scatter(131)
	for range 50 {
		a := s.valid()
		b := encode(a, true)
		got, err := tx.Read(b)
		fill(b)
		if err != nil || !equal(got, a) {
			t.Fatalf("what was read of %v is %v, %v", a, got, err)
		}
	}
}

func TestReadReturnsNewMemory(t *testing.T) {
	s := scatter(132)
	for range 50 {
		a := s.valid()
		b := encode(a, true)
		first, err := tx.Read(b)
		if err != nil {
			t.Fatal(err)
		}
		second, err := tx.Read(b)
		if err != nil {
			t.Fatal(err)
		}
		spoil(first)
		if !equal(second, a) || !bytes.Equal(b, encode(a, true)) {
			t.Fatalf("a change of what was read of %v shows elsewhere", a)
		}
	}
}

func TestCopyIsIndependent(t *testing.T) {
	for _, a := range samples() {
		given := spared(a)
		want := clone(whole(given))
		first, second := tx.Copy(given), tx.Copy(given)
		spoil(first)
		if !equal(second, a) || !equal(whole(given), want) {
			t.Errorf("a change of the copy of %v shows elsewhere", a)
		}
		spoil(given)
		if !equal(second, a) {
			t.Errorf("a change of the argument shows in its copy, %v", a)
		}
	}
}

// What is appended to a copy mustn't be stored behind what was copied.
func TestCopyHasNothingOfTheSpareCapacity(t *testing.T) {
	for _, a := range samples() {
		given := spared(a)
		want := clone(whole(given))
		first := tx.Copy(given)
		first.Spends = append(first.Spends, api.Spend{Key: "more"})
		first.Coins = append(first.Coins, api.Coin{Value: 9})
		if !equal(whole(given), want) {
			t.Errorf("what is appended to the copy of %v shows behind the argument", a)
		}
	}
}

func TestBytesAreNew(t *testing.T) {
	for _, a := range samples() {
		for name, c := range map[string]struct {
			call func(api.Tx) []byte
			want []byte
		}{
			"Bytes": {tx.Bytes, encode(a, true)},
			"Base":  {tx.Base, encode(a, false)},
		} {
			given := spared(a)
			first, second := c.call(given), c.call(given)
			fill(first)
			if !bytes.Equal(second, c.want) || !bytes.Equal(c.call(given), c.want) {
				t.Errorf("a change of a result of %s shows in another one", name)
			}
			spoil(given)
			if !bytes.Equal(second, c.want) {
				t.Errorf("a change of the argument shows in the result of %s", name)
			}
		}
	}
}
