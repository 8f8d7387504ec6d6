package tx_test

import (
	"bytes"
	"math"
	"slices"
	"strings"
	"testing"

	"gossamer/api"
	"gossamer/tx"
)

// legible tells whether Read must return a transaction when it is given its encoding.
func legible(a api.Tx) bool {
	if len(a.Spends) > 8 || len(a.Coins) > 8 {
		return false
	}
	for _, s := range a.Spends {
		if len(s.Key) > 32 || s.From.N < 0 || s.From.N > 7 {
			return false
		}
	}
	for _, c := range a.Coins {
		if c.Value < 0 || c.Value > money {
			return false
		}
	}
	return true
}

// cut takes an integer of a size from the front of b; it panics if too few bytes are left.
func cut(b *[]byte, size int) uint64 {
	var n uint64
	for k := range size {
		n += uint64((*b)[k]) << (8 * k)
	}
	*b = (*b)[size:]
	return n
}

// parse cuts a transaction from b as its counts of one byte say. It panics if too few bytes are left.
func parse(b []byte) api.Tx {
	var a api.Tx
	for range cut(&b, 1) {
		s := api.Spend{From: api.Point{Tx: api.Hash(b[:32])}}
		b = b[32:]
		s.From.N = int(cut(&b, 4))
		length := cut(&b, 1)
		s.Key = string(b[:length])
		b = b[length:]
		s.Seal = cut(&b, 8)
		a.Spends = append(a.Spends, s)
	}
	for range cut(&b, 1) {
		a.Coins = append(a.Coins, api.Coin{Value: int(cut(&b, 8)), Lock: cut(&b, 8)})
	}
	a.Firm = cut(&b, 1) == 1
	return a
}

// decode is the transaction that Read must return, if any: the one within the limits whose encoding is b.
func decode(b []byte) (a api.Tx, ok bool) {
	defer func() {
		if recover() != nil {
			a, ok = api.Tx{}, false
		}
	}()
	a = parse(b)
	if !legible(a) || !bytes.Equal(encode(a, true), b) {
		return api.Tx{}, false
	}
	return a, true
}

// checkRead tests Read against decode, and reports whether b could be read.
func checkRead(t *testing.T, b []byte) bool {
	t.Helper()
	want, ok := decode(b)
	if !ok {
		refused(t, b)
		return false
	}
	accepted(t, b, want)
	return true
}

func accepted(t *testing.T, b []byte, want api.Tx) {
	t.Helper()
	got, err := tx.Read(b)
	if err != nil || !equal(got, want) {
		t.Fatalf("Read of %x is %v, %v; want %v", b, got, err, want)
	}
	if again := tx.Bytes(got); !bytes.Equal(again, b) {
		t.Fatalf("what was read from %x has the bytes %x", b, again)
	}
}

func refused(t *testing.T, b []byte) {
	t.Helper()
	if got, err := tx.Read(b); err != api.ErrForm || !equal(got, api.Tx{}) {
		t.Fatalf("Read of %x is %v, %v", b, got, err)
	}
}

// P10.1 and P10.2: Read

func TestReadOfKnownBytes(t *testing.T) {
	for _, c := range []struct {
		b    []byte
		want api.Tx
	}{
		{[]byte{0, 0, 0}, api.Tx{}},
		{[]byte{0, 0, 1}, api.Tx{Firm: true}},
		{slices.Concat([]byte{1}, make([]byte, 45), []byte{0, 0}), api.Tx{Spends: make([]api.Spend, 1)}},
		{slices.Concat([]byte{0, 1}, make([]byte, 17)), api.Tx{Coins: make([]api.Coin, 1)}},
		{slices.Concat([]byte{1}, make([]byte, 45), []byte{1}, make([]byte, 17)), small()},
		{encode(known(), true), known()},
	} {
		accepted(t, c.b, c.want)
	}
	for _, b := range [][]byte{nil, {}, {0}, {1}, {0, 0}, {0, 1}, {0, 0, 2}, {0, 0, 0, 0}, {0, 0, 1, 0}, {0, 0, 0xfd}} {
		refused(t, b)
	}
}

func TestReadOfValid(t *testing.T) {
	s := scatter(120)
	for range 1000 {
		a := s.valid()
		if err := tx.Check(a); err != nil {
			t.Fatal(err)
		}
		accepted(t, tx.Bytes(a), a)
	}
}

// Read doesn't ask for all that Check asks for.
func TestReadOfInvalid(t *testing.T) {
	a := known()
	a.Spends = append(a.Spends, a.Spends...)
	accepted(t, encode(a, true), a)
	a = known()
	a.Coins = slices.Repeat([]api.Coin{{Value: money}}, 8)
	accepted(t, encode(a, true), a)
	a.Spends = nil
	accepted(t, encode(a, true), a)
	a = known()
	a.Coins = nil
	accepted(t, encode(a, true), a)
}

func TestReadAtTheLimits(t *testing.T) {
	for n := range 300 {
		a := api.Tx{Spends: others(n), Coins: make([]api.Coin, 1)}
		if checkRead(t, encode(a, true)) != (n <= 8) {
			t.Errorf("%d spends aren't decoded as they should be", n)
		}
		a = api.Tx{Spends: others(1), Coins: make([]api.Coin, n)}
		if checkRead(t, encode(a, true)) != (n <= 8) {
			t.Errorf("%d coins aren't decoded as they should be", n)
		}
		a = known()
		a.Spends[n%2].Key = strings.Repeat("k", n)
		if b := encode(a, true); n <= 32 {
			accepted(t, b, a)
		} else {
			refused(t, b)
		}
	}
}

// In the chapter's example, a point's number is behind its digest, and a value behind the count of coins.
func TestReadOfNumbers(t *testing.T) {
	for _, n := range []uint64{0, 1, 6, 7, 8, 9, 255, 256, 263, 1 << 16, 1 << 24, 1<<31 - 1, 1 << 31, 1<<31 + 7, 1<<32 - 8, 1<<32 - 1} {
		b := encode(small(), true)
		copy(b[33:], integer(n, 4))
		if n > 7 {
			refused(t, b)
			continue
		}
		want := small()
		want.Spends[0].From.N = int(n)
		accepted(t, b, want)
	}
	for _, n := range []uint64{0, 1, money - 1, money, money + 1, 1 << 51, 1 << 62, 1<<63 - 1, 1 << 63, 1<<63 + 1, 1<<63 + money, math.MaxUint64 - money, math.MaxUint64} {
		b := encode(small(), true)
		copy(b[47:], integer(n, 8))
		if n > money {
			refused(t, b)
			continue
		}
		want := small()
		want.Coins[0].Value = int(n)
		accepted(t, b, want)
	}
	for _, n := range []uint64{0, 1, 1<<63 - 1, 1 << 63, math.MaxUint64} {
		b := encode(small(), true)
		copy(b[38:], integer(n, 8))
		copy(b[55:], integer(n, 8))
		want := small()
		want.Spends[0].Seal, want.Coins[0].Lock = n, n
		accepted(t, b, want)
	}
}

// A fault must be found in whichever spend or coin it is.
func TestReadOfFaultsInEveryPlace(t *testing.T) {
	for i := range 8 {
		a := api.Tx{Spends: others(8), Coins: make([]api.Coin, 8)}
		accepted(t, encode(a, true), a)
		a.Spends[i].From.N = 8
		refused(t, encode(a, true))
		a.Spends[i].From.N = 7
		a.Spends[i].Key = strings.Repeat("k", 33)
		refused(t, encode(a, true))
		a.Spends[i].Key = strings.Repeat("k", 32)
		accepted(t, encode(a, true), a)
		a.Coins[i].Value = money + 1
		refused(t, encode(a, true))
		a.Coins[i].Value = -1
		refused(t, encode(a, true))
		a.Coins[i].Value = money
		accepted(t, encode(a, true), a)
	}
}

func TestReadOfTheFlag(t *testing.T) {
	for n := range 256 {
		a := known()
		a.Firm = n == 1
		b := encode(a, true)
		b[len(b)-1] = byte(n)
		if n > 1 {
			refused(t, b)
			continue
		}
		accepted(t, b, a)
	}
}

// Counts and lengths that would be right, but aren't in their shortest form.
func TestReadOfLongForms(t *testing.T) {
	b := encode(small(), true)
	for _, place := range []int{0, 37, 46} {
		for lead, size := range map[byte]int{0xfd: 2, 0xfe: 4, 0xff: 8} {
			long := slices.Concat(b[:place], []byte{lead}, integer(uint64(b[place]), size), b[place+1:])
			refused(t, long)
		}
	}
}

func TestReadOfPartsAndMore(t *testing.T) {
	s := scatter(121)
	for _, a := range []api.Tx{known(), small(), {}, {Firm: true}, s.valid(), s.valid(), s.valid()} {
		b := encode(a, true)
		for n := range b {
			checkRead(t, b[:n])
			checkRead(t, b[n+1:])
		}
		for _, more := range [][]byte{{0}, {1}, make([]byte, 32), b} {
			refused(t, slices.Concat(b, more))
		}
	}
}

// Every byte of an encoding is changed: what is read then has the changed bytes, or there is an error.
func TestReadOfChangedBytes(t *testing.T) {
	s := scatter(122)
	read, all := 0, 0
	for _, a := range []api.Tx{known(), small(), {}, s.valid(), s.valid()} {
		for place := range encode(a, true) {
			for range 12 {
				b := encode(a, true)
				b[place] ^= 1 << s.below(8)
				if s.below(3) == 0 {
					b[s.below(len(b))] = byte(s.below(10))
				}
				all++
				if checkRead(t, b) {
					read++
				}
			}
		}
	}
	if read < all/4 || read > all*9/10 {
		t.Errorf("of %d changed encodings, %d are read", all, read)
	}
}

func TestReadOfAnything(t *testing.T) {
	s := scatter(123)
	for range 3000 {
		checkRead(t, s.bytes(s.below(200)))
		checkRead(t, encode(s.any(), true))
		checkRead(t, encode(s.any(), false))
		checkRead(t, slices.Concat([]byte{byte(s.below(9))}, s.bytes(s.below(600))))
	}
	for n := range 600 {
		checkRead(t, bytes.Repeat([]byte{0}, n))
		checkRead(t, bytes.Repeat([]byte{1}, n))
		checkRead(t, bytes.Repeat([]byte{0xff}, n))
	}
}
