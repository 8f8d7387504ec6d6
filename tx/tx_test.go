package tx_test

import (
	"bytes"
	"crypto/sha256"
	"encoding/hex"
	"math"
	"reflect"
	"slices"
	"strings"
	"testing"

	"gossamer/api"
	"gossamer/tx"
)

// money is the greatest amount: 21 million coins of 100 million units each.
const money = 21_000_000 * 100_000_000

// scatter makes numbers that look random, and are the same in every run.
type scatter uint64

func (s *scatter) next() uint64 {
	*s = *s*6364136223846793005 + 1442695040888963407
	return uint64(*s >> 33)
}

// word is 64 scattered bits.
func (s *scatter) word() uint64 {
	return s.next()<<33 ^ s.next()
}

// below is a scattered number below n.
func (s *scatter) below(n int) int {
	return int(s.word() % uint64(n))
}

// bytes is n scattered bytes.
func (s *scatter) bytes(n int) []byte {
	b := make([]byte, n)
	for i := range b {
		b[i] = byte(s.next() >> 20)
	}
	return b
}

func (s *scatter) hash() api.Hash {
	return api.Hash(s.bytes(32))
}

// number is a scattered number of either sign, small ones no less often than great ones.
func (s *scatter) number() int {
	return int(s.word()) >> s.below(64)
}

// valid is a scattered valid transaction. No two of its digests are alike, so that no two spends spend the same point.
func (s *scatter) valid() api.Tx {
	var t api.Tx
	for range 1 + s.below(8) {
		from := api.Point{Tx: s.hash(), N: s.below(8)}
		t.Spends = append(t.Spends, api.Spend{From: from, Key: string(s.bytes(s.below(33))), Seal: s.word()})
	}
	for range 1 + s.below(8) {
		t.Coins = append(t.Coins, api.Coin{Value: s.below(money/8 + 1), Lock: s.word()})
	}
	t.Firm = s.below(2) == 1
	return t
}

// any is a scattered transaction that need not be valid.
func (s *scatter) any() api.Tx {
	var t api.Tx
	for range s.below(12) {
		from := api.Point{Tx: s.hash(), N: s.number()}
		t.Spends = append(t.Spends, api.Spend{From: from, Key: string(s.bytes(s.below(300))), Seal: s.word()})
	}
	for range s.below(12) {
		t.Coins = append(t.Coins, api.Coin{Value: s.number(), Lock: s.word()})
	}
	t.Firm = s.below(2) == 1
	return t
}

// integer is the bytes of n as an integer of a size, as the definition of layer 8 says.
func integer(n uint64, size int) []byte {
	var b []byte
	for range size {
		b = append(b, byte(n%256))
		n /= 256
	}
	return b
}

// count is the bytes of a count below 2^32, as the definition of layer 8 says.
func count(n int) []byte {
	switch {
	case n <= 252:
		return []byte{byte(n)}
	case n <= 65535:
		return append([]byte{0xfd}, integer(uint64(n), 2)...)
	}
	return append([]byte{0xfe}, integer(uint64(n), 4)...)
}

// encode is the bytes of a transaction as the definition says, with its witnesses or without.
func encode(t api.Tx, witnesses bool) []byte {
	b := count(len(t.Spends))
	for _, s := range t.Spends {
		b = append(b, s.From.Tx[:]...)
		b = append(b, integer(uint64(s.From.N), 4)...)
		if witnesses {
			b = append(b, count(len(s.Key))...)
			b = append(b, s.Key...)
			b = append(b, integer(s.Seal, 8)...)
		}
	}
	b = append(b, count(len(t.Coins))...)
	for _, c := range t.Coins {
		b = append(b, integer(uint64(c.Value), 8)...)
		b = append(b, integer(c.Lock, 8)...)
	}
	if t.Firm {
		return append(b, 1)
	}
	return append(b, 0)
}

func double(b []byte) api.Hash {
	once := sha256.Sum256(b)
	return sha256.Sum256(once[:])
}

func fromHex(t *testing.T, s string) []byte {
	t.Helper()
	b, err := hex.DecodeString(s)
	if err != nil {
		t.Fatal(err)
	}
	return b
}

// clone is an equal transaction that shares no memory with t.
func clone(t api.Tx) api.Tx {
	var c api.Tx
	c.Spends = append(c.Spends, t.Spends...)
	c.Coins = append(c.Coins, t.Coins...)
	c.Firm = t.Firm
	return c
}

// equal tells whether transactions are equal, a nil list and an empty one alike.
func equal(a, b api.Tx) bool {
	return reflect.DeepEqual(clone(a), clone(b))
}

// known is a valid transaction no two parts of whose encoding are alike.
func known() api.Tx {
	var falling, rising api.Hash
	for i := range falling {
		falling[i], rising[i] = byte(200-3*i), byte(i)
	}
	return api.Tx{
		Spends: []api.Spend{
			{From: api.Point{Tx: falling, N: 2}, Key: "key", Seal: 0x8192a3b4c5d6e7f8},
			{From: api.Point{Tx: rising, N: 7}, Seal: 1},
		},
		Coins: []api.Coin{{Value: 0x0006f5e4d3c2b1a0, Lock: 0xfedcba9876543210}, {}, {Value: 258, Lock: 3}},
		Firm:  true,
	}
}

// small is the transaction of the chapter's example: one spend without a key, and one coin.
func small() api.Tx {
	return api.Tx{Spends: make([]api.Spend, 1), Coins: make([]api.Coin, 1)}
}

// checkAll tests all that hangs on a transaction's encoding against the definitions.
func checkAll(t *testing.T, a api.Tx) {
	t.Helper()
	base, whole := encode(a, false), encode(a, true)
	if got := tx.Bytes(a); !bytes.Equal(got, whole) {
		t.Errorf("the encoding is %x, want %x", got, whole)
	}
	if got := tx.Base(a); !bytes.Equal(got, base) {
		t.Errorf("the base is %x, want %x", got, base)
	}
	if got := tx.ID(a); got != double(base) {
		t.Errorf("the id is %x, want %x", got, double(base))
	}
	if got := tx.Wide(a); got != double(whole) {
		t.Errorf("the wide id is %x, want %x", got, double(whole))
	}
	if got, want := tx.Weight(a), 3*len(base)+len(whole); got != want {
		t.Errorf("the weight is %d, want %d", got, want)
	}
}

// P10.1: encodings, ids and weights

func TestExample(t *testing.T) {
	a := small()
	if base, whole, weight := len(tx.Base(a)), len(tx.Bytes(a)), tx.Weight(a); base != 55 || whole != 64 || weight != 229 {
		t.Errorf("the base has %d bytes, the encoding %d, and the weight is %d", base, whole, weight)
	}
}

// The bytes and the ids were computed by another program, with another SHA-256.
func TestKnownEncodings(t *testing.T) {
	const (
		firstPoint  = "c8c5c2bfbcb9b6b3b0adaaa7a4a19e9b9895928f8c898683807d7a7774716e6b" + "02000000"
		secondPoint = "000102030405060708090a0b0c0d0e0f101112131415161718191a1b1c1d1e1f" + "07000000"
		coins       = "03" + "a0b1c2d3e4f50600" + "1032547698badcfe" + "00000000000000000000000000000000" + "0201000000000000" + "0300000000000000"
	)
	for _, c := range []struct {
		tx                    api.Tx
		whole, base, wide, id string
		weight                int
	}{
		{
			known(),
			"02" + firstPoint + "036b6579" + "f8e7d6c5b4a39281" + secondPoint + "00" + "0100000000000000" + coins + "01",
			"02" + firstPoint + secondPoint + coins + "01",
			"a335ca260085e87c42e080015086f2483f6f6a1c77cc5ff4edd3e7490d6dab54",
			"345596d64ca9b74702ad92fe7a0cf9a2ff90403edee835cc3c0aa923f13df733",
			513,
		},
		{
			small(),
			"01" + strings.Repeat("00", 36) + "00" + strings.Repeat("00", 8) + "01" + strings.Repeat("00", 16) + "00",
			"01" + strings.Repeat("00", 36) + "01" + strings.Repeat("00", 16) + "00",
			"2c8b6a3aa7463bc021ffec3d1932396c45ebd5d46ce2dcc945fbe8b2f96937e7",
			"53372568c8fe4b658a5a808396032293b1465d640242cdf83681058ba46e15b1",
			229,
		},
		{
			api.Tx{},
			"000000", "000000",
			"78e437f627019fc270bbe9ed309291d0a5f6bf98bfae0f750538ba56646f7327",
			"78e437f627019fc270bbe9ed309291d0a5f6bf98bfae0f750538ba56646f7327",
			12,
		},
	} {
		if got := tx.Bytes(c.tx); !bytes.Equal(got, fromHex(t, c.whole)) {
			t.Errorf("the encoding is %x, want %s", got, c.whole)
		}
		if got := tx.Base(c.tx); !bytes.Equal(got, fromHex(t, c.base)) {
			t.Errorf("the base is %x, want %s", got, c.base)
		}
		if got := tx.Wide(c.tx); got != api.Hash(fromHex(t, c.wide)) {
			t.Errorf("the wide id is %x, want %s", got, c.wide)
		}
		if got := tx.ID(c.tx); got != api.Hash(fromHex(t, c.id)) {
			t.Errorf("the id is %x, want %s", got, c.id)
		}
		if got := tx.Weight(c.tx); got != c.weight {
			t.Errorf("the weight is %d, want %d", got, c.weight)
		}
		checkAll(t, c.tx)
	}
}

func TestScatteredEncodings(t *testing.T) {
	s := scatter(101)
	for range 300 {
		checkAll(t, s.valid())
		checkAll(t, s.any())
	}
}

// Encodings exist beyond the limits, too; there, counts take more than one byte.
func TestEncodingsBeyondTheLimits(t *testing.T) {
	s := scatter(102)
	for _, n := range []int{8, 9, 252, 253, 254, 255, 256, 300, 65535, 65536} {
		a := api.Tx{Spends: make([]api.Spend, n), Coins: make([]api.Coin, 1)}
		a.Spends[n-1].From.N = 7
		checkAll(t, a)
		a = api.Tx{Spends: make([]api.Spend, 1), Coins: make([]api.Coin, n)}
		a.Coins[n-1].Value = 7
		checkAll(t, a)
		a = small()
		a.Spends[0].Key = string(s.bytes(n))
		checkAll(t, a)
	}
}

func TestWideNumbersAreLowBytes(t *testing.T) {
	for _, c := range []struct {
		n         int
		low, full string
	}{
		{1<<32 - 1, "ffffffff", "ffffffff00000000"},
		{1 << 32, "00000000", "0000000001000000"},
		{1<<32 + 5, "05000000", "0500000001000000"},
		{1<<40 + 0x01020304, "04030201", "0403020100010000"},
		{-1, "ffffffff", "ffffffffffffffff"},
		{-2, "feffffff", "feffffffffffffff"},
		{math.MinInt, "00000000", "0000000000000080"},
		{math.MinInt + 7, "07000000", "0700000000000080"},
		{math.MaxInt, "ffffffff", "ffffffffffffff7f"},
	} {
		a := small()
		a.Spends[0].From.N, a.Coins[0].Value = c.n, c.n
		want := "01" + strings.Repeat("00", 32) + c.low + "01" + c.full + strings.Repeat("00", 8) + "00"
		if got := tx.Base(a); !bytes.Equal(got, fromHex(t, want)) {
			t.Errorf("with the number %d, the base is %x, want %s", c.n, got, want)
		}
		want = strings.Replace(want, c.low+"01", c.low+strings.Repeat("00", 9)+"01", 1)
		if got := tx.Bytes(a); !bytes.Equal(got, fromHex(t, want)) {
			t.Errorf("with the number %d, the encoding is %x, want %s", c.n, got, want)
		}
		checkAll(t, a)
	}
}

// The order of spends and coins, and where a key ends, are part of what is encoded.
func TestEncodingTellsOrderAndKeysApart(t *testing.T) {
	a := known()
	slices.Reverse(a.Spends)
	checkAll(t, a)
	if tx.ID(a) == tx.ID(known()) {
		t.Error("the order of the spends doesn't change the id")
	}
	a = known()
	slices.Reverse(a.Coins)
	checkAll(t, a)
	if tx.ID(a) == tx.ID(known()) {
		t.Error("the order of the coins doesn't change the id")
	}
	for _, key := range []string{"", "a", "a\x00", "\x00a", "\u00e4\u20ac", "\xff\xfe\xc3", strings.Repeat("\x00", 32)} {
		a = known()
		a.Spends[1].Key = key
		checkAll(t, a)
	}
}

// P10.1: Out and Point

func TestOut(t *testing.T) {
	for _, c := range []struct {
		values []int
		want   int
		err    error
	}{
		{nil, 0, nil},
		{[]int{0}, 0, nil},
		{[]int{1, 2, 4}, 7, nil},
		{[]int{money}, money, nil},
		{[]int{money - 6, 1, 2, 3}, money, nil},
		{[]int{money, 0, 0, 0, 0, 0, 0, 0, 0, 0}, money, nil},
		{[]int{money + 1}, 0, api.ErrValue},
		{[]int{money, 1}, 0, api.ErrValue},
		{[]int{1, money}, 0, api.ErrValue},
		{[]int{money - 6, 1, 2, 4}, 0, api.ErrValue},
		{[]int{-1}, 0, api.ErrValue},
		{[]int{5, -1}, 0, api.ErrValue},
		{[]int{-1, 5}, 0, api.ErrValue},
		{[]int{money + 1, -1}, 0, api.ErrValue},
		{[]int{math.MaxInt, math.MaxInt, 2}, 0, api.ErrValue},
		{[]int{math.MinInt, math.MinInt}, 0, api.ErrValue},
		{[]int{math.MinInt, math.MaxInt, 1}, 0, api.ErrValue},
	} {
		var a api.Tx
		for i, value := range c.values {
			a.Coins = append(a.Coins, api.Coin{Value: value, Lock: uint64(i) + 100})
		}
		if got, err := tx.Out(a); got != c.want || err != c.err {
			t.Errorf("Out of coins of %v is %d, %v; want %d, %v", c.values, got, err, c.want, c.err)
		}
		a.Spends = make([]api.Spend, 9)
		if got, err := tx.Out(a); got != c.want || err != c.err {
			t.Errorf("with spends, Out of coins of %v is %d, %v; want %d, %v", c.values, got, err, c.want, c.err)
		}
	}
}

func TestOutOfManyCoins(t *testing.T) {
	// These wrap around to a small amount if they aren't checked on the way.
	a := api.Tx{Coins: slices.Repeat([]api.Coin{{Value: money}}, 10000)}
	if got, err := tx.Out(a); got != 0 || err != api.ErrValue {
		t.Errorf("Out is %d, %v", got, err)
	}
	a = api.Tx{Coins: slices.Repeat([]api.Coin{{Value: 3}}, 10000)}
	if got, err := tx.Out(a); got != 30000 || err != nil {
		t.Errorf("Out is %d, %v", got, err)
	}
}

func TestPoint(t *testing.T) {
	for _, a := range []api.Tx{known(), small(), {}} {
		id := double(encode(a, false))
		for _, n := range []int{math.MinInt, -1, 0, 1, 3, 7, 8, 1 << 32, math.MaxInt} {
			if got := tx.Point(a, n); got != (api.Point{Tx: id, N: n}) {
				t.Errorf("the point %d is %v, want the id %x", n, got, id)
			}
		}
	}
}

// P10.1: Same and Copy

// change is a way to change the known transaction; witness is whether it changes witnesses alone.
type change struct {
	name    string
	apply   func(a *api.Tx)
	witness bool
}

func changes() []change {
	return []change{
		{"the first byte of a point's digest", func(a *api.Tx) { a.Spends[0].From.Tx[0]++ }, false},
		{"the last byte of a point's digest", func(a *api.Tx) { a.Spends[1].From.Tx[31]++ }, false},
		{"the number of a point", func(a *api.Tx) { a.Spends[0].From.N++ }, false},
		{"a key", func(a *api.Tx) { a.Spends[0].Key = "kex" }, true},
		{"a key's length", func(a *api.Tx) { a.Spends[0].Key += "\x00" }, true},
		{"an empty key", func(a *api.Tx) { a.Spends[1].Key = "\x00" }, true},
		{"a key that is taken away", func(a *api.Tx) { a.Spends[0].Key = "" }, true},
		{"the low byte of a seal", func(a *api.Tx) { a.Spends[0].Seal ^= 1 }, true},
		{"the high byte of a seal", func(a *api.Tx) { a.Spends[1].Seal ^= 1 << 63 }, true},
		{"the witnesses, changed for one another", func(a *api.Tx) {
			x, y := &a.Spends[0], &a.Spends[1]
			x.Key, y.Key, x.Seal, y.Seal = y.Key, x.Key, y.Seal, x.Seal
		}, true},
		{"the low byte of a value", func(a *api.Tx) { a.Coins[0].Value++ }, false},
		{"the high byte of a value", func(a *api.Tx) { a.Coins[2].Value ^= math.MinInt }, false},
		{"the low byte of a lock", func(a *api.Tx) { a.Coins[1].Lock ^= 1 }, false},
		{"the high byte of a lock", func(a *api.Tx) { a.Coins[2].Lock ^= 1 << 63 }, false},
		{"the flag", func(a *api.Tx) { a.Firm = !a.Firm }, false},
		{"a spend more", func(a *api.Tx) { a.Spends = append(a.Spends, api.Spend{}) }, false},
		{"a spend less", func(a *api.Tx) { a.Spends = a.Spends[:1] }, false},
		{"no spends", func(a *api.Tx) { a.Spends = nil }, false},
		{"a coin more", func(a *api.Tx) { a.Coins = append(a.Coins, api.Coin{}) }, false},
		{"a coin less", func(a *api.Tx) { a.Coins = a.Coins[:2] }, false},
		{"no coins", func(a *api.Tx) { a.Coins = nil }, false},
		{"the order of the spends", func(a *api.Tx) { slices.Reverse(a.Spends) }, false},
		{"the order of the coins", func(a *api.Tx) { slices.Reverse(a.Coins) }, false},
	}
}

func TestSame(t *testing.T) {
	all := []api.Tx{known(), small(), {}, {Firm: true}, {Spends: make([]api.Spend, 1)}, {Coins: make([]api.Coin, 1)}}
	for _, c := range changes() {
		a := known()
		c.apply(&a)
		all = append(all, a)
	}
	for i, a := range all {
		for j, b := range all {
			if got := tx.Same(a, clone(b)); got != (i == j) {
				t.Errorf("Same of %v and %v is %v", a, b, got)
			}
		}
	}
}

// All that an encoding has only the low bytes of must be the same, too.
func TestSameOfWideNumbers(t *testing.T) {
	a, b := small(), small()
	b.Spends[0].From.N = 1 << 32
	if tx.Same(a, b) || tx.Same(b, a) {
		t.Error("numbers of points with the same low bytes are the same")
	}
}

func TestSameOfNilAndEmpty(t *testing.T) {
	none, empty := api.Tx{}, api.Tx{Spends: []api.Spend{}, Coins: []api.Coin{}}
	if !tx.Same(none, empty) || !tx.Same(empty, none) || !tx.Same(none, none) || !tx.Same(empty, empty) {
		t.Error("a nil list and an empty one aren't the same")
	}
}

func TestCopy(t *testing.T) {
	s := scatter(103)
	for range 200 {
		for _, a := range []api.Tx{s.valid(), s.any()} {
			if got := tx.Copy(a); !equal(got, a) {
				t.Fatalf("the copy of %v is %v", a, got)
			}
		}
	}
	for _, a := range []api.Tx{{}, {Firm: true}, {Spends: []api.Spend{}, Coins: []api.Coin{}}, small(), known()} {
		if got := tx.Copy(a); !equal(got, a) {
			t.Errorf("the copy of %v is %v", a, got)
		}
	}
}

// P10.2: witnesses

func TestWitnessChangesTheWideIDAlone(t *testing.T) {
	for _, c := range changes() {
		a := known()
		c.apply(&a)
		if tx.Wide(a) == tx.Wide(known()) {
			t.Errorf("%s doesn't change the wide id", c.name)
		}
		if same := tx.ID(a) == tx.ID(known()); same != c.witness {
			t.Errorf("with %s, that the id is the same is %v", c.name, same)
		}
		if same := tx.Point(a, 1) == tx.Point(known(), 1); same != c.witness {
			t.Errorf("with %s, that the points are the same is %v", c.name, same)
		}
	}
	s := scatter(104)
	for range 300 {
		a := s.valid()
		b := clone(a)
		spend := &b.Spends[s.below(len(b.Spends))]
		if s.below(2) == 0 {
			spend.Seal ^= 1 << s.below(64)
		} else {
			spend.Key = string(s.bytes(s.below(33)))
		}
		if equal(a, b) {
			continue
		}
		if tx.ID(a) != tx.ID(b) || tx.Wide(a) == tx.Wide(b) || !bytes.Equal(tx.Base(a), tx.Base(b)) {
			t.Fatalf("the ids of %v and %v, which differ in a witness, are %x and %x", a, b, tx.ID(a), tx.ID(b))
		}
	}
}
