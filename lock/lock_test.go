package lock_test

import (
	"crypto/sha256"
	"encoding/binary"
	"encoding/hex"
	"math"
	"reflect"
	"slices"
	"strings"
	"testing"

	"gossamer/api"
	"gossamer/lock"
)

// scatter makes numbers that look random, and are the same in every run.
type scatter uint64

func (s *scatter) next() uint64 {
	*s = *s*6364136223846793005 + 1442695040888963407
	return uint64(*s >> 33)
}

// word is 64 scattered bits.
func (s *scatter) word() uint64 {
	return s.next()<<33 ^ s.next()
}

// below is a scattered number below n.
func (s *scatter) below(n int) int {
	return int(s.word() % uint64(n))
}

// text is n scattered bytes.
func (s *scatter) text(n int) string {
	b := make([]byte, n)
	for i := range b {
		b[i] = byte(s.next() >> 20)
	}
	return string(b)
}

func (s *scatter) hash() api.Hash {
	return api.Hash([]byte(s.text(32)))
}

// keys are n scattered keys of at most 32 bytes, all different.
func (s *scatter) keys(n int) []string {
	var list []string
	for len(list) < n {
		if key := s.text(s.below(33)); !slices.Contains(list, key) {
			list = append(list, key)
		}
	}
	return list
}

// tx is a scattered transaction with so many spends and coins, whose witnesses are scattered, too.
func (s *scatter) tx(spends, coins int) api.Tx {
	var t api.Tx
	for range spends {
		from := api.Point{Tx: s.hash(), N: s.below(8)}
		t.Spends = append(t.Spends, api.Spend{From: from, Key: s.text(s.below(33)), Seal: s.word()})
	}
	for range coins {
		t.Coins = append(t.Coins, api.Coin{Value: s.below(1000), Lock: s.word()})
	}
	t.Firm = s.below(2) == 1
	return t
}

// first is the first word of SHA-256 of a text.
func first(text string) uint64 {
	sum := sha256.Sum256([]byte(text))
	return binary.BigEndian.Uint64(sum[:])
}

// seal is the seal of a key as the definition says.
func seal(key string, id api.Hash) uint64 {
	return first(key + string(id[:]))
}

// idOf is the id of a transaction with at most 252 spends and coins, as the definitions of layers 8 and 10 say.
func idOf(t api.Tx) api.Hash {
	base := []byte{byte(len(t.Spends))}
	for _, s := range t.Spends {
		base = append(base, s.From.Tx[:]...)
		base = binary.LittleEndian.AppendUint32(base, uint32(s.From.N))
	}
	base = append(base, byte(len(t.Coins)))
	for _, c := range t.Coins {
		base = binary.LittleEndian.AppendUint64(base, uint64(c.Value))
		base = binary.LittleEndian.AppendUint64(base, c.Lock)
	}
	if t.Firm {
		base = append(base, 1)
	} else {
		base = append(base, 0)
	}
	once := sha256.Sum256(base)
	return sha256.Sum256(once[:])
}

// coinsOf are coins that are locked with keys.
func coinsOf(keys ...string) []api.Coin {
	var list []api.Coin
	for i, key := range keys {
		list = append(list, api.Coin{Value: 10 * i, Lock: first(key)})
	}
	return list
}

// signedBy is a transaction with keys, and their seals as the definition says.
func signedBy(t api.Tx, keys ...string) api.Tx {
	t = clone(t)
	id := idOf(t)
	for i, key := range keys {
		t.Spends[i].Key, t.Spends[i].Seal = key, seal(key, id)
	}
	return t
}

// clone is an equal transaction that shares no memory with t.
func clone(t api.Tx) api.Tx {
	var c api.Tx
	c.Spends = append(c.Spends, t.Spends...)
	c.Coins = append(c.Coins, t.Coins...)
	c.Firm = t.Firm
	return c
}

// equal tells whether transactions are equal, a nil list and an empty one alike.
func equal(a, b api.Tx) bool {
	return reflect.DeepEqual(clone(a), clone(b))
}

// rising and falling are digests whose bytes are all different.
func rising() api.Hash {
	var h api.Hash
	for i := range h {
		h[i] = byte(i)
	}
	return h
}

func falling() api.Hash {
	var h api.Hash
	for i := range h {
		h[i] = byte(200 - 3*i)
	}
	return h
}

// known is a transaction no two parts of whose base are alike, without witnesses.
func known() api.Tx {
	return api.Tx{
		Spends: []api.Spend{{From: api.Point{Tx: falling(), N: 2}}, {From: api.Point{Tx: rising(), N: 7}}},
		Coins:  []api.Coin{{Value: 258, Lock: 3}, {Value: 5, Lock: 0xfedcba9876543210}},
		Firm:   true,
	}
}

// P11.1: Lock and Seal

// The words were computed by another program; those of abc and of no key begin published digests.
func TestKnownLocksAndSeals(t *testing.T) {
	for _, c := range []struct {
		key                         string
		lock, zero, rising, falling uint64
	}{
		{"", 0xe3b0c44298fc1c14, 0x66687aadf862bd77, 0x630dcd2966c43366, 0xc68ad3051958a5bb},
		{"a", 0xca978112ca1bbdca, 0xdf2a0ad69436106e, 0xd90c74b9b9ac0a9a, 0xd534ad8aa57c5751},
		{"abc", 0xba7816bf8f01cfea, 0x1b23f860db9bd9ec, 0x24d137d4b7bab1e8, 0x6b35945a3edc5cdb},
		{"key", 0x2c70e12b7a0646f9, 0x6912f6b218e14f89, 0x449672167919d72a, 0xd3174abc041ff76d},
		{"\x00", 0x6e340b9cffb37a98, 0x7f9c9e31ac8256ca, 0x699cacdb4c39d8e0, 0x6d6ff9d6ccf0c5a3},
		{"a\x00", 0xffe9aaeaa2a2d504, 0xa834b58ea6b20b0d, 0xa3524d3b5f6f8e51, 0x344650405bcfc4fe},
		{"\u00e4\u20ac", 0x2fb8a79d88df89f8, 0x8a5cbc97b3950119, 0x5dc046e2577b7bf3, 0xd50b02e4d5a86b3d},
		{"\xff\xfe\xc3", 0x44f52407e2a34bb4, 0xc8c14516966656b5, 0xb0c7fd118f064cf0, 0x3653c2e41949082d},
		{strings.Repeat("k", 31), 0xf5d270b380824345, 0x217112a13083a26f, 0x63bb237eb4838e5a, 0xab66e718ec5c512e},
		{strings.Repeat("k", 32), 0x5e318f8cf9cbe249, 0xb0dd2a3fa1146cf3, 0x0567745c43a54894, 0xb7dbd4345d4643bb},
		{strings.Repeat("k", 33), 0x93e07e21cdea4db1, 0xb9c2502da2185549, 0x4ef7fe786f2fedd3, 0x0dc0684545ca367e},
		{strings.Repeat("k", 64), 0x2519b49bcf69feac, 0xae484c226a1e067e, 0x29c58ab45b1d06bc, 0xd35ad75606e2ae25},
		{strings.Repeat("k", 1000), 0x27fed049cf80e0ef, 0xa4d0efa9c6dc961c, 0x6e8214f3c4ed7c85, 0x9a26868c6c9707b2},
	} {
		if got := lock.Lock(c.key); got != c.lock {
			t.Errorf("the lock of %q is %x, want %x", c.key, got, c.lock)
		}
		for h, want := range map[api.Hash]uint64{{}: c.zero, rising(): c.rising, falling(): c.falling} {
			if got := lock.Seal(c.key, h); got != want {
				t.Errorf("the seal of %q for %x is %x, want %x", c.key, h, got, want)
			}
		}
	}
}

func TestLocksAndSealsOfAllLengths(t *testing.T) {
	s := scatter(201)
	for n := range 300 {
		key, h := s.text(n), s.hash()
		if got, want := lock.Lock(key), first(key); got != want {
			t.Errorf("the lock of %x is %x, want %x", key, got, want)
		}
		if got, want := lock.Seal(key, h), seal(key, h); got != want {
			t.Errorf("the seal of %x for %x is %x, want %x", key, h, got, want)
		}
	}
	key, h := s.text(1<<20), s.hash()
	if lock.Lock(key) != first(key) || lock.Seal(key, h) != seal(key, h) {
		t.Error("the lock or the seal of a key of a million bytes is wrong")
	}
}

// Every byte of the key and of the id counts.
func TestEveryByteCounts(t *testing.T) {
	s := scatter(202)
	key, h := s.text(40), s.hash()
	ownLock, ownSeal := lock.Lock(key), lock.Seal(key, h)
	for i := range key {
		changed := []byte(key)
		changed[i] ^= 0x10
		if lock.Lock(string(changed)) == ownLock || lock.Seal(string(changed), h) == ownSeal {
			t.Errorf("byte %d of the key doesn't count", i)
		}
	}
	for i := range h {
		changed := h
		changed[i] ^= 0x10
		if lock.Seal(key, changed) == ownSeal {
			t.Errorf("byte %d of the id doesn't count", i)
		}
	}
}

// P11.1: Opens

func opensIs(t *testing.T, name string, s api.Spend, c api.Coin, h api.Hash, want bool) {
	t.Helper()
	if got := lock.Opens(s, c, h); got != want {
		t.Errorf("with %s, Opens is %v", name, got)
	}
}

func TestOpens(t *testing.T) {
	r := scatter(203)
	for i := range 100 {
		key, other, h := r.text(i), r.text(i+1), r.hash()
		s, c := api.Spend{Key: key, Seal: seal(key, h)}, api.Coin{Lock: first(key)}
		opensIs(t, "the key and its seal", s, c, h, true)
		opensIs(t, "another coin", s, api.Coin{Lock: first(other)}, h, false)
		opensIs(t, "another id", s, c, r.hash(), false)
		opensIs(t, "no id", s, c, api.Hash{}, false)
		opensIs(t, "another key and its own seal", api.Spend{Key: other, Seal: seal(other, h)}, c, h, false)
		opensIs(t, "another key and the same seal", api.Spend{Key: other, Seal: s.Seal}, c, h, false)
		opensIs(t, "the seal of another key", api.Spend{Key: key, Seal: seal(other, h)}, c, h, false)
		opensIs(t, "the seal of another key, and its coin", api.Spend{Key: key, Seal: seal(other, h)}, api.Coin{Lock: first(other)}, h, false)
		opensIs(t, "the lock as seal", api.Spend{Key: key, Seal: first(key)}, c, h, false)
		opensIs(t, "the seal as lock", s, api.Coin{Lock: s.Seal}, h, false)
		opensIs(t, "lock and seal changed for one another", api.Spend{Key: key, Seal: c.Lock}, api.Coin{Lock: s.Seal}, h, false)
		opensIs(t, "the id ahead of the key", api.Spend{Key: key, Seal: first(string(h[:]) + key)}, c, h, key == "")
		opensIs(t, "no seal", api.Spend{Key: key}, c, h, false)
		opensIs(t, "no lock", s, api.Coin{}, h, false)
		opensIs(t, "neither lock nor seal", api.Spend{Key: key}, api.Coin{}, h, false)
		opensIs(t, "no key", api.Spend{Seal: s.Seal}, c, h, key == "")
	}
	opensIs(t, "nothing", api.Spend{}, api.Coin{}, api.Hash{}, false)
}

func TestOpensTellsEveryBit(t *testing.T) {
	s, c, h := api.Spend{Key: "key", Seal: seal("key", rising())}, api.Coin{Lock: first("key")}, rising()
	for bit := range 64 {
		opensIs(t, "a changed bit of the seal", api.Spend{Key: "key", Seal: s.Seal ^ 1<<bit}, c, h, false)
		opensIs(t, "a changed bit of the lock", s, api.Coin{Lock: c.Lock ^ 1<<bit}, h, false)
		opensIs(t, "a changed bit of both", api.Spend{Key: "key", Seal: s.Seal ^ 1<<bit}, api.Coin{Lock: c.Lock ^ 1<<bit}, h, false)
	}
	for bit := range 256 {
		changed := h
		changed[bit/8] ^= 1 << (bit % 8)
		opensIs(t, "a changed bit of the id", s, c, changed, false)
	}
}

// Neither the point that is spent nor the coin's value counts, whether they are valid or not.
func TestOpensLooksAtNothingElse(t *testing.T) {
	for _, n := range []int{math.MinInt, -1, 0, 1, 7, 8, 1 << 32, math.MaxInt} {
		from := api.Point{Tx: falling(), N: n}
		for _, key := range []string{"", "key", strings.Repeat("k", 33)} {
			s, c := api.Spend{From: from, Key: key, Seal: seal(key, rising())}, api.Coin{Value: n, Lock: first(key)}
			opensIs(t, "another point and value", s, c, rising(), true)
			s.Seal++
			opensIs(t, "another point and value, and a wrong seal", s, c, rising(), false)
		}
	}
}

// P11.1: the chapter's example

func TestExample(t *testing.T) {
	h := rising()
	s := api.Spend{Key: "a", Seal: lock.Seal("a", h)}
	opensIs(t, "the key a and its seal", s, api.Coin{Lock: lock.Lock("a")}, h, true)
	opensIs(t, "the lock of b", s, api.Coin{Lock: lock.Lock("b")}, h, false)
}

// The tests' own ids must be right for what they say to hold: this one was computed by another program.
func TestKnownID(t *testing.T) {
	got, want := idOf(known()), "05b36f18256b649f1fd2b33eb0300a45889f251f2c1d9a5372fee9af1a683d34"
	if hex.EncodeToString(got[:]) != want {
		t.Errorf("the id is %x, want %s", got, want)
	}
}
