package sip_test

import (
	"math"
	"slices"
	"testing"

	"gossamer/api"
	"gossamer/sip"
)

// published is the salt of SipHash's published test vectors.
var published = sip.Salt{K0: 0x0706050403020100, K1: 0x0f0e0d0c0b0a0908}

// scatter makes numbers that look random, and are the same in every run.
type scatter uint64

func (s *scatter) next() uint64 {
	*s = *s*6364136223846793005 + 1442695040888963407
	return uint64(*s>>32)<<32 ^ uint64(*s)>>11
}

// text is n scattered bytes.
func (s *scatter) text(n int) []byte {
	b := make([]byte, n)
	for i := range b {
		b[i] = byte(s.next() >> 40)
	}
	return b
}

func (s *scatter) salt() sip.Salt {
	return sip.Salt{K0: s.next(), K1: s.next()}
}

func (s *scatter) digest() api.Hash {
	return api.Hash(s.text(32))
}

// counted is the bytes 0, 1, .. below 251, again and again, so that no two words of eight bytes in a row are the same.
func counted(n int) []byte {
	b := make([]byte, n)
	for i := range b {
		b[i] = byte(i % 251)
	}
	return b
}

// left rotates left by n bits, one at a time.
func left(x uint64, n int) uint64 {
	for range n {
		x = x<<1 | x>>63
	}
	return x
}

// round is a round, as the definition says.
func round(v0, v1, v2, v3 uint64) (uint64, uint64, uint64, uint64) {
	v0 += v1
	v1 = left(v1, 13)
	v1 ^= v0
	v0 = left(v0, 32)
	v2 += v3
	v3 = left(v3, 16)
	v3 ^= v2
	v0 += v3
	v3 = left(v3, 21)
	v3 ^= v0
	v2 += v1
	v1 = left(v1, 17)
	v1 ^= v2
	v2 = left(v2, 32)
	return v0, v1, v2, v3
}

// words is the words of a text: the text is filled up with zeros and its length to a multiple of eight bytes.
func words(text []byte) []uint64 {
	b := slices.Clone(text)
	for len(b)%8 != 7 {
		b = append(b, 0)
	}
	b = append(b, byte(len(text)%256))
	var list []uint64
	for len(b) > 0 {
		var m uint64
		for i := 7; i >= 0; i-- {
			m = m*256 + uint64(b[i])
		}
		list, b = append(list, m), b[8:]
	}
	return list
}

// hash is SipHash-2-4, as the definition says.
func hash(s sip.Salt, text []byte) uint64 {
	v0, v1 := s.K0^0x736f6d6570736575, s.K1^0x646f72616e646f6d
	v2, v3 := s.K0^0x6c7967656e657261, s.K1^0x7465646279746573
	for _, m := range words(text) {
		v3 ^= m
		v0, v1, v2, v3 = round(v0, v1, v2, v3)
		v0, v1, v2, v3 = round(v0, v1, v2, v3)
		v0 ^= m
	}
	v2 ^= 0xff
	for range 4 {
		v0, v1, v2, v3 = round(v0, v1, v2, v3)
	}
	return v0 ^ v1 ^ v2 ^ v3
}

// P6.1

func TestExample(t *testing.T) {
	got := sip.Hash(published, 0, 1, 2, 3, 4, 5, 6, 7, 8, 9, 10, 11, 12, 13, 14)
	if got != 0xa129ca6149be45e5 {
		t.Errorf("the hash is %x", got)
	}
}

// The salt and the texts are those of the published test vectors. The hashes were computed by OpenSSL; the first nine are
// also in the given tests, and that of 15 bytes is the chapter's example.
func TestShortTexts(t *testing.T) {
	for n, want := range []uint64{
		0x726fdb47dd0e0e31, 0x74f839c593dc67fd, 0x0d6c8009d9a94f5a, 0x85676696d7fb7e2d,
		0xcf2794e0277187b7, 0x18765564cd99a68d, 0xcbc9466e58fee3ce, 0xab0200f58b01d137,
		0x93f5f5799a932462, 0x9e0082df0ba9e4b0, 0x7a5dbbc594ddb9f3, 0xf4b32f46226bada7,
		0x751e8fbc860ee5fb, 0x14ea5627c0843d90, 0xf723ca908e7af2ee, 0xa129ca6149be45e5,
		0x3f2acc7f57c29bdb, 0x699ae9f52cbe4794, 0x4bc1b3f0968dd39c, 0xbb6dc91da77961bd,
		0xbed65cf21aa2ee98, 0xd0f2cbb02e3b67c7, 0x93536795e3a33e88, 0xa80c038ccd5ccec8,
		0xb8ad50c6f649af94, 0xbce192de8a85b8ea, 0x17d835b85bbb15f3, 0x2f2e6163076bcfad,
		0xde4daaaca71dc9a5, 0xa6a2506687956571, 0xad87a3535c49ef28, 0x32d892fad841c342,
		0x7127512f72f27cce, 0xa7f32346f95978e3, 0x12e0b01abb051238, 0x15e034d40fa197ae,
		0x314dffbe0815a3b4, 0x027990f029623981, 0xcadcd4e59ef40c4d, 0x9abfd8766a33735c,
		0x0e3ea96b5304a7d0, 0xad0c42d6fc585992, 0x187306c89bc215a9, 0xd4a60abcf3792b95,
		0xf935451de4f21df2, 0xa9538f0419755787, 0xdb9acddff56ca510, 0xd06c98cd5c0975eb,
		0xe612a3cb9ecba951, 0xc766e62cfcadaf96, 0xee64435a9752fe72, 0xa192d576b245165a,
		0x0a8787bf8ecb74b2, 0x81b3e73d20b49b6f, 0x7fa8220ba3b2ecea, 0x245731c13ca42499,
		0xb78dbfaf3a8d83bd, 0xea1ad565322a1a0b, 0x60e61c23a3795013, 0x6606d7e446282b93,
		0x6ca4ecb15c5f91e1, 0x9f626da15c9625f3, 0xe51b38608ef25f57, 0x958a324ceb064572,
	} {
		if got := sip.Hash(published, counted(n)...); got != want {
			t.Errorf("the hash of %d bytes is %x, want %x", n, got, want)
		}
	}
}

// The length is taken modulo 256. The hashes are those of OpenSSL.
func TestLongTexts(t *testing.T) {
	for _, c := range []struct {
		length int
		want   uint64
	}{
		{64, 0xacd2c40b8502cad8}, {100, 0x096f3fec85c52a7e}, {248, 0xfee12210250c1d2e}, {255, 0xae31f72d619ceecf},
		{256, 0x5b2189a0c1d87844}, {257, 0xec3ad487a1bae050}, {263, 0x87583f45ab0439e6}, {264, 0xb1c28de42cee8924},
		{511, 0x5c4b5e5ad9aa63e4}, {512, 0xe08ae03e68c8244e}, {513, 0x23d8e9f7d5a32e05}, {1000, 0x2858b3e457999452},
		{4096, 0xd25f885bf99dd0b3},
	} {
		if got := sip.Hash(published, counted(c.length)...); got != c.want {
			t.Errorf("the hash of %d bytes is %x, want %x", c.length, got, c.want)
		}
	}
}

// The hashes of the bytes 0 to 31, of no bytes and of 13 bytes ff are those of OpenSSL.
func TestSalts(t *testing.T) {
	ones := slices.Repeat([]byte{0xff}, 13)
	for _, c := range []struct {
		salt               sip.Salt
		count, empty, ones uint64
	}{
		{sip.Salt{}, 0xab631e00063006f5, 0x1e924b9d737700d7, 0xe63b74f78eef4ff1},
		{sip.Salt{K0: math.MaxUint64, K1: math.MaxUint64}, 0x5b57d1f2ce33f816, 0x35dd279ee86ce565, 0xc2ba59565ef99a9d},
		{sip.Salt{K1: math.MaxUint64}, 0xccef65da0ce18250, 0x4d0617e48cf8737b, 0xe50a765e91153c82},
		{sip.Salt{K0: math.MaxUint64}, 0x3af70fd8e1e162ab, 0xa4e3fdab06a40925, 0x433c0cf28b948cca},
		{sip.Salt{K0: 1}, 0x69b3fa6469dcad11, 0x54e761ac4b1ca3de, 0x354675c17f94dbb3},
		{sip.Salt{K1: 1}, 0x2edca7942e8fb9d2, 0xc4235c5247d6521c, 0x7d4af44e253614e8},
		{sip.Salt{K0: 1 << 63}, 0xe12056ab5f7e41ff, 0x620f794693c9a5b9, 0x6ff021514704ea97},
		{sip.Salt{K1: 1 << 63}, 0xdbcf1dabad01f5a2, 0x87f7600ac7c98ce8, 0x34dea232234f1803},
		{sip.Salt{K0: 0x0123456789abcdef, K1: 0xfedcba9876543210}, 0x1a386643e64f6020, 0xb7e67c99394ba858, 0xf30c372932b7f88f},
	} {
		for _, one := range []struct {
			text []byte
			want uint64
		}{{counted(32), c.count}, {nil, c.empty}, {[]byte{}, c.empty}, {ones, c.ones}} {
			if got := sip.Hash(c.salt, one.text...); got != one.want {
				t.Errorf("with the salt %x, the hash of %x is %x, want %x", c.salt, one.text, got, one.want)
			}
		}
	}
	if got := sip.Hash(sip.Salt{}); got != 0x1e924b9d737700d7 {
		t.Errorf("the hash of nothing is %x", got)
	}
}

func TestHashByTheDefinition(t *testing.T) {
	random := scatter(1)
	for n := range 1100 {
		s, text := random.salt(), random.text(n)
		if got, want := sip.Hash(s, text...), hash(s, text); got != want {
			t.Fatalf("with the salt %x, the hash of %x is %x, want %x", s, text, got, want)
		}
	}
}

// Zeros at the end of a text count, though they leave all of its words but the last one as they are.
func TestZeros(t *testing.T) {
	seen := map[uint64]int{}
	for n := range 600 {
		h := sip.Hash(published, make([]byte, n)...)
		if other, ok := seen[h]; ok {
			t.Errorf("%d and %d zeros have the same hash", other, n)
		}
		seen[h] = n
	}
}

func TestJoint(t *testing.T) {
	for _, c := range []struct{ smaller, greater uint64 }{
		{0, 0}, {0, 1}, {3, 5}, {7, 7}, {1, 1 << 63}, {math.MaxInt64, 1 << 63}, {0, math.MaxUint64},
		{1<<63 + 1, math.MaxUint64}, {math.MaxUint64, math.MaxUint64}, {0xffffffff, 1 << 32}, {1<<32 + 1, 2 << 32},
	} {
		want := sip.Salt{K0: c.smaller, K1: c.greater}
		if got := sip.Joint(c.smaller, c.greater); got != want {
			t.Errorf("Joint(%x, %x) = %x", c.smaller, c.greater, got)
		}
		if got := sip.Joint(c.greater, c.smaller); got != want {
			t.Errorf("Joint(%x, %x) = %x", c.greater, c.smaller, got)
		}
	}
}

func TestShort(t *testing.T) {
	random := scatter(2)
	for range 2000 {
		s, h := random.salt(), random.digest()
		want := hash(s, h[:])%4294967295 + 1
		if got := s.Short(h); uint64(got) != want {
			t.Fatalf("with the salt %x, the short id of %x is %x, want %x", s, h, got, want)
		}
	}
}

// A salt with the words the other way round is another one.
func TestWordsOfASaltDiffer(t *testing.T) {
	h := api.Hash(counted(32))
	if (sip.Salt{K0: 1}).Short(h) != uint32(0x69b3fa6469dcad11%4294967295+1) {
		t.Error("with the salt 1, 0")
	}
	if (sip.Salt{K1: 1}).Short(h) != uint32(0x2edca7942e8fb9d2%4294967295+1) {
		t.Error("with the salt 0, 1")
	}
}

// found is a digest with few bytes other than 0.
func found(start uint32, end byte) api.Hash {
	return api.Hash{0: byte(start), 1: byte(start >> 8), 2: byte(start >> 16), 3: byte(start >> 24), 31: end}
}

// The digests were found by search. Their hashes are multiples of 2^32 - 1, or one less than such, or have low halves of
// ones or zeros alone.
func TestShortAtTheEdges(t *testing.T) {
	for _, c := range []struct {
		digest api.Hash
		hash   uint64
		want   uint32
	}{
		{found(0x23d76563, 6), 0x9487c3426b783cbd, 1},
		{found(0x6ca48d60, 4), 0x0647846cf9b87b93, 1},
		{found(0x775289b1, 7), 0xca4fa26a35b05d95, 1},
		{found(0x0e421666, 2), 0x06e0eecef91f1130, 0xffffffff},
		{found(0x1d4c7095, 1), 0x8cb7152a7348ead4, 0xffffffff},
		{found(0x3dfea3c9, 2), 0xf925f7cd06da0831, 0xffffffff},
		{found(0x5da45e10, 0), 0x6d65ac61929a539d, 0xffffffff},
		{found(0x41a7f1c1, 0), 0x599121b9ffffffff, 0x599121ba},
		{found(0x45363e7b, 2), 0x917e3f9cffffffff, 0x917e3f9d},
		{found(0x5aed5cff, 1), 0x19930678ffffffff, 0x19930679},
		{found(0x77d38a94, 4), 0x7ad025a3ffffffff, 0x7ad025a4},
		{found(0x3abd1acc, 7), 0xf1e0f89c00000000, 0xf1e0f89d},
	} {
		if got := sip.Hash(published, c.digest[:]...); got != c.hash {
			t.Errorf("the hash of %x is %x, want %x", c.digest, got, c.hash)
		}
		if got := published.Short(c.digest); got != c.want {
			t.Errorf("the short id of %x is %x, want %x", c.digest, got, c.want)
		}
		if got := published.Shorts(c.digest); !slices.Equal(got, []uint32{c.want}) {
			t.Errorf("the short ids of %x are %x, want %x", c.digest, got, c.want)
		}
	}
}

func TestShorts(t *testing.T) {
	random := scatter(3)
	for n := range 40 {
		s := random.salt()
		var list []api.Hash
		var want []uint32
		for i := range n {
			h := random.digest()
			if i%3 == 2 {
				h = list[i-2] // the same digest has the same short id again
			}
			list, want = append(list, h), append(want, s.Short(h))
		}
		if got := s.Shorts(list...); !slices.Equal(got, want) {
			t.Fatalf("the short ids of %x are %x, want %x", list, got, want)
		}
	}
}

func TestShortsOfNone(t *testing.T) {
	for _, got := range [][]uint32{published.Shorts(), published.Shorts(nil...), published.Shorts([]api.Hash{}...)} {
		if len(got) != 0 {
			t.Errorf("the short ids of no digests are %x", got)
		}
	}
}

// The words of a text and its spare capacity stay as they are.
func TestTextIsOnlyRead(t *testing.T) {
	whole := counted(64)
	for n := range whole {
		if got, want := sip.Hash(published, whole[:n]...), hash(published, counted(n)); got != want {
			t.Fatalf("the hash of %d bytes of more is %x, want %x", n, got, want)
		}
		if !slices.Equal(whole, counted(64)) {
			t.Fatalf("the text became %x", whole)
		}
	}
}

func TestDigestsAreOnlyRead(t *testing.T) {
	random := scatter(4)
	whole := []api.Hash{random.digest(), random.digest(), random.digest(), random.digest()}
	before := slices.Clone(whole)
	first := published.Shorts(whole[:2]...)
	if !slices.Equal(whole, before) {
		t.Fatalf("the digests became %x", whole)
	}
	want := slices.Clone(first)
	second := published.Shorts(whole[:2]...)
	clear(whole)
	clear(second)
	if !slices.Equal(first, want) {
		t.Error("a result changes with the digests or with another result")
	}
	if again := published.Shorts(before[:2]...); !slices.Equal(again, want) {
		t.Errorf("the short ids are %x, and were %x before", again, want)
	}
}

// P6.2

func TestOrderOfHalves(t *testing.T) {
	random := scatter(5)
	for range 1000 {
		a, b := random.next(), random.next()
		h := random.digest()
		s := sip.Joint(a, b)
		if s != sip.Joint(b, a) || s.Short(h) != sip.Joint(b, a).Short(h) {
			t.Fatalf("the order of %x and %x matters", a, b)
		}
		if s.K0 > s.K1 || s.K0^s.K1 != a^b || s.K0 != a && s.K0 != b {
			t.Fatalf("Joint(%x, %x) = %x", a, b, s)
		}
	}
}

func TestShortIdsAreNeverZero(t *testing.T) {
	random := scatter(6)
	for range 20 {
		s := random.salt()
		var list []api.Hash
		for range 1000 {
			list = append(list, random.digest())
		}
		if slices.Contains(s.Shorts(list...), 0) {
			t.Fatalf("with the salt %x, a short id is 0", s)
		}
	}
	// One more than the low half of this hash would be 0.
	if got := published.Short(found(0x41a7f1c1, 0)); got == 0 {
		t.Error("the short id is 0")
	}
}
