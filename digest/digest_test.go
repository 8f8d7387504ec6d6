package digest_test

import (
	"bytes"
	"crypto/sha256"
	"encoding/hex"
	"math"
	"slices"
	"strings"
	"testing"

	"gossamer/api"
	"gossamer/digest"
)

// scatter makes bytes that look random, and are the same in every run.
type scatter uint64

func (s *scatter) next() uint64 {
	*s = *s*6364136223846793005 + 1442695040888963407
	return uint64(*s >> 33)
}

// text is n scattered bytes.
func (s *scatter) text(n int) []byte {
	b := make([]byte, n)
	for i := range b {
		b[i] = byte(s.next() >> 20)
	}
	return b
}

// list is n scattered digests.
func (s *scatter) list(n int) []api.Hash {
	list := make([]api.Hash, n)
	for i := range list {
		list[i] = api.Hash(s.text(32))
	}
	return list
}

// hash is a digest by its hexadecimal digits, which may be grouped.
func hash(digits string) api.Hash {
	b, err := hex.DecodeString(strings.ReplaceAll(digits, " ", ""))
	if err != nil {
		panic(err)
	}
	return api.Hash(b)
}

// sum is SHA-256 by Go's library.
func sum(text []byte) api.Hash {
	return sha256.Sum256(text)
}

// double is the double digest by Go's library.
func double(text []byte) api.Hash {
	once := sum(text)
	return sum(once[:])
}

// tree is the tree digest as the definition says.
func tree(list []api.Hash) api.Hash {
	switch len(list) {
	case 0:
		return api.Hash{}
	case 1:
		return list[0]
	}
	var next []api.Hash
	for i := 0; i < len(list); i += 2 {
		partner := i + 1
		if partner == len(list) {
			partner = i
		}
		next = append(next, double(slices.Concat(list[i][:], list[partner][:])))
	}
	return tree(next)
}

// P7.1

// The messages and digests are those that the standard's examples give.
func TestPublishedDigests(t *testing.T) {
	for _, c := range []struct{ message, want string }{
		{"", "e3b0c442 98fc1c14 9afbf4c8 996fb924 27ae41e4 649b934c a495991b 7852b855"},
		{"abc", "ba7816bf 8f01cfea 414140de 5dae2223 b00361a3 96177a9c b410ff61 f20015ad"},
		{
			"abcdbcdecdefdefgefghfghighijhijkijkljklmklmnlmnomnopnopq",
			"248d6a61 d20638b8 e5c02693 0c3e6039 a33ce459 64ff2167 f6ecedd4 19db06c1",
		},
		{
			"abcdefghbcdefghicdefghijdefghijkefghijklfghijklmghijklmnhijklmnoijklmnopjklmnopqklmnopqrlmnopqrsmnopqrstnopqrstu",
			"cf5b16a7 78af8380 036ce59e 7b049237 0b249b11 e8f07a51 afac4503 7afee9d1",
		},
		{
			strings.Repeat("a", 1000000),
			"cdc76e5c 9914fb92 81a1c7e2 84d73e67 f1809a48 a497200e 046d39cc c7112cd0",
		},
	} {
		if got := digest.Sum([]byte(c.message)); got != hash(c.want) {
			t.Errorf("the digest of %d bytes is %x, want %s", len(c.message), got, c.want)
		}
	}
}

func TestSumOfNothing(t *testing.T) {
	want := hash("e3b0c442 98fc1c14 9afbf4c8 996fb924 27ae41e4 649b934c a495991b 7852b855")
	for i, got := range []api.Hash{
		digest.Sum(), digest.Sum(nil...), digest.Sum([][]byte{}...), digest.Sum(nil), digest.Sum([]byte{}), digest.Sum(nil, []byte{}, nil),
	} {
		if got != want {
			t.Errorf("%d: the digest of nothing is %x", i, got)
		}
	}
}

func TestSum(t *testing.T) {
	random := scatter(1)
	for n := range 600 {
		text := random.text(n)
		if got, want := digest.Sum(text), sum(text); got != want {
			t.Fatalf("the digest of %x is %x, want %x", text, got, want)
		}
	}
	for _, n := range []int{4095, 4096, 4097, 8191, 8192, 8247, 8248, 65535, 1 << 16, 1<<20 + 55, 1<<20 + 56} {
		text := random.text(n)
		if got, want := digest.Sum(text), sum(text); got != want {
			t.Errorf("the digest of %d bytes is %x, want %x", n, got, want)
		}
	}
}

// Ones alone carry in every sum, zeros alone leave only the constants; both at every length around the last block's end.
func TestSumOfLikeBytes(t *testing.T) {
	for n := range 200 {
		for _, b := range []byte{0, 0xff, 0x80, 0x7f} {
			text := bytes.Repeat([]byte{b}, n)
			if got, want := digest.Sum(text), sum(text); got != want {
				t.Errorf("the digest of %d bytes %x is %x, want %x", n, b, got, want)
			}
		}
	}
}

func TestDouble(t *testing.T) {
	for _, c := range []struct{ message, want string }{
		{"", "5df6e0e2 761359d3 0a827505 8e299fcc 03815345 45f55cf4 3e41983f 5d4c9456"},
		{"hello", "9595c9df 90075148 eb068603 65df3358 4b75bff7 82a510c6 cd4883a4 19833d50"},
	} {
		if got := digest.Double([]byte(c.message)); got != hash(c.want) {
			t.Errorf("the double digest of %q is %x, want %s", c.message, got, c.want)
		}
	}
	for i, got := range []api.Hash{digest.Double(), digest.Double(nil), digest.Double([]byte{}, nil)} {
		if got != double(nil) {
			t.Errorf("%d: the double digest of nothing is %x", i, got)
		}
	}
	random := scatter(2)
	for n := range 300 {
		text := random.text(n)
		if got, want := digest.Double(text), double(text); got != want {
			t.Fatalf("the double digest of %x is %x, want %x", text, got, want)
		}
	}
}

func TestTreeOfNoneAndOne(t *testing.T) {
	for i, got := range []api.Hash{digest.Tree(), digest.Tree(nil...), digest.Tree([]api.Hash{}...)} {
		if got != (api.Hash{}) {
			t.Errorf("%d: the tree digest of none is %x", i, got)
		}
	}
	random := scatter(3)
	for _, h := range append(random.list(20), api.Hash{}, api.Hash(bytes.Repeat([]byte{0xff}, 32))) {
		if got := digest.Tree(h); got != h {
			t.Errorf("the tree digest of %x is %x", h, got)
		}
	}
}

func TestTree(t *testing.T) {
	random := scatter(4)
	for n := range 140 {
		list := random.list(n)
		if got, want := digest.Tree(list...), tree(list); got != want {
			t.Fatalf("the tree digest of %d is %x, want %x", n, got, want)
		}
	}
}

// The pairs are written out: of five, the last one is paired with itself twice.
func TestPairsOfATree(t *testing.T) {
	random := scatter(5)
	l := random.list(6)
	pair := func(a, b api.Hash) api.Hash { return double(slices.Concat(a[:], b[:])) }
	ab, cd, ef := pair(l[0], l[1]), pair(l[2], l[3]), pair(l[4], l[5])
	cc, ee := pair(l[2], l[2]), pair(l[4], l[4])
	for n, want := range []api.Hash{
		{}, l[0], ab, pair(ab, cc), pair(ab, cd), pair(pair(ab, cd), pair(ee, ee)), pair(pair(ab, cd), pair(ef, ef)),
	} {
		if got := digest.Tree(l[:n]...); got != want {
			t.Errorf("the tree digest of %d is %x, want %x", n, got, want)
		}
	}
}

// The order of a list matters, and equal digests are no special case but at the end.
func TestOrderAndRepetitionInATree(t *testing.T) {
	random := scatter(6)
	l := random.list(3)
	a, b, c := l[0], l[1], l[2]
	if digest.Tree(a, b) == digest.Tree(b, a) || digest.Tree(a, b, c) == digest.Tree(c, a, b) {
		t.Error("the order doesn't matter")
	}
	if digest.Tree(a, b, c) != digest.Tree(a, b, c, c) || digest.Tree(a, b, c) == digest.Tree(a, b, b, c) || digest.Tree(a, a) == a {
		t.Error("repeated digests")
	}
}

// The four transactions and the tree digest are those of Bitcoin's block 100000, whose digits are usually told from the last byte on.
func TestPublishedTree(t *testing.T) {
	reversed := func(digits string) api.Hash {
		h := hash(digits)
		slices.Reverse(h[:])
		return h
	}
	got := digest.Tree(
		reversed("8c14f0db3df150123e6f3dbbf30f8b955a8249b62ac1d1ff16284aefa3d06d87"),
		reversed("fff2525b8931402dd09222c50775608f75787bd2b87e56995a7bdd30f79702c4"),
		reversed("6359f0868171b1d194cbee1af2f16ea598ae8fad666d9b012c8ed2b79a236ec4"),
		reversed("e9a66845e05d5abc0ad04ec80f774a7e585c6e8db975962d069a522137b80c1d"),
	)
	if want := reversed("f3e94742aca4b5ef85488dc37c06c3282295ffec960994b2c0d5ac2a25a95766"); got != want {
		t.Errorf("the tree digest is %x, want %x", got, want)
	}
}

func TestWord(t *testing.T) {
	for _, c := range []struct {
		digest api.Hash
		want   uint64
	}{
		{api.Hash{}, 0},
		{api.Hash{1, 2, 3, 4, 5, 6, 7, 8, 9}, 0x0102030405060708},
		{api.Hash{7: 1}, 1},
		{api.Hash{0: 0x80}, 1 << 63},
		{api.Hash{8: 0xff, 31: 0xff}, 0},
		{api.Hash(bytes.Repeat([]byte{0xff}, 32)), math.MaxUint64},
		{digest.Sum([]byte("abc")), 0xba7816bf8f01cfea}, // the chapter's example
	} {
		if got := digest.Word(c.digest); got != c.want {
			t.Errorf("the word of %x is %x, want %x", c.digest, got, c.want)
		}
	}
	for i := range 32 {
		want := uint64(0)
		if i < 8 {
			want = 0xa5 << (56 - 8*i)
		}
		if got := digest.Word(with(i, 0xa5)); got != want {
			t.Errorf("the word with byte %d is %x, want %x", i, got, want)
		}
	}
}

// with is a digest of zeros but for one byte.
func with(i int, b byte) api.Hash {
	var h api.Hash
	h[i] = b
	return h
}

func TestCompareAtEveryByte(t *testing.T) {
	random := scatter(7)
	for i := range 32 {
		for _, c := range []struct{ less, greater byte }{{0, 1}, {0, 0xff}, {0x7f, 0x80}, {1, 0x80}, {0x80, 0xff}, {0xfe, 0xff}} {
			a := random.list(1)[0]
			b := a
			a[i], b[i] = c.less, c.greater
			// The bytes behind the first difference don't count.
			for j := i + 1; j < 32; j++ {
				a[j], b[j] = 0xff, 0
			}
			if digest.Compare(a, b) != -1 || digest.Compare(b, a) != 1 || digest.Compare(a, a) != 0 || digest.Compare(b, b) != 0 {
				t.Errorf("%x and %x are compared as %d and %d", a, b, digest.Compare(a, b), digest.Compare(b, a))
			}
		}
	}
}

func TestCompareIsAnOrder(t *testing.T) {
	random := scatter(8)
	list := append(random.list(50), api.Hash{}, with(0, 1), with(31, 1), with(31, 0xff), with(0, 0xff), with(15, 7))
	sorted := slices.Clone(list)
	slices.SortFunc(sorted, digest.Compare)
	for i, a := range sorted {
		for j, b := range sorted {
			want := 0
			if i != j {
				want = strings.Compare(string(a[:]), string(b[:]))
			}
			if got := digest.Compare(a, b); got != want || (i < j) != (got == -1) || (i > j) != (got == 1) {
				t.Fatalf("%x and %x are compared as %d", a, b, got)
			}
		}
	}
	if digest.Compare(api.Hash{}, api.Hash{}) != 0 {
		t.Error("no digest is equal to itself")
	}
}

// The parts, their spare capacity and the list of them stay as they are.
func TestPartsAreOnlyRead(t *testing.T) {
	random := scatter(9)
	whole := random.text(300)
	before := slices.Clone(whole)
	for n := range 150 {
		list := [][]byte{whole[:n], whole[n : n+70], whole[299:]}
		if got, want := digest.Sum(list[:2]...), sum(before[:n+70]); got != want {
			t.Fatalf("the digest of %d bytes of more is %x, want %x", n, got, want)
		}
		if got, want := digest.Double(list[:2]...), double(before[:n+70]); got != want {
			t.Fatalf("the double digest of %d bytes of more is %x, want %x", n, got, want)
		}
		if !bytes.Equal(whole, before) {
			t.Fatalf("the bytes became %x", whole)
		}
		if len(list[0]) != n || len(list[1]) != 70 || !bytes.Equal(list[0], before[:n]) || !bytes.Equal(list[1], before[n:n+70]) || !bytes.Equal(list[2], before[299:]) {
			t.Fatalf("the parts became %x", list)
		}
	}
}

func TestListIsOnlyRead(t *testing.T) {
	random := scatter(10)
	whole := random.list(40)
	before := slices.Clone(whole)
	for n := range whole {
		if got, want := digest.Tree(whole[:n]...), tree(before[:n]); got != want {
			t.Fatalf("the tree digest of %d of more is %x, want %x", n, got, want)
		}
		if !slices.Equal(whole, before) {
			t.Fatalf("the digests became %x", whole)
		}
	}
}

// A result depends on the arguments alone, not on the calls before.
func TestNothingIsKept(t *testing.T) {
	random := scatter(11)
	texts := [][]byte{nil, random.text(1), random.text(55), random.text(56), random.text(64), random.text(200)}
	for range 3 {
		for _, a := range texts {
			for _, b := range texts {
				if digest.Sum(a) != sum(a) || digest.Double(b) != double(b) || digest.Tree(sum(a), sum(b)) != tree([]api.Hash{sum(a), sum(b)}) {
					t.Fatalf("%x and %x", a, b)
				}
			}
		}
	}
}

// P7.2

func TestTwoParts(t *testing.T) {
	random := scatter(12)
	for _, n := range []int{0, 1, 3, 54, 55, 56, 57, 63, 64, 65, 119, 120, 121, 127, 128, 129, 200} {
		text := random.text(n)
		for i := range n + 1 {
			if got, want := digest.Sum(text[:i], text[i:]), sum(text); got != want {
				t.Fatalf("the digest of %d and %d bytes is %x, want %x", i, n-i, got, want)
			}
			if got, want := digest.Double(text[:i], text[i:]), double(text); got != want {
				t.Fatalf("the double digest of %d and %d bytes is %x, want %x", i, n-i, got, want)
			}
		}
	}
}

func TestThreeParts(t *testing.T) {
	random := scatter(13)
	text := random.text(131)
	for i := range len(text) + 1 {
		for j := i; j <= len(text); j++ {
			if got := digest.Sum(text[:i], text[i:j], text[j:]); got != sum(text) {
				t.Fatalf("the digest of %d, %d and %d bytes is %x, want %x", i, j-i, len(text)-j, got, sum(text))
			}
		}
	}
}

// All parts but the last one have the same size; parts of no bytes, nil or not, stand between them.
func TestManyParts(t *testing.T) {
	random := scatter(14)
	for n := range 200 {
		text := random.text(n)
		for size := 1; size <= 70; size++ {
			parts := [][]byte{nil}
			for chunk := range slices.Chunk(text, size) {
				parts = append(parts, chunk, []byte{}, nil)
			}
			if got, want := digest.Sum(parts...), sum(text); got != want {
				t.Fatalf("the digest of %d bytes in parts of %d is %x, want %x", n, size, got, want)
			}
		}
	}
}

func TestScatteredParts(t *testing.T) {
	random := scatter(15)
	for range 300 {
		text := random.text(int(random.next() % 1000))
		var parts [][]byte
		for rest := text; len(rest) > 0; {
			n := min(len(rest), int(random.next()%200))
			parts, rest = append(parts, rest[:n]), rest[n:]
		}
		if digest.Sum(parts...) != sum(text) || digest.Double(parts...) != double(text) {
			t.Fatalf("the digest of %d bytes in %d parts", len(text), len(parts))
		}
	}
}

// One piece of memory may be several parts, and parts may overlap.
func TestPartsThatShareMemory(t *testing.T) {
	random := scatter(16)
	text := random.text(100)
	for _, c := range []struct{ parts [][]byte }{
		{[][]byte{text, text}},
		{[][]byte{text[:10], text[:10], text[:10]}},
		{[][]byte{text[:64], text[32:96], text[50:]}},
		{[][]byte{text[60:], text[:60]}},
	} {
		if got, want := digest.Sum(c.parts...), sum(slices.Concat(c.parts...)); got != want {
			t.Errorf("the digest is %x, want %x", got, want)
		}
	}
}
