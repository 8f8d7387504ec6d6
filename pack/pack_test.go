package pack_test

import (
	"bytes"
	"math"
	"slices"
	"strings"
	"testing"

	"gossamer/api"
	"gossamer/pack"
)

// scatter makes numbers that look random, and are the same in every run.
type scatter uint64

func (s *scatter) next() uint64 {
	*s = *s*6364136223846793005 + 1442695040888963407
	return uint64(*s >> 33)
}

// below is a scattered number below n.
func (s *scatter) below(n int) int {
	return int(s.next() % uint64(n))
}

// bytes is n scattered bytes.
func (s *scatter) bytes(n int) []byte {
	b := make([]byte, n)
	for i := range b {
		b[i] = byte(s.next() >> 20)
	}
	return b
}

// number is a scattered number of up to 64 bits, small ones no less often than great ones.
func (s *scatter) number() uint64 {
	return (s.next()<<33 ^ s.next()) >> s.below(64)
}

// integer is the bytes of n as an integer of a size, as the definition says.
func integer(n uint64, size int) []byte {
	var b []byte
	for range size {
		b = append(b, byte(n%256))
		n /= 256
	}
	return b
}

// count is the bytes of a count, as the definition says.
func count(n int) []byte {
	switch {
	case n <= 252:
		return []byte{byte(n)}
	case n <= 65535:
		return append([]byte{0xfd}, integer(uint64(n), 2)...)
	case n <= 4294967295:
		return append([]byte{0xfe}, integer(uint64(n), 4)...)
	}
	return append([]byte{0xff}, integer(uint64(n), 8)...)
}

// digest is a digest without two equal bytes.
func digest() api.Hash {
	var h api.Hash
	for i := range h {
		h[i] = byte(200 - 3*i)
	}
	return h
}

// sizes is the sizes of integers.
var sizes = []int{1, 2, 4, 8}

// otherSizes is sizes that integers don't have.
var otherSizes = []int{
	math.MinInt, -8, -4, -2, -1, 0, 3, 5, 6, 7, 9, 10, 12, 16, 32, 64, 256 + 1, 1<<16 + 2, 1<<32 + 1, 1<<32 + 4, 1<<62 + 8, math.MaxInt,
}

// edges is counts around those where the form changes, and around what fits into fewer bits.
var edges = []int{
	0, 1, 2, 127, 128, 251, 252, 253, 254, 255, 256, 257, 32767, 32768, 65534, 65535, 65536, 65537, 1<<24 - 1, 1 << 24,
	1<<31 - 1, 1 << 31, 1<<32 - 2, 1<<32 - 1, 1 << 32, 1<<32 + 1, 1<<32 + 252, 1 << 40, 1<<53 + 1, 1 << 62, math.MaxInt - 1, math.MaxInt,
}

// holds tests what was put.
func holds(t *testing.T, o *pack.Out, want []byte) {
	t.Helper()
	if got := o.Bytes(); !bytes.Equal(got, want) {
		t.Fatalf("the bytes are %x, want %x", got, want)
	}
}

// valid tests that a reader is valid and has so many bytes left.
func valid(t *testing.T, in *pack.In, left int) {
	t.Helper()
	if got := in.Left(); got != left {
		t.Fatalf("%d bytes are left, want %d", got, left)
	}
	switch err := in.End(); {
	case left == 0 && err != nil:
		t.Fatalf("at the end, End is %v", err)
	case left > 0 && err != api.ErrForm:
		t.Fatalf("with %d bytes left, End is %v", left, err)
	}
}

// ended tests that a reader says that it is invalid.
func ended(t *testing.T, in *pack.In) {
	t.Helper()
	if got := in.Left(); got != 0 {
		t.Fatalf("an invalid reader has %d bytes left", got)
	}
	if err := in.End(); err != api.ErrForm {
		t.Fatalf("End of an invalid reader is %v", err)
	}
}

// invalid tests that a reader is invalid and stays so, whatever is read.
func invalid(t *testing.T, in *pack.In) {
	t.Helper()
	// This comes ahead of the reads, as a valid reader would become invalid by them.
	ended(t, in)
	for _, size := range append([]int{3}, sizes...) {
		if got := in.Num(size); got != 0 {
			t.Fatalf("an invalid reader reads the integer %x of size %d", got, size)
		}
		ended(t, in)
	}
	for _, most := range []int{-1, 0, 1, math.MaxInt} {
		if got := in.Count(most); got != 0 {
			t.Fatalf("an invalid reader reads the count %d, at most %d", got, most)
		}
		if got := in.Text(most); got != "" {
			t.Fatalf("an invalid reader reads the string %q, at most %d", got, most)
		}
		ended(t, in)
	}
	if got := in.Hash(); got != (api.Hash{}) {
		t.Fatalf("an invalid reader reads the digest %x", got)
	}
	ended(t, in)
}

// P8.1

func TestExample(t *testing.T) {
	var o pack.Out
	o.Count(253)
	holds(t, &o, []byte{0xfd, 0xfd, 0x00})
}

func TestZeroOut(t *testing.T) {
	var o pack.Out
	holds(t, &o, nil)
	holds(t, &pack.Out{}, nil)
}

func TestPutNum(t *testing.T) {
	const n = 0x8192a3b4c5d6e7f8
	for _, c := range []struct {
		size int
		want []byte
	}{
		{1, []byte{0xf8}},
		{2, []byte{0xf8, 0xe7}},
		{4, []byte{0xf8, 0xe7, 0xd6, 0xc5}},
		{8, []byte{0xf8, 0xe7, 0xd6, 0xc5, 0xb4, 0xa3, 0x92, 0x81}},
	} {
		var o pack.Out
		o.Num(n, c.size)
		holds(t, &o, c.want)
		o.Num(0, c.size)
		o.Num(math.MaxUint64, c.size)
		want := slices.Concat(c.want, bytes.Repeat([]byte{0}, c.size), bytes.Repeat([]byte{0xff}, c.size))
		holds(t, &o, want)
	}
	for _, size := range otherSizes {
		var o pack.Out
		o.Num(n, size)
		holds(t, &o, nil)
		o.Num(1, 1)
		o.Num(n, size)
		o.Num(2, 1)
		holds(t, &o, []byte{1, 2})
	}
}

func TestPutCount(t *testing.T) {
	for _, c := range []struct {
		n    int
		want []byte
	}{
		{0, []byte{0}},
		{252, []byte{0xfc}},
		{253, []byte{0xfd, 0xfd, 0}},
		{254, []byte{0xfd, 0xfe, 0}},
		{255, []byte{0xfd, 0xff, 0}},
		{256, []byte{0xfd, 0, 1}},
		{0xffff, []byte{0xfd, 0xff, 0xff}},
		{0x10000, []byte{0xfe, 0, 0, 1, 0}},
		{0x12345678, []byte{0xfe, 0x78, 0x56, 0x34, 0x12}},
		{0xffffffff, []byte{0xfe, 0xff, 0xff, 0xff, 0xff}},
		{0x100000000, []byte{0xff, 0, 0, 0, 0, 1, 0, 0, 0}},
		{0x123456789abcdef0, []byte{0xff, 0xf0, 0xde, 0xbc, 0x9a, 0x78, 0x56, 0x34, 0x12}},
		{math.MaxInt, []byte{0xff, 0xff, 0xff, 0xff, 0xff, 0xff, 0xff, 0xff, 0x7f}},
	} {
		var o pack.Out
		o.Count(c.n)
		holds(t, &o, c.want)
	}
	for n := range 70000 {
		var o pack.Out
		o.Count(n)
		holds(t, &o, count(n))
	}
	for _, n := range []int{-1, -2, -252, -253, -65536, -1 << 32, math.MinInt + 1, math.MinInt} {
		var o pack.Out
		o.Count(n)
		holds(t, &o, nil)
		o.Count(1)
		o.Count(n)
		o.Count(2)
		holds(t, &o, []byte{1, 2})
	}
}

func TestPutText(t *testing.T) {
	for _, c := range []struct {
		s    string
		want []byte
	}{
		{"", []byte{0}},
		{"a", []byte{1, 'a'}},
		{"ab\x00c", []byte{4, 'a', 'b', 0, 'c'}},
		{"\u00e4\u20ac", []byte{5, 0xc3, 0xa4, 0xe2, 0x82, 0xac}},
		{"\xff\xfe\xc3", []byte{3, 0xff, 0xfe, 0xc3}},
	} {
		var o pack.Out
		o.Text(c.s)
		holds(t, &o, c.want)
	}
	random := scatter(1)
	for _, n := range []int{2, 251, 252, 253, 254, 255, 256, 257, 65535, 65536, 70000} {
		text := random.bytes(n)
		var o pack.Out
		o.Text(string(text))
		holds(t, &o, slices.Concat(count(n), text))
	}
}

func TestPutHash(t *testing.T) {
	h := digest()
	var o pack.Out
	o.Hash(h)
	holds(t, &o, h[:])
	o.Hash(api.Hash{})
	o.Hash(h)
	holds(t, &o, slices.Concat(h[:], make([]byte, 32), h[:]))
}

func TestNilOut(t *testing.T) {
	var o *pack.Out
	for range 2 {
		o.Num(1, 1)
		o.Num(1, 3)
		o.Count(1)
		o.Count(1000)
		o.Count(-1)
		o.Text("")
		o.Text("a")
		o.Hash(digest())
		holds(t, o, nil)
	}
}

func TestReadNothing(t *testing.T) {
	for _, b := range [][]byte{nil, {}} {
		valid(t, pack.Read(b), 0)
		in := pack.Read(b)
		in.Num(1)
		invalid(t, in)
		in = pack.Read(b)
		in.Count(math.MaxInt)
		invalid(t, in)
		in = pack.Read(b)
		in.Text(math.MaxInt)
		invalid(t, in)
		in = pack.Read(b)
		in.Hash()
		invalid(t, in)
	}
}

func TestReadNum(t *testing.T) {
	b := []byte{0xf8, 0xe7, 0xd6, 0xc5, 0xb4, 0xa3, 0x92, 0x81, 0x70}
	wants := []uint64{0xf8, 0xe7f8, 0xc5d6e7f8, 0x8192a3b4c5d6e7f8}
	for k, size := range sizes {
		for n := range len(b) + 1 {
			in := pack.Read(b[:n])
			got := in.Num(size)
			if n < size {
				if got != 0 {
					t.Errorf("of %d bytes, the integer of size %d is %x", n, size, got)
				}
				invalid(t, in)
				continue
			}
			if got != wants[k] {
				t.Errorf("the integer of size %d is %x, want %x", size, got, wants[k])
			}
			valid(t, in, n-size)
		}
	}
	for _, size := range otherSizes {
		for _, n := range []int{0, 1, 9} {
			in := pack.Read(b[:n])
			if got := in.Num(size); got != 0 {
				t.Errorf("of %d bytes, the integer of size %d is %x", n, size, got)
			}
			invalid(t, in)
		}
	}
}

func TestReadCount(t *testing.T) {
	for _, n := range edges {
		b := append(count(n), 0x99)
		for _, most := range []int{n, n | 1, max(n, 1<<32), math.MaxInt} {
			in := pack.Read(b)
			if got := in.Count(most); got != n {
				t.Errorf("the count %x is %d, want %d", b, got, n)
			}
			valid(t, in, 1)
		}
		for _, most := range []int{n - 1, n / 2, 0, -1, -n, -n - 1, math.MinInt} {
			if most >= n {
				continue
			}
			in := pack.Read(b)
			if got := in.Count(most); got != 0 {
				t.Errorf("the count %x of at most %d is %d", b, most, got)
			}
			invalid(t, in)
		}
		for k := range len(b) - 1 {
			in := pack.Read(b[:k])
			if got := in.Count(math.MaxInt); got != 0 {
				t.Errorf("the incomplete count %x is %d", b[:k], got)
			}
			invalid(t, in)
		}
	}
}

// refused tests that bytes with more behind them aren't a count.
func refused(t *testing.T, b []byte) {
	t.Helper()
	for _, most := range []int{math.MaxInt, 1 << 40, 70000, 300, 0, -1, math.MinInt} {
		in := pack.Read(slices.Concat(b, make([]byte, 40)))
		if got := in.Count(most); got != 0 {
			t.Fatalf("the count %x of at most %d is %d", b, most, got)
		}
		invalid(t, in)
	}
}

func TestReadLongForms(t *testing.T) {
	for n := range 253 {
		refused(t, append([]byte{0xfd}, integer(uint64(n), 2)...))
		refused(t, append([]byte{0xfe}, integer(uint64(n), 4)...))
		refused(t, append([]byte{0xff}, integer(uint64(n), 8)...))
	}
	for _, n := range []uint64{253, 254, 255, 256, 65534, 65535} {
		refused(t, append([]byte{0xfe}, integer(n, 4)...))
		refused(t, append([]byte{0xff}, integer(n, 8)...))
	}
	for _, n := range []uint64{65536, 1 << 24, 1 << 31, 1<<32 - 2, 1<<32 - 1} {
		refused(t, append([]byte{0xff}, integer(n, 8)...))
	}
}

// A count of 2^63 or more isn't one that any int is as great as.
func TestReadCountsBeyondInt(t *testing.T) {
	for _, n := range []uint64{1 << 63, 1<<63 + 1, 1<<63 + 252, 1<<63 + 1<<32, 1<<64 - 1<<32, 1<<64 - 253, 1<<64 - 2, 1<<64 - 1} {
		b := append([]byte{0xff}, integer(n, 8)...)
		refused(t, b)
		in := pack.Read(slices.Concat(b, make([]byte, 40)))
		if got := in.Text(math.MaxInt); got != "" {
			t.Errorf("the string with the count %x is %q", b, got)
		}
		invalid(t, in)
	}
}

func TestReadText(t *testing.T) {
	random := scatter(2)
	for _, n := range []int{0, 1, 2, 31, 32, 251, 252, 253, 254, 255, 256, 300, 65535, 65536, 70000} {
		text := random.bytes(n)
		b := slices.Concat(count(n), text, []byte{0x98, 0x99})
		for _, most := range []int{n, n + 1, math.MaxInt} {
			in := pack.Read(b)
			if got := in.Text(most); got != string(text) {
				t.Errorf("the string of %d bytes is %x", n, got)
			}
			valid(t, in, 2)
		}
		for _, most := range []int{n - 1, -1, math.MinInt} {
			in := pack.Read(b)
			if got := in.Text(most); got != "" {
				t.Errorf("the string of %d bytes, at most %d, is %x", n, most, got)
			}
			invalid(t, in)
		}
		whole := len(b) - 2
		for _, k := range []int{0, 1, 2, 3, 4, 5, whole / 2, whole - 2, whole - 1} {
			if k < 0 || k >= whole {
				continue
			}
			in := pack.Read(b[:k])
			if got := in.Text(math.MaxInt); got != "" {
				t.Errorf("of %d bytes, the string of %d bytes is %x", k, n, got)
			}
			invalid(t, in)
		}
	}
}

// The lengths are greater than what is left by more and more, or not in their shortest form.
func TestReadTextWithBadLength(t *testing.T) {
	text := []byte(strings.Repeat("a", 60))
	for _, n := range edges {
		if n <= len(text) {
			continue
		}
		in := pack.Read(slices.Concat(count(n), text))
		if got := in.Text(math.MaxInt); got != "" {
			t.Errorf("of 60 bytes, the string of %d bytes is %q", n, got)
		}
		invalid(t, in)
	}
	for _, length := range [][]byte{{0xfd, 2, 0}, {0xfe, 2, 0, 0, 0}, {0xff, 2, 0, 0, 0, 0, 0, 0, 0}, {0xfd, 0, 0}} {
		in := pack.Read(slices.Concat(length, text))
		if got := in.Text(math.MaxInt); got != "" {
			t.Errorf("the string with the length %x is %q", length, got)
		}
		invalid(t, in)
	}
}

func TestReadAnyBytesAsText(t *testing.T) {
	for _, s := range []string{"ab\x00c", "\u00e4\u20ac", "\xff\xfe\xc3", "\x00"} {
		in := pack.Read(append(count(len(s)), s...))
		if got := in.Text(len(s)); got != s {
			t.Errorf("the string is %q, want %q", got, s)
		}
		valid(t, in, 0)
	}
}

func TestReadHash(t *testing.T) {
	h := digest()
	b := append(h[:], 0x98, 0x99)
	for n := range len(b) + 1 {
		in := pack.Read(b[:n])
		got := in.Hash()
		if n < 32 {
			if got != (api.Hash{}) {
				t.Errorf("of %d bytes, the digest is %x", n, got)
			}
			invalid(t, in)
			continue
		}
		if got != h {
			t.Errorf("the digest is %x, want %x", got, h)
		}
		valid(t, in, n-32)
	}
	in := pack.Read(make([]byte, 32))
	if got := in.Hash(); got != (api.Hash{}) {
		t.Errorf("the digest is %x", got)
	}
	valid(t, in, 0)
}

func TestNilIn(t *testing.T) {
	var in *pack.In
	invalid(t, in)
}

// The reader's place moves by what was read, and neither Left nor End moves it.
func TestReadInTurn(t *testing.T) {
	h := digest()
	b := slices.Concat(integer(0x0102, 2), []byte{0xfd, 0x2c, 0x01}, []byte{0}, []byte{2, 'a', 'b'}, h[:], []byte{7})
	in := pack.Read(b)
	valid(t, in, 42)
	if got := in.Num(2); got != 0x0102 {
		t.Errorf("the integer is %x", got)
	}
	valid(t, in, 40)
	if got := in.Count(300); got != 300 {
		t.Errorf("the count is %d", got)
	}
	valid(t, in, 37)
	if got := in.Text(0); got != "" {
		t.Errorf("the empty string is %q", got)
	}
	valid(t, in, 36)
	if got := in.Text(2); got != "ab" {
		t.Errorf("the string is %q", got)
	}
	valid(t, in, 33)
	if got := in.Hash(); got != h {
		t.Errorf("the digest is %x", got)
	}
	valid(t, in, 1)
	if got := in.Count(7); got != 7 {
		t.Errorf("the count is %d", got)
	}
	valid(t, in, 0)
	if got := in.Num(1); got != 0 {
		t.Errorf("behind the end, the integer is %d", got)
	}
	invalid(t, in)
}

// model is a reader as the definition says.
type model struct {
	b       []byte
	offset  int
	invalid bool
}

// fits asks for n more bytes, and makes the model invalid if there are fewer.
func (m *model) fits(n int) bool {
	m.invalid = m.invalid || n > len(m.b)-m.offset
	return !m.invalid
}

// bytes reads n bytes.
func (m *model) bytes(n int) []byte {
	if !m.fits(n) {
		return nil
	}
	m.offset += n
	return m.b[m.offset-n : m.offset]
}

// count finds the count whose encoding the bytes begin with.
func (m *model) count(most int) int {
	if !m.fits(1) {
		return 0
	}
	size := 1
	if first := m.b[m.offset]; first > 252 {
		size = 1 + 2<<(first-253)
	}
	if !m.fits(size) {
		return 0
	}
	rest := m.b[m.offset+1 : m.offset+size]
	n := int(m.b[m.offset])
	if size > 1 {
		n = 0
		for _, b := range slices.Backward(rest) {
			n = n<<8 | int(b)
		}
	}
	if n < 0 || n > most || !bytes.Equal(count(n), m.b[m.offset:m.offset+size]) {
		m.invalid = true
		return 0
	}
	m.offset += size
	return n
}

// text reads a string.
func (m *model) text(most int) string {
	return string(m.bytes(m.count(most)))
}

// left is the number of bytes left.
func (m *model) left() int {
	if m.invalid {
		return 0
	}
	return len(m.b) - m.offset
}

// follow makes one read with both readers and tests that they agree.
func (m *model) follow(t *testing.T, in *pack.In, random *scatter) {
	t.Helper()
	most := int(random.number() >> 1)
	switch random.below(4) {
	case 0:
		size := sizes[random.below(4)]
		want := make([]byte, size)
		copy(want, m.bytes(size))
		if got := in.Num(size); !bytes.Equal(integer(got, size), want) || got>>(8*size-1) > 1 {
			t.Fatalf("%x: the integer is %x, want %x", m.b, got, want)
		}
	case 1:
		if got, want := in.Count(most), m.count(most); got != want {
			t.Fatalf("%x: the count is %d, want %d", m.b, got, want)
		}
	case 2:
		if got, want := in.Text(most), m.text(most); got != want {
			t.Fatalf("%x: the string is %x, want %x", m.b, got, want)
		}
	case 3:
		var want api.Hash
		copy(want[:], m.bytes(32))
		if got := in.Hash(); got != want {
			t.Fatalf("%x: the digest is %x, want %x", m.b, got, want)
		}
	}
	if m.invalid {
		invalid(t, in)
	} else {
		valid(t, in, m.left())
	}
}

// Small bytes, and those that begin the longer counts, are more frequent than others, so that many reads succeed.
func TestReadInAnyOrder(t *testing.T) {
	random := scatter(3)
	for range 4000 {
		b := random.bytes(random.below(120))
		for i := range b {
			switch random.below(4) {
			case 0:
				b[i] %= 4
			case 1:
				b[i] |= 0xfc
			}
		}
		in, m := pack.Read(b), &model{b: b}
		for !m.invalid {
			m.follow(t, in, &random)
		}
	}
}

// P8.2

// item is one thing that is put and read.
type item struct {
	kind int
	num  uint64
	text string
	hash api.Hash
}

// items is n scattered ones: integers of four sizes, counts, strings and digests.
func (s *scatter) items(n int) []item {
	list := make([]item, n)
	for i := range list {
		one := &list[i]
		switch one.kind = s.below(7); one.kind {
		case 0, 1, 2, 3:
			one.num = s.number() & (math.MaxUint64 >> (64 - 8*sizes[one.kind]))
		case 4:
			one.num = s.number() >> 1
		case 5:
			one.text = string(s.bytes(s.below(400)))
		case 6:
			one.hash = api.Hash(s.bytes(32))
		}
	}
	return list
}

// put puts it.
func (i item) put(o *pack.Out) {
	switch i.kind {
	case 4:
		o.Count(int(i.num))
	case 5:
		o.Text(i.text)
	case 6:
		o.Hash(i.hash)
	default:
		o.Num(i.num, sizes[i.kind])
	}
}

// length is the number of its bytes.
func (i item) length() int {
	switch i.kind {
	case 4:
		return len(count(int(i.num)))
	case 5:
		return len(count(len(i.text))) + len(i.text)
	case 6:
		return 32
	}
	return sizes[i.kind]
}

// read is the next item of a kind.
func read(in *pack.In, kind int) item {
	one := item{kind: kind}
	switch kind {
	case 4:
		one.num = uint64(in.Count(math.MaxInt))
	case 5:
		one.text = in.Text(math.MaxInt)
	case 6:
		one.hash = in.Hash()
	default:
		one.num = in.Num(sizes[kind])
	}
	return one
}

func TestReadWhatWasPut(t *testing.T) {
	random := scatter(4)
	for range 2000 {
		list := random.items(random.below(20))
		var o pack.Out
		left := 0
		for _, one := range list {
			one.put(&o)
			left += one.length()
		}
		in := pack.Read(o.Bytes())
		valid(t, in, left)
		for _, want := range list {
			if got := read(in, want.kind); got != want {
				t.Fatalf("read %v, want %v", got, want)
			}
			left -= want.length()
			valid(t, in, left)
		}
	}
}

func TestReadCountsThatWerePut(t *testing.T) {
	for _, n := range edges {
		var o pack.Out
		o.Count(n)
		in := pack.Read(o.Bytes())
		if got := in.Count(n); got != n || in.End() != nil {
			t.Errorf("the count is %d, want %d", got, n)
		}
	}
}

// again tests that what items of the kinds are read from is their encoding, if they are read completely.
func again(t *testing.T, b []byte, kinds ...int) bool {
	t.Helper()
	in := pack.Read(b)
	var o pack.Out
	for _, kind := range kinds {
		read(in, kind).put(&o)
	}
	if in.End() != nil {
		return false
	}
	holds(t, &o, b)
	return true
}

func TestPutWhatWasRead(t *testing.T) {
	random := scatter(5)
	complete := 0
	for range 3000 {
		list := random.items(1 + random.below(6))
		var o pack.Out
		var kinds []int
		for _, one := range list {
			one.put(&o)
			kinds = append(kinds, one.kind)
		}
		b := o.Bytes()
		if !again(t, b, kinds...) {
			t.Fatalf("%x isn't read completely", b)
		}
		for range 10 {
			changed := slices.Clone(b)
			changed[random.below(len(b))] ^= 1 << random.below(8)
			if again(t, changed, kinds...) {
				complete++
			}
		}
	}
	if complete < 1000 {
		t.Errorf("only %d changed ones were read completely", complete)
	}
}

// Each number has one form, so that of all integers behind a first byte those that a shorter form has are refused.
func TestPutAllShortCountsThatWereRead(t *testing.T) {
	complete := 0
	for first := range 256 {
		if again(t, []byte{byte(first)}, 4) {
			complete++
		}
	}
	if complete != 253 {
		t.Errorf("%d counts have one byte, want 253", complete)
	}
	for n := range 1 << 16 {
		if again(t, append([]byte{0xfd}, integer(uint64(n), 2)...), 4) {
			complete++
		}
	}
	if complete != 1<<16 {
		t.Errorf("%d counts have up to three bytes, want %d", complete, 1<<16)
	}
}

// P8.3

// spare is the bytes with spare capacity that holds bytes aa.
func spare(b []byte) []byte {
	whole := slices.Concat(b, bytes.Repeat([]byte{0xaa}, 40))
	return whole[:len(b)]
}

func TestReadLeavesItsArgument(t *testing.T) {
	h := digest()
	text := slices.Concat([]byte{5, 2, 'a', 'b'}, h[:], []byte{0xfd, 0, 1, 9})
	b := spare(text)
	in := pack.Read(b)
	in.Num(1)
	in.Text(2)
	in.Hash()
	in.Count(256)
	in.Num(8)
	invalid(t, in)
	if !bytes.Equal(b[:cap(b)][:len(text)+40], slices.Concat(text, bytes.Repeat([]byte{0xaa}, 40))) {
		t.Errorf("the argument and what follows it are %x", b[:cap(b)])
	}
}

func TestReadKeepsNothingOfItsArgument(t *testing.T) {
	h := digest()
	text := slices.Concat([]byte{5, 2, 'a', 'b'}, h[:], []byte{0xfd, 0, 1})
	b := spare(text)
	in := pack.Read(b)
	clear(b[:cap(b)])
	if in.Num(1) != 5 || in.Text(2) != "ab" || in.Hash() != h || in.Count(256) != 256 || in.End() != nil {
		t.Error("the reader follows a change of its argument")
	}
}

func TestReadersOfTheSameBytes(t *testing.T) {
	b := []byte{1, 2, 3}
	first, second := pack.Read(b), pack.Read(b)
	first.Num(2)
	valid(t, second, 3)
	first.Num(2)
	invalid(t, first)
	if got := second.Num(1); got != 1 {
		t.Errorf("the second reader reads %d", got)
	}
	valid(t, second, 2)
}

func TestReadTextIsNotTheArgument(t *testing.T) {
	b := []byte{2, 'a', 'b'}
	in := pack.Read(b)
	got := in.Text(2)
	clear(b)
	if got != "ab" {
		t.Errorf("the string is %q", got)
	}
}

func TestBytesAreNew(t *testing.T) {
	random := scatter(6)
	var o pack.Out
	var want []byte
	for range 200 {
		one := o.Bytes()
		// What is stored here, in the spare capacity, too, must show nowhere else.
		for i := range one[:cap(one)] {
			one[:cap(one)][i] = 0x55
		}
		holds(t, &o, want)
		kept := o.Bytes()
		n := random.below(256)
		o.Num(uint64(n), 1)
		if !bytes.Equal(kept, want) {
			t.Fatalf("bytes returned before are %x, want %x", kept, want)
		}
		appended := append(kept, byte(n+1))
		want = append(want, byte(n))
		holds(t, &o, want)
		if appended[len(appended)-1] != byte(n+1) {
			t.Fatal("what was appended to bytes returned before has changed")
		}
	}
}

func TestOutKeepsItsOwnHash(t *testing.T) {
	h := digest()
	want := h
	var o pack.Out
	o.Hash(h)
	clear(h[:])
	holds(t, &o, want[:])
}

func TestOutsAreSeparate(t *testing.T) {
	var a, b pack.Out
	a.Text("a")
	b.Text("b")
	a.Count(300)
	b.Count(301)
	holds(t, &a, []byte{1, 'a', 0xfd, 0x2c, 1})
	holds(t, &b, []byte{1, 'b', 0xfd, 0x2d, 1})
}
