package sketch_test

import (
	"math"
	"slices"
	"testing"

	"gossamer/api"
	"gossamer/gf"
	"gossamer/sketch"
)

type list = []uint32

// scatter makes elements that look random, and are the same in every run.
type scatter uint64

func (s *scatter) next() uint32 {
	*s = *s*6364136223846793005 + 1442695040888963407
	return uint32(*s >> 32)
}

// below is a scattered number below n.
func (s *scatter) below(n int) int {
	return int(s.next()>>1) % n
}

// ids is n scattered distinct ids.
func (s *scatter) ids(n int) list {
	seen := set{}
	for len(seen) < n {
		if id := s.next(); id != 0 {
			seen[id] = struct{}{}
		}
	}
	return seen.sorted()
}

// set is a set of ids.
type set map[uint32]struct{}

// put adds ids, or removes those that are there already.
func (s set) put(ids ...uint32) {
	for _, id := range ids {
		if _, ok := s[id]; ok {
			delete(s, id)
		} else {
			s[id] = struct{}{}
		}
	}
}

// sorted is the ids in increasing order.
func (s set) sorted() list {
	ids := make(list, 0, len(s))
	for id := range s {
		ids = append(ids, id)
	}
	slices.Sort(ids)
	return ids
}

// difference is the ids that an odd number of lists has.
func difference(lists ...list) list {
	s := set{}
	for _, ids := range lists {
		s.put(ids...)
	}
	return s.sorted()
}

// encoding is the bytes of sums, low byte first.
func encoding(sums ...uint32) []byte {
	var b []byte
	for _, sum := range sums {
		for range 4 {
			b = append(b, byte(sum))
			sum >>= 8
		}
	}
	return b
}

// sums is the sums of ids, as the definition says.
func sums(capacity int, ids ...uint32) list {
	all := make(list, capacity)
	for k := range all {
		for _, id := range ids {
			all[k] ^= gf.Power(id, uint64(2*k+1))
		}
	}
	return all
}

// made is the sketch of ids.
func made(t *testing.T, capacity int, ids ...uint32) *sketch.Sketch {
	t.Helper()
	s, err := sketch.New(capacity, ids...)
	if err != nil {
		t.Fatalf("New(%d, %x): %v", capacity, ids, err)
	}
	return s
}

// of is the sketch that has sums.
func of(t *testing.T, sums ...uint32) *sketch.Sketch {
	t.Helper()
	s, err := sketch.Read(encoding(sums...))
	if err != nil {
		t.Fatalf("Read of %x: %v", sums, err)
	}
	return s
}

// check tests what a sketch says of itself.
func check(t *testing.T, s *sketch.Sketch, want list) {
	t.Helper()
	if got := s.Capacity(); got != len(want) {
		t.Fatalf("the capacity is %d, want %d", got, len(want))
	}
	if got := s.Bytes(); !slices.Equal(got, encoding(want...)) {
		t.Fatalf("the bytes are %x, want %x", got, encoding(want...))
	}
	if got := s.Empty(); got != (slices.Max(want) == 0) {
		t.Fatalf("with the sums %x, Empty is %v", want, got)
	}
}

// decodes tests that a sketch decodes to ids.
func decodes(t *testing.T, s *sketch.Sketch, want list) {
	t.Helper()
	if got, err := s.Decode(); err != nil || !slices.Equal(got, want) {
		t.Fatalf("the bytes %x decode to %x, %v, want %x", s.Bytes(), got, err, want)
	}
}

// fails tests that a sketch has no set.
func fails(t *testing.T, s *sketch.Sketch) {
	t.Helper()
	if got, err := s.Decode(); err != api.ErrDecode || len(got) != 0 {
		t.Fatalf("the bytes %x decode to %x, %v", s.Bytes(), got, err)
	}
}

// P5.1

func TestExample(t *testing.T) {
	s := made(t, 2, 1, 2)
	check(t, s, list{3, 9})
	decodes(t, s, list{1, 2})
	decodes(t, made(t, 2, 2, 1), list{1, 2})
}

func TestSums(t *testing.T) {
	s := scatter(1)
	for capacity := 1; capacity <= 40; capacity++ {
		for _, n := range []int{0, 1, 2, capacity, 50} {
			ids := append(s.ids(n), list{1, 2, 0x80000000, 0xffffffff}[:min(n, 4)]...)
			check(t, made(t, capacity, ids...), sums(capacity, ids...))
		}
	}
}

func TestIdsTwice(t *testing.T) {
	check(t, made(t, 3, 7, 7), list{0, 0, 0})
	check(t, made(t, 3, 7, 5, 7, 7), sums(3, 5, 7))
	s := made(t, 3, 7)
	for _, c := range []struct{ put, want list }{
		{list{5}, list{5, 7}},
		{list{7}, list{5}},
		{list{9, 9}, list{5}},
		{list{5}, nil},
		{nil, nil},
		{list{5, 7, 5, 5, 0xffffffff}, list{5, 7, 0xffffffff}},
	} {
		if err := s.Put(c.put...); err != nil {
			t.Fatalf("Put(%x): %v", c.put, err)
		}
		check(t, s, sums(3, c.want...))
		decodes(t, s, c.want)
	}
}

func TestNewRefuses(t *testing.T) {
	for _, c := range []struct {
		capacity int
		ids      list
	}{
		{0, nil}, {0, list{1}}, {41, nil}, {41, list{1, 2}}, {-1, nil}, {math.MinInt, nil}, {math.MaxInt, list{5}}, {1 << 32, nil},
		{1<<32 + 1, nil}, {1, list{0}}, {40, list{0, 1}}, {40, list{1, 0}}, {3, list{1, 0, 0}}, {3, list{0, 0}}, {0, list{0}},
	} {
		if s, err := sketch.New(c.capacity, c.ids...); s != nil || err != api.ErrRange {
			t.Errorf("New(%d, %x) = %v, %v", c.capacity, c.ids, s, err)
		}
	}
}

func TestRead(t *testing.T) {
	check(t, of(t, 0), list{0})
	s, err := sketch.Read([]byte{1, 2, 3, 4, 0xff, 0, 0, 0x80})
	if err != nil {
		t.Fatal(err)
	}
	check(t, s, list{0x04030201, 0x800000ff})
	random := scatter(2)
	for capacity := 1; capacity <= 40; capacity++ {
		all := random.ids(capacity)
		check(t, of(t, all...), all)
		check(t, of(t, make(list, capacity)...), make(list, capacity))
	}
}

func TestReadRefuses(t *testing.T) {
	for n := range 1000 {
		s, err := sketch.Read(make([]byte, n))
		if n%4 == 0 && n >= 4 && n <= 160 {
			if err != nil || s.Capacity() != n/4 {
				t.Errorf("%d bytes: %v, %v", n, s, err)
			}
		} else if s != nil || err != api.ErrForm {
			t.Errorf("%d bytes: %v, %v", n, s, err)
		}
	}
	if s, err := sketch.Read(nil); s != nil || err != api.ErrForm {
		t.Errorf("no bytes: %v, %v", s, err)
	}
	if s, err := sketch.Read(make([]byte, 1<<20)); s != nil || err != api.ErrForm {
		t.Errorf("many bytes: %v, %v", s, err)
	}
}

func TestPutRefuses(t *testing.T) {
	s := made(t, 4, 8, 9)
	for _, ids := range []list{{0}, {0, 1}, {1, 0}, {1, 2, 3, 0, 4}, {8, 0}, {0, 0}} {
		if err := s.Put(ids...); err != api.ErrRange {
			t.Errorf("Put(%x): %v", ids, err)
		}
		check(t, s, sums(4, 8, 9)) // none of them is added
	}
	if err := s.Put(1, 2); err != nil {
		t.Fatal(err)
	}
	check(t, s, sums(4, 1, 2, 8, 9))
}

func TestFurther(t *testing.T) {
	random := scatter(3)
	for _, capacity := range []int{1, 2, 3, 20, 40} {
		all := random.ids(capacity)
		s := of(t, all...)
		for from := range capacity + 1 {
			got, err := s.Further(from)
			if err != nil || !slices.Equal(got, encoding(all[from:]...)) {
				t.Fatalf("Further(%d) of %x = %x, %v", from, all, got, err)
			}
		}
		for _, from := range []int{-1, capacity + 1, capacity + 2, 41, math.MinInt, math.MaxInt, -1 << 32} {
			if got, err := s.Further(from); len(got) != 0 || err != api.ErrRange {
				t.Errorf("Further(%d) of %d sums = %x, %v", from, capacity, got, err)
			}
		}
		check(t, s, all)
	}
}

func TestJoin(t *testing.T) {
	random := scatter(4)
	for _, capacity := range []int{1, 2, 20, 39, 40} {
		all := random.ids(capacity)
		s := of(t, all...)
		for n := range 200 {
			further := encoding(random.ids(50)...)[:n]
			j, err := s.Join(further)
			switch {
			case n%4 != 0: // even if there are too many
				if j != nil || err != api.ErrForm {
					t.Fatalf("%d sums and %d bytes: %v, %v", capacity, n, j, err)
				}
			case capacity+n/4 > 40:
				if j != nil || err != api.ErrRange {
					t.Fatalf("%d sums and %d bytes: %v, %v", capacity, n, j, err)
				}
			default:
				if err != nil || !slices.Equal(j.Bytes(), append(encoding(all...), further...)) {
					t.Fatalf("%d sums and the bytes %x: %v, %v", capacity, further, j, err)
				}
			}
		}
		check(t, s, all)
	}
}

func TestJoinWithNothing(t *testing.T) {
	s := made(t, 2, 1, 2)
	for _, further := range [][]byte{nil, {}} {
		j, err := s.Join(further)
		if err != nil || j == s {
			t.Fatal(j, err)
		}
		check(t, j, list{3, 9})
	}
}

func TestWith(t *testing.T) {
	random := scatter(5)
	for _, a := range []int{1, 2, 5, 39, 40} {
		for _, b := range []int{1, 3, 5, 40} {
			first, second := random.ids(a), random.ids(b)
			s, o := of(t, first...), of(t, second...)
			want := make(list, min(a, b))
			for k := range want {
				want[k] = first[k] ^ second[k]
			}
			with, err := s.With(o)
			if err != nil {
				t.Fatal(err)
			}
			check(t, with, want)
			check(t, s, first)
			check(t, o, second)
		}
	}
	s := made(t, 3, 4, 5)
	if with, err := s.With(s); err != nil || !with.Empty() || with.Capacity() != 3 || s.Empty() {
		t.Errorf("a sketch with itself: %v, %v", with, err)
	}
	if with, err := s.With(nil); with != nil || err != api.ErrRange {
		t.Errorf("a sketch with nil: %v, %v", with, err)
	}
}

func TestEmpty(t *testing.T) {
	for _, c := range []struct {
		s    *sketch.Sketch
		want bool
	}{
		{made(t, 1), true},
		{made(t, 40), true},
		{made(t, 1, 5), false},
		{made(t, 2, 5, 5), true},
		{made(t, 1, 1, 2, 3), true}, // more ids than the capacity
		{made(t, 2, 1, 2, 3), false},
		{of(t, 0, 0, 1<<31), false},
		{of(t, 1, 0, 0), false},
	} {
		if got := c.s.Empty(); got != c.want {
			t.Errorf("Empty of %x is %v", c.s.Bytes(), got)
		}
	}
}

func TestDecode(t *testing.T) {
	random := scatter(6)
	for capacity := 1; capacity <= 40; capacity++ {
		for _, n := range []int{0, 1, 2, capacity / 2, capacity - 1, capacity} {
			ids := random.ids(min(n, capacity))
			s := made(t, capacity, ids...)
			decodes(t, s, ids)
			decodes(t, s, ids) // the sketch is still the same
			slices.Reverse(ids)
			decodes(t, made(t, capacity, ids...), difference(ids))
		}
	}
}

func TestDecodeClosePoints(t *testing.T) {
	var powers, low, high list
	for i := range uint32(40) {
		low, high = append(low, i+1), append(high, 0xffffffff-39+i)
		if i < 32 {
			powers = append(powers, 1<<i)
		}
	}
	for _, ids := range []list{powers, low, high} {
		decodes(t, made(t, 40, ids...), ids)
		decodes(t, made(t, len(ids), ids...), ids)
	}
}

// cubeRoot is a cube root of 1 other than 1.
func cubeRoot() uint32 {
	return gf.Power(3, (1<<32-1)/3)
}

func TestDecodeFailsForTooManyIds(t *testing.T) {
	// The sums of three ids whose sum is 0 have the shortest recurrence of those ids, which are too many.
	for _, r := range []uint32{1, 2, 0xdeadbeef} {
		w := cubeRoot()
		ids := list{r, gf.Mul(r, w), gf.Mul(r, gf.Square(w))}
		s := made(t, 2, ids...)
		check(t, s, list{0, gf.Mul(r, gf.Square(r))})
		fails(t, s)
		decodes(t, made(t, 3, ids...), difference(ids))
	}
	random := scatter(7)
	for capacity := 1; capacity <= 40; capacity++ {
		for more := 1; more <= 3; more++ {
			ids := random.ids(capacity + more)
			s := made(t, capacity, ids...)
			got, err := s.Decode()
			if err == nil && (len(got) > capacity || !slices.Equal(sums(capacity, got...), sums(capacity, ids...))) {
				t.Fatalf("%d sums of %x decode to %x", capacity, ids, got)
			}
			if err != nil {
				fails(t, s)
			}
		}
	}
	for _, n := range []int{60, 61, 80, 100} {
		fails(t, made(t, 40, random.ids(n)...))
	}
}

func TestDecodeFailsForOtherSums(t *testing.T) {
	for _, all := range []list{{0, 1}, {0, 0x8d}, {0, 0, 1}, {0, 5, 0}, {0, 0, 0, 0xffffffff}, {1, 0, 0}, {1, 1, 0}, {7, 0, 0},
		append(make(list, 39), 1)} {
		fails(t, of(t, all...))
	}
	// With two sums, x + y = 1 and x^3 + y^3 = 0 hold for the cube roots of 1.
	decodes(t, of(t, 1, 0), difference(list{cubeRoot(), gf.Square(cubeRoot())}))
}

func TestDecodeOneSum(t *testing.T) {
	random := scatter(8)
	for _, id := range append(random.ids(100), 1, 2, 1<<31, 0xffffffff) {
		decodes(t, of(t, id), list{id})
	}
	decodes(t, of(t, 0), nil)
}

func TestDecodeTwoSums(t *testing.T) {
	random := scatter(9)
	seen := [3]int{}
	for range 400 {
		a, b := random.next()|1, random.next()
		if random.below(20) == 0 {
			b = gf.Power(a, 3) // of one id
		}
		// With x + y = a and x^3 + y^3 = b, the product is (a^3 + b) / a, and x = az for z^2 + z = product / a^2.
		product := gf.Mul(gf.Power(a, 3)^b, gf.Inverse(a))
		z, ok := gf.Solve(gf.Mul(product, gf.Square(gf.Inverse(a))))
		s := of(t, a, b)
		switch {
		case !ok:
			fails(t, s)
			seen[0]++
		case product == 0:
			decodes(t, s, list{a})
			seen[1]++
		default:
			decodes(t, s, difference(list{gf.Mul(a, z), gf.Mul(a, z^1)}))
			seen[2]++
		}
	}
	if slices.Min(seen[:]) < 5 {
		t.Errorf("no ids, one id and two ids came %d times", seen)
	}
}

// subfield is the elements, but 0, of a subfield; 3 is a generator of the field's group.
func subfield(size uint64) list {
	var elements list
	for i := range size - 1 {
		elements = append(elements, gf.Power(3, i*((1<<32-1)/(size-1))))
	}
	return elements
}

// orbits is the groups of at most most ids that have with each id its power to size. All that are asked for below are in
// the subfield of 2^16 elements.
func orbits(size uint64, most int) []list {
	var all []list
	seen := set{}
	for _, id := range subfield(1 << 16) {
		if _, ok := seen[id]; ok {
			continue
		}
		var orbit list
		for ; len(orbit) == 0 || id != orbit[0]; id = gf.Power(id, size) {
			orbit = append(orbit, id)
			seen.put(id)
		}
		if len(orbit) <= most {
			all = append(all, orbit)
		}
	}
	return all
}

// unions calls a function with each union of orbits that has at most a number of ids.
func unions(orbits []list, most int, begun list, call func(ids list)) {
	call(begun)
	for i, orbit := range orbits {
		if len(orbit) <= most {
			unions(orbits[i+1:], most-len(orbit), slices.Concat(begun, orbit), call)
		}
	}
}

// A set whose sums are in a subfield has with each id its power to the subfield's size, as the set of these powers has the
// same sums. So all sets with such sums can be listed.
func TestDecodeAllSumsOfSubfields(t *testing.T) {
	for _, c := range []struct {
		size            uint64
		capacity, count int // of the sets, where it was worked out by hand
	}{
		{2, 1, 2}, {2, 2, 3}, {2, 3, 4}, {2, 4, 7}, {2, 7, 0}, {2, 9, 0}, {2, 11, 0},
		{4, 1, 4}, {4, 2, 13}, {4, 3, 32}, {4, 5, 0},
		{16, 1, 16}, {16, 2, 241}, {16, 3, 2496},
	} {
		sets := map[string]list{}
		unions(orbits(c.size, c.capacity), c.capacity, nil, func(ids list) {
			sets[string(encoding(sums(c.capacity, ids...)...))] = difference(ids)
		})
		if c.count > 0 && len(sets) != c.count {
			t.Fatalf("%d sets for %d sums of %d elements, want %d", len(sets), c.capacity, c.size, c.count)
		}
		elements := append(subfield(c.size), 0)
		decoded := 0
		for i := range int(math.Pow(float64(c.size), float64(c.capacity))) {
			var all list
			for range c.capacity {
				all = append(all, elements[i%int(c.size)])
				i /= int(c.size)
			}
			s := of(t, all...)
			if want, ok := sets[string(s.Bytes())]; ok {
				decodes(t, s, want)
				decoded++
			} else {
				fails(t, s)
			}
		}
		if decoded != len(sets) {
			t.Errorf("%d sets of %d for %d sums of %d elements", decoded, len(sets), c.capacity, c.size)
		}
	}
}

func TestCopy(t *testing.T) {
	s := made(t, 3, 4, 5)
	c := s.Copy()
	if c == s {
		t.Fatal("the copy is the sketch itself")
	}
	check(t, c, sums(3, 4, 5))
	decodes(t, c, list{4, 5})
}

func TestNil(t *testing.T) {
	var none *sketch.Sketch
	for _, ids := range []list{nil, {1}, {0}} {
		if err := none.Put(ids...); err != api.ErrRange {
			t.Errorf("Put(%x): %v", ids, err)
		}
	}
	for _, from := range []int{-1, 0, 1} {
		if b, err := none.Further(from); len(b) != 0 || err != api.ErrRange {
			t.Errorf("Further(%d) = %x, %v", from, b, err)
		}
	}
	for _, n := range []int{0, 3, 4, 164} {
		if s, err := none.Join(make([]byte, n)); s != nil || err != api.ErrRange {
			t.Errorf("Join of %d bytes: %v, %v", n, s, err)
		}
	}
	for _, o := range []*sketch.Sketch{nil, made(t, 1, 1)} {
		if s, err := none.With(o); s != nil || err != api.ErrRange {
			t.Errorf("With(%v) = %v, %v", o, s, err)
		}
	}
	if ids, err := none.Decode(); len(ids) != 0 || err != api.ErrDecode {
		t.Errorf("Decode: %x, %v", ids, err)
	}
	if none.Capacity() != 0 || len(none.Bytes()) != 0 || !none.Empty() || none.Copy() != nil {
		t.Error("Capacity, Bytes, Empty or Copy")
	}
}

// both is a sketch and the sums it should have.
type both struct {
	s    *sketch.Sketch
	sums list
}

// added is the sums of two sketches, added.
func added(a, b list) list {
	all := make(list, min(len(a), len(b)))
	for k := range all {
		all[k] = a[k] ^ b[k]
	}
	return all
}

// step makes a sketch out of others by a scattered call, or changes the first.
func step(t *testing.T, random *scatter, a, b both) both {
	t.Helper()
	switch random.below(6) {
	case 0:
		ids := random.ids(random.below(4))
		if err := a.s.Put(ids...); err != nil {
			t.Fatal(err)
		}
		return both{a.s, added(a.sums, sums(len(a.sums), ids...))}
	case 1:
		s, err := a.s.With(b.s)
		if err != nil {
			t.Fatal(err)
		}
		return both{s, added(a.sums, b.sums)}
	case 2:
		from := random.below(len(b.sums) + 1)
		further, err := b.s.Further(from)
		if err != nil {
			t.Fatal(err)
		}
		s, err := a.s.Join(further)
		if len(a.sums)+len(b.sums)-from > 40 {
			if s != nil || err != api.ErrRange {
				t.Fatal(s, err)
			}
			return a
		}
		if err != nil {
			t.Fatal(err)
		}
		return both{s, slices.Concat(a.sums, b.sums[from:])}
	case 3:
		if err := a.s.Put(random.next(), 0); err != api.ErrRange {
			t.Fatal(err)
		}
		return a
	case 4:
		return both{a.s.Copy(), slices.Clone(a.sums)}
	}
	capacity, ids := 1+random.below(40), random.ids(random.below(30))
	return both{made(t, capacity, ids...), sums(capacity, ids...)}
}

func TestCallsInAnyOrder(t *testing.T) {
	random := scatter(10)
	all := []both{{made(t, 5), make(list, 5)}, {made(t, 10), make(list, 10)}, {made(t, 20, 1), sums(20, 1)}, {made(t, 40), make(list, 40)}}
	for range 2000 {
		i := random.below(len(all))
		to, made := random.below(len(all)), step(t, &random, all[i], all[random.below(len(all))])
		if made.s == all[i].s {
			to = i
		}
		all[to] = made
		for _, one := range all {
			check(t, one.s, one.sums)
		}
	}
}

// P5.2

func TestDifferences(t *testing.T) {
	random := scatter(11)
	for range 300 {
		ids := random.ids(120)
		most := 1 + random.below(40)
		only := random.below(most + 1)
		split := random.below(only + 1)
		shared := 50 + random.below(20)
		a, b := slices.Concat(ids[:split], ids[only:shared]), ids[split:shared]
		first, second := most+random.below(41-most), most
		if random.below(2) == 0 {
			first, second = second, first
		}
		s, o := made(t, first, a...), made(t, second, b...)
		for _, pair := range [][2]*sketch.Sketch{{s, o}, {o, s}} {
			with, err := pair[0].With(pair[1])
			if err != nil || with.Capacity() != most {
				t.Fatal(with, err)
			}
			decodes(t, with, ids[:only])
		}
	}
}

func TestDifferenceOfEqualSets(t *testing.T) {
	random := scatter(12)
	ids := random.ids(500)
	a := made(t, 40, ids...)
	slices.Reverse(ids)
	with, err := a.With(made(t, 1, ids...))
	if err != nil || !with.Empty() || with.Capacity() != 1 {
		t.Fatal(with, err)
	}
	decodes(t, with, nil)
}

func TestWhatIsDecodedHasTheSums(t *testing.T) {
	random := scatter(13)
	seen := [2]int{}
	for range 1000 {
		capacity := 1 + random.below(6)
		s := of(t, random.ids(capacity)...)
		ids, err := s.Decode()
		if err != nil {
			fails(t, s)
			seen[0]++
			continue
		}
		seen[1]++
		if len(ids) > capacity || !slices.Equal(ids, difference(ids)) || slices.Contains(ids, 0) ||
			!slices.Equal(s.Bytes(), encoding(sums(capacity, ids...)...)) {
			t.Fatalf("%x decodes to %x", s.Bytes(), ids)
		}
	}
	if seen[0] < 100 || seen[1] < 100 {
		t.Errorf("failures and sets came %d times", seen)
	}
}

// P5.3

func TestTruncatedAndExtended(t *testing.T) {
	random := scatter(14)
	for capacity := 1; capacity <= 40; capacity++ {
		ids := random.ids(random.below(capacity + 1))
		whole := made(t, capacity, ids...)
		for from := 1; from <= capacity; from++ {
			further, err := whole.Further(from)
			if err != nil {
				t.Fatal(err)
			}
			truncated, err := sketch.Read(whole.Bytes()[:4*from])
			if err != nil || !slices.Equal(truncated.Bytes(), made(t, from, ids...).Bytes()) {
				t.Fatal(truncated, err)
			}
			joined, err := truncated.Join(further)
			if err != nil {
				t.Fatal(err)
			}
			check(t, joined, sums(capacity, ids...))
			if from == capacity/2 {
				decodes(t, joined, ids)
			}
		}
	}
}

// P5.4

// roomy is a list with spare capacity behind it, and the whole of its memory.
func roomy[E uint32 | byte](a []E) ([]E, []E) {
	whole := append(slices.Clone(a), 11, 12, 13, 14, 15, 16, 17, 18)
	return whole[:len(a)], whole
}

// fill overwrites a list and its spare capacity.
func fill[E uint32 | byte](a []E) {
	a = a[:cap(a)]
	for i := range a {
		a[i] = 99
	}
}

func TestIdsAreOnlyRead(t *testing.T) {
	ids, whole := roomy(list{9, 3, 7, 3})
	before := slices.Clone(whole)
	s, o := made(t, 3, ids...), made(t, 3)
	if err := o.Put(ids...); err != nil || !slices.Equal(whole, before) {
		t.Fatalf("the ids became %x, %v", whole, err)
	}
	fill(whole)
	decodes(t, s, list{7, 9})
	decodes(t, o, list{7, 9})
}

func TestBytesAreOnlyRead(t *testing.T) {
	b, whole := roomy(encoding(3, 9))
	before := slices.Clone(whole)
	s, err := sketch.Read(b)
	if err != nil {
		t.Fatal(err)
	}
	j, err := s.Join(b)
	if err != nil || !slices.Equal(whole, before) {
		t.Fatalf("the bytes became %x, %v", whole, err)
	}
	fill(whole)
	check(t, s, list{3, 9})
	check(t, j, list{3, 9, 3, 9})
}

func TestResultsAreApart(t *testing.T) {
	s := made(t, 3, 4, 5)
	for range 2 {
		further, err := s.Further(1)
		if err != nil || !slices.Equal(further, encoding(sums(3, 4, 5)[1:]...)) {
			t.Fatal(further, err)
		}
		ids, err := s.Decode()
		if err != nil || !slices.Equal(ids, list{4, 5}) {
			t.Fatal(ids, err)
		}
		b := s.Bytes()
		check(t, s, sums(3, 4, 5))
		fill(further)
		fill(ids)
		fill(b)
	}
}

func TestSketchesAreApart(t *testing.T) {
	calls := map[string]func(s, o *sketch.Sketch) (*sketch.Sketch, error){
		"Copy": func(s, _ *sketch.Sketch) (*sketch.Sketch, error) { return s.Copy(), nil },
		"Join": func(s, _ *sketch.Sketch) (*sketch.Sketch, error) { return s.Join(nil) },
		"Join with more": func(s, o *sketch.Sketch) (*sketch.Sketch, error) {
			return s.Join(o.Bytes())
		},
		"With":        func(s, o *sketch.Sketch) (*sketch.Sketch, error) { return s.With(o) },
		"With itself": func(s, _ *sketch.Sketch) (*sketch.Sketch, error) { return s.With(s) },
	}
	for name, call := range calls {
		s, o := made(t, 3, 4, 5), made(t, 3)
		result, err := call(s, o)
		if err != nil {
			t.Fatal(err)
		}
		before := result.Bytes()
		if s.Put(8) != nil || o.Put(6) != nil || !slices.Equal(result.Bytes(), before) {
			t.Errorf("%s: the result changes with the sketches", name)
		}
		if result.Put(7) != nil || slices.Equal(result.Bytes(), before) {
			t.Errorf("%s: the result doesn't change", name)
		}
		check(t, s, sums(3, 4, 5, 8))
		check(t, o, sums(3, 6))
	}
}

func TestJoinedSketchesAreApart(t *testing.T) {
	s := made(t, 2, 4, 5)
	first, err := s.Join(encoding(1))
	if err != nil {
		t.Fatal(err)
	}
	second, err := s.Join(encoding(2))
	if err != nil {
		t.Fatal(err)
	}
	check(t, first, append(sums(2, 4, 5), 1))
	check(t, second, append(sums(2, 4, 5), 2))
}
