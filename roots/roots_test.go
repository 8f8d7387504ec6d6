package roots_test

import (
	"slices"
	"testing"

	"gossamer/api"
	"gossamer/gf"
	"gossamer/poly"
	"gossamer/roots"
)

type list = []uint32

// scatter makes elements that look random, and are the same in every run.
type scatter uint64

func (s *scatter) next() uint32 {
	*s = *s*6364136223846793005 + 1442695040888963407
	return uint32(*s >> 32)
}

// elements is n scattered elements.
func (s *scatter) elements(n int) list {
	a := make(list, n)
	for i := range a {
		a[i] = s.next()
	}
	return a
}

// polynomial is a scattered polynomial of a degree.
func (s *scatter) polynomial(degree int) list {
	return append(s.elements(degree), s.next()|1)
}

// sorted is the distinct elements of lists in increasing order.
func sorted(lists ...list) list {
	all := slices.Concat(lists...)
	slices.Sort(all)
	return slices.Compact(all)
}

// product multiplies polynomials.
func product(factors ...list) list {
	p := list{1}
	for _, f := range factors {
		p = poly.Mul(p, f)
	}
	return p
}

// check tests the four functions that look for roots; want is the distinct roots in increasing order.
func check(t *testing.T, p, want list) {
	t.Helper()
	if got, err := roots.All(p); err != nil || !slices.Equal(got, want) {
		t.Fatalf("All(%x) = %x, %v, want %x", p, got, err, want)
	}
	if got, err := roots.Count(p); err != nil || got != len(want) {
		t.Fatalf("Count(%x) = %d, %v, want %d", p, got, err, len(want))
	}
	if got, err := roots.Linear(p); err != nil || !slices.Equal(got, poly.From(want...)) {
		t.Fatalf("Linear(%x) = %x, %v, want %x", p, got, err, poly.From(want...))
	}
	splits := len(want) == poly.Degree(p)
	if !splits {
		want = nil
	}
	if got, ok := roots.Split(p); ok != splits || !slices.Equal(got, want) {
		t.Fatalf("Split(%x) = %x, %v, want %x, %v", p, got, ok, want, splits)
	}
}

// nonPower is a scattered element that isn't a power to n, a prime that divides 2^32 - 1.
func (s *scatter) nonPower(n uint64) uint32 {
	for {
		if a := s.next(); a != 0 && gf.Power(a, (1<<32-1)/n) != 1 {
			return a
		}
	}
}

// rootless is polynomials without roots.
func rootless() []list {
	s := scatter(1)
	const traced = 1 << 25 // of trace 1, so that x^2 + x + traced is never 0
	quadratic := list{traced, 1, 1}
	all := []list{{1}, {0x80000001}, {6, 0, 0}, quadratic, append(poly.Scale(quadratic, 7), 0)}
	for range 5 {
		a := s.next() | 1
		all = append(all, list{gf.Mul(gf.Square(a), traced), a, 1})
	}
	for _, n := range []uint64{3, 5, 17} {
		p := append(make(list, n), 1)
		p[0] = s.nonPower(n)
		all = append(all, p)
	}
	return append(all, poly.Mul(all[5], all[6]), poly.Mul(quadratic, quadratic))
}

// duals is for each power of x an element whose product with it has the trace 1, while those with the lower powers have the
// trace 0. (That is tested below.)
func duals() list {
	return list{
		0x2888889d, 0x94444408, 0x62aaaa99, 0x99dddd97, 0xcceeee8d, 0xe6777700, 0x733bbb80, 0x1115555d,
		0x888aaae8, 0x44455574, 0x2222aaba, 0x1111555d, 0x8888aae8, 0x44445574, 0x22222aba, 0x1111155d,
		0x88888ae8, 0x44444574, 0x222222ba, 0x1111115d, 0x888888e8, 0x44444474, 0x2222223a, 0x1111111d,
		0x888888c8, 0x44444464, 0x22222232, 0x11111119, 0x888888ca, 0x44444465, 0xa2222274, 0x5111113a,
	}
}

// zeros is the ways to write 0.
func zeros() []list {
	return []list{nil, {}, {0}, {0, 0, 0}, make(list, 100)}
}

// P4.1

func TestKnownRoots(t *testing.T) {
	for _, c := range []struct{ p, want list }{
		{list{1}, nil}, // constants have no roots, and split
		{list{0xffffffff, 0, 0}, nil},
		{list{0, 1}, list{0}},
		{list{7, 1}, list{7}},
		{list{0x8d, 2}, list{0x80000000}},
		{list{0, 5, 0, 0}, list{0}},
		{list{2, 3, 1}, list{1, 2}}, // the chapter's example
		{list{2, 3, 1, 0}, list{1, 2}},
		{list{4, 6, 2}, list{1, 2}},
		{list{0, 1, 1}, list{0, 1}},
		{list{0, 0, 1}, list{0}}, // the same root several times
		{list{1, 0, 1}, list{1}},
		{list{0x8d, 0, 1}, list{0x10000}},
		{list{0, 0, 0, 0, 9}, list{0}},
		{list{0, 0, 1, 1}, list{0, 1}},
		{list{6, 1, 1}, list{2, 3}},
		{list{1 << 25, 1, 1}, nil}, // no roots
		{list{0, 1 << 25, 1, 1}, list{0}},
		{list{0x8d, 0x80000002, 1}, list{2, 0x80000000}}, // increasing as numbers without signs
		{list{0, 0xffffffff, 1}, list{0, 0xffffffff}},
	} {
		check(t, c.p, c.want)
	}
}

func TestRootsOfScatteredElements(t *testing.T) {
	s := scatter(2)
	for n := range 61 {
		elements := sorted(s.elements(n))
		p := poly.Scale(poly.From(elements...), s.next()|1)
		check(t, append(p, make(list, n%3)...), elements)
	}
}

func TestRepeatedRoots(t *testing.T) {
	s := scatter(3)
	for n := range 31 {
		elements := s.elements(n)
		check(t, poly.From(append(elements, elements...)...), sorted(elements))
		check(t, poly.From(append(elements, elements[:n/2]...)...), sorted(elements))
		check(t, poly.From(append(elements, elements[:min(n, 1)]...)...), sorted(elements))
	}
	for n := 1; n <= 60; n++ {
		for _, r := range []uint32{0, 1, 0xdeadbeef} {
			check(t, poly.From(slices.Repeat(list{r}, n)...), list{r})
		}
	}
}

func TestRootsBesideRootlessFactors(t *testing.T) {
	s := scatter(4)
	for _, f := range rootless() {
		check(t, f, nil)
		for _, n := range []int{1, 2, 3, 10, 30} {
			elements := s.elements(n)
			check(t, poly.Mul(f, poly.From(elements...)), sorted(elements))
			check(t, product(f, poly.From(elements...), poly.From(elements[0])), sorted(elements))
		}
		check(t, poly.Mul(f, list{0, 1}), list{0})
	}
}

func TestRootsOfClosePoints(t *testing.T) {
	var powers, low, high list
	for i := range uint32(60) {
		low, high = append(low, i), append(high, 0xffffffff-59+i)
		if i < 32 {
			powers = append(powers, 1<<i)
		}
	}
	for _, elements := range []list{powers, low, high, sorted(duals()), append(list{0}, powers...)} {
		check(t, poly.From(elements...), elements)
		slices.Reverse(elements)
		check(t, poly.From(elements...), sorted(elements))
	}
}

func TestRootsSeparatedByOnePowerAlone(t *testing.T) {
	s := scatter(5)
	for i, d := range duals() {
		for j := range i + 1 {
			want := uint32(0)
			if j == i {
				want = 1
			}
			if got := gf.Trace(gf.Mul(1<<j, d)); got != want {
				t.Fatalf("the trace of x^%d times %x is %x", j, d, got)
			}
		}
		check(t, poly.From(0, d), list{0, d})
		a := s.next()
		check(t, poly.From(a, a^d), sorted(list{a, a ^ d}))
		check(t, poly.From(a, a^d, a^d, 1, 1^d, 5), sorted(list{a, a ^ d, 1, 1 ^ d, 5}))
	}
	last := duals()[24:]
	spanned := list{0}
	for _, d := range last[3:] {
		for _, a := range slices.Clone(spanned) {
			spanned = append(spanned, a^d)
		}
	}
	check(t, poly.From(spanned...), sorted(spanned))
}

// common is the greatest common divisor of numbers.
func common(a, b uint64) uint64 {
	for b > 0 {
		a, b = b, a%b
	}
	return a
}

// generator is an element whose powers are all elements but 0.
const generator = 3

func TestGenerator(t *testing.T) {
	for _, prime := range []uint64{3, 5, 17, 257, 65537} {
		if gf.Power(generator, (1<<32-1)/prime) == 1 {
			t.Errorf("%x isn't a generator", generator)
		}
	}
}

func TestRootsOfUnity(t *testing.T) {
	for n := uint64(1); n <= 60; n++ {
		p := make(list, n+1)
		p[0], p[n] = 1, 1
		count := common(n, 1<<32-1)
		var want list
		for i := range count {
			want = append(want, gf.Power(generator, i*((1<<32-1)/count)))
		}
		check(t, p, sorted(want))
	}
}

func TestQuadraticEquations(t *testing.T) {
	s := scatter(6)
	seen := [2]int{}
	for range 300 {
		// With x = by, x^2 + bx + c is b^2 times y^2 + y + c / b^2.
		b, c := s.next()|1, s.next()
		var want list
		if y, ok := gf.Solve(gf.Mul(c, gf.Square(gf.Inverse(b)))); ok {
			want = sorted(list{gf.Mul(b, y), gf.Mul(b, y^1)})
		}
		check(t, list{c, b, 1}, want)
		seen[len(want)/2]++
	}
	if seen[0] < 50 || seen[1] < 50 {
		t.Errorf("no roots and two roots came %d times", seen)
	}
}

func TestRootsOfSubfields(t *testing.T) {
	for _, size := range []int{2, 4, 16} {
		p := make(list, size+1)
		p[1], p[size] = 1, 1
		want := list{0}
		for i := range size - 1 {
			want = append(want, gf.Power(generator, uint64(i)*((1<<32-1)/uint64(size-1))))
		}
		check(t, p, sorted(want))
	}
	// The field has no subfield of 8 or of 32 elements; all that it shares with those fields is 0 and 1.
	for _, size := range []int{8, 32} {
		p := make(list, size+1)
		p[1], p[size] = 1, 1
		check(t, p, list{0, 1})
	}
}

func TestRootsAreAllOfManyElements(t *testing.T) {
	s := scatter(7)
	for degree := 1; degree < 8; degree++ {
		p := s.polynomial(degree)
		// A root among the elements tried is made certain.
		p[0] ^= poly.At(p, 1000)
		all, err := roots.All(p)
		if err != nil || !slices.IsSorted(all) || !slices.Contains(all, 1000) {
			t.Fatalf("All(%x) = %x, %v", p, all, err)
		}
		for x := range uint32(1 << 14) {
			if zero := poly.At(p, x) == 0; zero != slices.Contains(all, x) {
				t.Fatalf("All(%x) = %x, but at %x: %v", p, all, x, zero)
			}
		}
		for _, r := range all {
			if poly.At(p, r) != 0 {
				t.Fatalf("All(%x) = %x, but %x is no root", p, all, r)
			}
		}
	}
}

func TestGreatestDegree(t *testing.T) {
	s := scatter(8)
	elements := sorted(s.elements(60))
	p := poly.From(elements...)
	check(t, p, elements)
	check(t, append(p, make(list, 1000)...), elements) // the zeros don't count
	check(t, append(make(list, 60), 5), list{0})
	if got, err := roots.Traces(append(make(list, 60), 5, 0), 3); err != nil || len(got) != 33 {
		t.Errorf("the traces modulo x^60 are %x, %v", got, err)
	}
}

func TestErrors(t *testing.T) {
	s := scatter(9)
	refused := zeros()
	refused = append(refused,
		append(make(list, 61), 1),
		append(make(list, 61), 1, 0, 0, 0),
		s.polynomial(61),
		s.polynomial(62),
		s.polynomial(1000),
		poly.From(s.elements(61)...),
		append(make(list, 100000), 1))
	for _, p := range refused {
		if got, err := roots.All(p); err != api.ErrRange || len(got) != 0 {
			t.Errorf("All(%x) = %x, %v", p, got, err)
		}
		if got, ok := roots.Split(p); ok || len(got) != 0 {
			t.Errorf("Split(%x) = %x, %v", p, got, ok)
		}
		if got, err := roots.Count(p); err != api.ErrRange || got != 0 {
			t.Errorf("Count(%x) = %d, %v", p, got, err)
		}
		if got, err := roots.Linear(p); err != api.ErrRange || len(got) != 0 {
			t.Errorf("Linear(%x) = %x, %v", p, got, err)
		}
		for _, by := range []uint32{0, 1, 9} {
			if got, err := roots.Traces(p, by); err != api.ErrRange || len(got) != 0 {
				t.Errorf("Traces(%x, %x) = %x, %v", p, by, got, err)
			}
		}
	}
}

// powers is the trace polynomial reduced only at the end of each square, as the definition says.
func powers(p list, by uint32) list {
	term := list{0, by}
	var sum list
	for range 32 {
		sum = poly.Add(sum, term)
		_, term, _ = poly.Divide(poly.Mul(term, term), p)
	}
	_, rest, _ := poly.Divide(sum, p)
	return rest
}

func TestTraces(t *testing.T) {
	for _, c := range []struct {
		p    list
		by   uint32
		want list
	}{
		{list{1}, 1, nil}, // modulo a constant everything is 0
		{list{5, 0}, 0xffffffff, nil},
		{list{0, 0, 1}, 9, list{0, 9}},
		{list{0, 0, 0, 7, 0}, 9, list{0, 9, 0x41}},
		{list{0, 0, 0, 1}, 0x10000, list{0, 0x10000, 0x8d}},
		{list{0, 1}, 9, nil},
		{list{1, 1}, 1 << 25, list{1}}, // the traces of x^25 and of 1
		{list{1, 1}, 1, nil},
		{list{2, 3, 1}, 0, nil},
		{list{2, 3, 1, 0}, 0x62aaaa99, list{0}},
		{list{0, 1, 1}, 1 << 25, list{0, 1}},
	} {
		got, err := roots.Traces(c.p, c.by)
		if err != nil || !slices.Equal(got, poly.Trim(c.want)) {
			t.Errorf("Traces(%x, %x) = %x, %v, want %x", c.p, c.by, got, err, c.want)
		}
	}
}

func TestTracesBySquares(t *testing.T) {
	s := scatter(10)
	for degree := 0; degree <= 60; degree += 3 {
		p := s.polynomial(degree)
		for _, by := range []uint32{0, 1, 2, 0x80000000, s.next()} {
			got, err := roots.Traces(append(p, 0), by)
			if err != nil || !slices.Equal(got, powers(p, by)) {
				t.Fatalf("Traces(%x, %x) = %x, %v, want %x", p, by, got, err, powers(p, by))
			}
		}
	}
}

func TestTracesModuloPowersOfX(t *testing.T) {
	for degree := range 61 {
		var want list
		for i, c := 1, uint32(0xcafe); i < degree; i, c = 2*i, gf.Square(c) {
			want = append(want, make(list, i-len(want))...)
			want = append(want, c)
		}
		got, err := roots.Traces(append(make(list, degree), 3), 0xcafe)
		if err != nil || !slices.Equal(got, want) {
			t.Errorf("modulo x^%d the traces are %x, %v, want %x", degree, got, err, want)
		}
	}
}

// P4.2

func TestRootsOfProducts(t *testing.T) {
	s := scatter(11)
	polynomials := append(rootless(), list{0, 1}, list{0, 0, 3}, list{1, 1}, poly.From(1, 2, 3), poly.From(3, 3, 4))
	for degree := 1; degree < 30; degree += 4 {
		polynomials = append(polynomials, s.polynomial(degree))
	}
	for _, a := range polynomials {
		for _, b := range polynomials {
			of, err := roots.All(a)
			others, bad := roots.All(b)
			if err != nil || bad != nil {
				t.Fatal(err, bad)
			}
			got, err := roots.All(poly.Mul(a, b))
			if want := sorted(of, others); err != nil || !slices.Equal(got, want) {
				t.Fatalf("the product of %x and %x has the roots %x, %v, want %x", a, b, got, err, want)
			}
		}
	}
}

func TestPolynomialsOfDistinctElementsSplit(t *testing.T) {
	s := scatter(12)
	for n := range 61 {
		elements := s.elements(n)
		if n > 5 {
			elements[0], elements[1], elements[2], elements[3] = 0, 1, 0xffffffff, 0x80000000
		}
		want := sorted(elements)
		if len(want) != n {
			t.Fatalf("%x isn't distinct", elements)
		}
		got, ok := roots.Split(poly.From(elements...))
		if !ok || !slices.Equal(got, want) {
			t.Errorf("the polynomial of %x splits: %v, into %x", want, ok, got)
		}
		if n == 0 || n == 60 {
			continue
		}
		if got, ok := roots.Split(poly.From(append(elements, elements[n/2])...)); ok || len(got) != 0 {
			t.Errorf("the polynomial of %x with %x twice splits: %v, into %x", want, elements[n/2], ok, got)
		}
	}
}

func TestTracesAtRoots(t *testing.T) {
	s := scatter(13)
	seen := [2]int{}
	for n := range 30 {
		elements := append(s.elements(n), 0, 1, 0x80000000)
		p := product(rootless()[n%5], poly.From(elements...), poly.From(elements[:n/2]...))
		for range 5 {
			by := s.next()
			traces, err := roots.Traces(p, by)
			if err != nil {
				t.Fatal(err)
			}
			for _, r := range elements {
				want := gf.Trace(gf.Mul(by, r))
				if got := poly.At(traces, r); got != want {
					t.Fatalf("Traces(%x, %x) is %x at %x, want %x", p, by, got, r, want)
				}
				seen[want]++
			}
		}
	}
	if seen[0] < 100 || seen[1] < 100 {
		t.Errorf("the traces 0 and 1 came %d times", seen)
	}
}

// P4.3

// calls is every function, with its result if that is a list.
func calls() map[string]func(p list) list {
	return map[string]func(p list) list{
		"All":    func(p list) list { all, _ := roots.All(p); return all },
		"Split":  func(p list) list { all, _ := roots.Split(p); return all },
		"Count":  func(p list) list { roots.Count(p); return nil },
		"Linear": func(p list) list { linear, _ := roots.Linear(p); return linear },
		"Traces": func(p list) list { traces, _ := roots.Traces(p, 9); return traces },
		"Traces by 0": func(p list) list {
			traces, _ := roots.Traces(p, 0)
			return traces
		},
	}
}

// fill overwrites a result and its spare capacity.
func fill(result list) {
	result = result[:cap(result)]
	for i := range result {
		result[i] = 99
	}
}

func TestMemoryIsApart(t *testing.T) {
	s := scatter(14)
	polynomials := []list{nil, {0, 0}, {1}, {7}, {0, 1}, {5, 1}, {5, 3}, {2, 3, 1}, {2, 3, 1, 0, 0}, {0, 0, 1}, {0, 0, 0, 6},
		poly.From(s.elements(20)...), s.polynomial(20), s.polynomial(61), rootless()[3]}
	for name, call := range calls() {
		for _, p := range polynomials {
			whole := append(slices.Clone(p), 11, 12, 13, 14, 15, 16, 17, 18)
			before, argument := slices.Clone(whole), whole[:len(p)]
			result := call(argument)
			want := slices.Clone(result)
			fill(result)
			if !slices.Equal(whole, before) {
				t.Fatalf("%s of %x changes its argument, or its result shares its memory", name, p)
			}
			again := call(argument)
			fill(whole)
			if !slices.Equal(again, want) {
				t.Fatalf("%s of %x gave %x, and then %x", name, p, want, again)
			}
		}
	}
}
