package poly_test

import (
	"slices"
	"testing"

	"gossamer/api"
	"gossamer/gf"
	"gossamer/poly"
)

type list = []uint32

// scatter makes elements that look random, and are the same in every run.
type scatter uint64

func (s *scatter) next() uint32 {
	*s = *s*6364136223846793005 + 1442695040888963407
	return uint32(*s >> 32)
}

// polynomial is n scattered coefficients, the last of which isn't 0.
func (s *scatter) polynomial(n int) list {
	a := make(list, n)
	for i := range a {
		a[i] = s.next() | 1
	}
	return a
}

// samples is polynomials at the edges, trimmed or not, and scattered ones of all small degrees.
func samples() []list {
	s := scatter(1)
	all := []list{
		nil, {}, {0}, {0, 0, 0},
		{1}, {2}, {0xffffffff}, {5, 0, 0},
		{0, 1}, {1, 1}, {0, 0x80000000, 0}, {3, 0, 0, 1}, {0, 0, 0, 7, 0, 0},
	}
	for n := range 12 {
		a := s.polynomial(n)
		all = append(all, a, append(slices.Clone(a), 0, 0))
	}
	return all
}

// short is a polynomial without the zeros at its end, as the definition says.
func short(a list) list {
	for len(a) > 0 && a[len(a)-1] == 0 {
		a = a[:len(a)-1]
	}
	return a
}

// same says whether a result is the trimmed form of a polynomial.
func same(got, want list) bool {
	return slices.Equal(got, short(want))
}

// sum adds two polynomials coefficient by coefficient.
func sum(a, b list) list {
	c := make(list, max(len(a), len(b)))
	copy(c, a)
	for i := range b {
		c[i] ^= b[i]
	}
	return c
}

// product multiplies each coefficient by each.
func product(a, b list) list {
	c := make(list, len(a)+len(b))
	for i := range a {
		for j := range b {
			c[i+j] ^= gf.Mul(a[i], b[j])
		}
	}
	return c
}

// value sums the powers of x, each multiplied by its coefficient.
func value(a list, x uint32) uint32 {
	var v uint32
	for i := range a {
		v ^= gf.Mul(a[i], gf.Power(x, uint64(i)))
	}
	return v
}

// P2.1

func TestTrimAndDegree(t *testing.T) {
	for _, c := range []struct {
		a, trimmed list
		degree     int
	}{
		{nil, nil, -1},
		{list{}, nil, -1},
		{list{0}, nil, -1},
		{list{0, 0, 0}, nil, -1},
		{list{1}, list{1}, 0},
		{list{1, 0}, list{1}, 0},
		{list{0, 1}, list{0, 1}, 1},
		{list{0, 0, 0xffffffff, 0, 0}, list{0, 0, 0xffffffff}, 2},
		{list{3, 0, 2}, list{3, 0, 2}, 2},
	} {
		if got := poly.Trim(c.a); !slices.Equal(got, c.trimmed) {
			t.Errorf("Trim(%x) = %x, want %x", c.a, got, c.trimmed)
		}
		if got := poly.Degree(c.a); got != c.degree {
			t.Errorf("Degree(%x) = %d, want %d", c.a, got, c.degree)
		}
	}
}

func TestAddKnownSums(t *testing.T) {
	for _, c := range []struct {
		list []list
		want list
	}{
		{nil, nil},
		{[]list{}, nil},
		{[]list{nil}, nil},
		{[]list{{0, 0}, {}, {0}}, nil},
		{[]list{{1, 2, 3}}, list{1, 2, 3}},
		{[]list{{1, 2, 0}}, list{1, 2}},
		{[]list{{1, 2, 3}, {4}}, list{5, 2, 3}},
		{[]list{{4}, {1, 2, 3}}, list{5, 2, 3}},
		{[]list{{1, 2, 3}, {4, 2, 3}}, list{5}},
		{[]list{{1, 2, 3}, {1, 2, 3, 0}}, nil},
		{[]list{{1, 2, 3}, {0, 0, 3}, {1, 1}}, list{0, 3}},
		{[]list{{1, 2}, {1, 2}, {1, 2}}, list{1, 2}},
	} {
		if got := poly.Add(c.list...); !slices.Equal(got, c.want) {
			t.Errorf("Add(%x) = %x, want %x", c.list, got, c.want)
		}
	}
	if got := poly.Add(); len(got) != 0 {
		t.Errorf("Add() = %x", got)
	}
}

func TestAdd(t *testing.T) {
	for _, a := range samples() {
		for _, b := range samples() {
			if got := poly.Add(a, b); !same(got, sum(a, b)) {
				t.Fatalf("Add(%x, %x) = %x", a, b, got)
			}
			if got := poly.Add(b, a, b); !same(got, a) {
				t.Fatalf("Add(%x, %x, %x) = %x", b, a, b, got)
			}
		}
	}
}

func TestScale(t *testing.T) {
	for _, a := range samples() {
		for _, by := range []uint32{0, 1, 2, 0x80000000, 0xffffffff, 12345} {
			want := make(list, len(a))
			for i := range a {
				want[i] = gf.Mul(a[i], by)
			}
			if got := poly.Scale(a, by); !same(got, want) {
				t.Errorf("Scale(%x, %x) = %x, want %x", a, by, got, want)
			}
		}
	}
	if got := poly.Scale(list{1, 0, 0x80000000, 0}, 2); !slices.Equal(got, list{2, 0, 0x8d}) {
		t.Errorf("twice a polynomial is %x", got)
	}
}

func TestMul(t *testing.T) {
	for _, a := range samples() {
		for _, b := range samples() {
			if got := poly.Mul(a, b); !same(got, product(a, b)) {
				t.Fatalf("Mul(%x, %x) = %x, want %x", a, b, got, product(a, b))
			}
		}
	}
	if got := poly.Mul(list{2, 1}, list{0x80000000, 1, 0}); !slices.Equal(got, list{0x8d, 0x80000002, 1}) {
		t.Errorf("the product is %x", got)
	}
}

func TestDivideKnownQuotients(t *testing.T) {
	for _, c := range []struct{ a, b, quotient, rest list }{
		{nil, list{1}, nil, nil},
		{list{0, 0}, list{3, 1}, nil, nil},
		{list{1}, list{1}, list{1}, nil},
		{list{5, 7, 0}, list{1, 0, 0}, list{5, 7}, nil},
		{list{7, 0, 1, 0}, list{2, 1}, list{2, 1}, list{3}},
		{list{5, 7}, list{0, 0, 1}, nil, list{5, 7}},
		{list{5, 7, 9}, list{0, 0, 1}, list{9}, list{5, 7}},
		{list{0, 0, 0, 4}, list{0, 2, 0}, list{0, 0, 2}, nil},
		{list{1, 0, 0, 1}, list{1, 1}, list{1, 1, 1}, nil},
		{list{1, 1, 0, 0, 1}, list{0, 0, 0, 1}, list{0, 1}, list{1, 1}},
	} {
		quotient, rest, err := poly.Divide(c.a, c.b)
		if err != nil || !slices.Equal(quotient, c.quotient) || !slices.Equal(rest, c.rest) {
			t.Errorf("Divide(%x, %x) = %x, %x, %v, want %x, %x", c.a, c.b, quotient, rest, err, c.quotient, c.rest)
		}
	}
}

// zeros is the ways to write 0.
func zeros() []list {
	return []list{nil, {}, {0}, {0, 0, 0}}
}

func TestDivideByZero(t *testing.T) {
	for _, a := range samples() {
		for _, zero := range zeros() {
			quotient, rest, err := poly.Divide(a, zero)
			if err != api.ErrRange || len(quotient) != 0 || len(rest) != 0 {
				t.Errorf("Divide(%x, %x) = %x, %x, %v", a, zero, quotient, rest, err)
			}
			if rest, err := poly.Squared(a, zero); err != api.ErrRange || len(rest) != 0 {
				t.Errorf("Squared(%x, %x) = %x, %v", a, zero, rest, err)
			}
		}
	}
}

func TestMonic(t *testing.T) {
	for _, zero := range zeros() {
		if got := poly.Monic(zero); len(got) != 0 {
			t.Errorf("Monic(%x) = %x", zero, got)
		}
	}
	for _, a := range samples() {
		a := short(a)
		if len(a) == 0 {
			continue
		}
		last := a[len(a)-1]
		got := poly.Monic(append(slices.Clone(a), 0))
		if len(got) != len(a) || got[len(got)-1] != 1 || !same(product(got, list{last})[:len(a)], a) {
			t.Errorf("Monic(%x) = %x", a, got)
		}
	}
	if got := poly.Monic(list{0x8d, 2, 0, 2, 0}); !slices.Equal(got, list{0x80000000, 1, 0, 1}) {
		t.Errorf("the monic polynomial is %x", got)
	}
}

func TestCommonOfZero(t *testing.T) {
	for _, zero := range zeros() {
		for _, other := range zeros() {
			if got := poly.Common(zero, other); len(got) != 0 {
				t.Errorf("Common(%x, %x) = %x", zero, other, got)
			}
		}
		for _, a := range samples() {
			if got, want := poly.Common(a, zero), poly.Monic(a); !slices.Equal(got, want) {
				t.Errorf("Common(%x, %x) = %x, want %x", a, zero, got, want)
			}
			if got, want := poly.Common(zero, a), poly.Monic(a); !slices.Equal(got, want) {
				t.Errorf("Common(%x, %x) = %x, want %x", zero, a, got, want)
			}
		}
	}
}

func TestCommonByRoots(t *testing.T) {
	for _, c := range []struct{ a, b, want list }{
		{nil, nil, nil},
		{nil, list{3}, nil},
		{list{1, 2}, list{3, 4}, nil},
		{list{1, 2}, list{2, 3}, list{2}},
		{list{3, 5, 9}, list{5, 9, 77}, list{5, 9}},
		{list{0, 0, 4}, list{0, 4, 4}, list{0, 4}},
		{list{8, 8, 8, 1}, list{8, 8}, list{8, 8}},
		{list{1, 2, 3}, list{1, 2, 3}, list{1, 2, 3}},
	} {
		want := poly.From(c.want...)
		a := append(poly.Scale(poly.From(c.a...), 6), 0)
		b := append(poly.Scale(poly.From(c.b...), 0x80000000), 0, 0)
		if got := poly.Common(a, b); !slices.Equal(got, want) {
			t.Errorf("Common(%x, %x) = %x, want %x", a, b, got, want)
		}
		if got := poly.Common(b, a); !slices.Equal(got, want) {
			t.Errorf("Common(%x, %x) = %x, want %x", b, a, got, want)
		}
	}
}

func TestAt(t *testing.T) {
	for _, a := range samples() {
		for _, x := range []uint32{0, 1, 2, 3, 0x80000000, 0xffffffff, 12345} {
			if got, want := poly.At(a, x), value(a, x); got != want {
				t.Errorf("At(%x, %x) = %x, want %x", a, x, got, want)
			}
		}
	}
	if got := poly.At(list{5, 0x80000000, 1}, 2); got != 5^0x8d^4 {
		t.Errorf("the value is %x", got)
	}
}

func TestDerived(t *testing.T) {
	for _, c := range []struct{ a, want list }{
		{nil, nil},
		{list{0, 0}, nil},
		{list{5}, nil},
		{list{5, 0, 7}, nil},
		{list{5, 7}, list{7}},
		{list{9, 8, 7, 6}, list{8, 0, 6}},
		{list{9, 8, 7, 6, 5, 0, 0}, list{8, 0, 6}},
		{list{9, 0, 7, 0, 5, 4}, list{0, 0, 0, 0, 4}},
	} {
		if got := poly.Derived(c.a); !slices.Equal(got, c.want) {
			t.Errorf("Derived(%x) = %x, want %x", c.a, got, c.want)
		}
	}
}

func TestDerivedProduct(t *testing.T) {
	for _, a := range samples() {
		for _, b := range samples() {
			want := sum(product(poly.Derived(a), b), product(a, poly.Derived(b)))
			if got := poly.Derived(product(a, b)); !same(got, want) {
				t.Fatalf("the derivative of %x times %x is %x, want %x", a, b, got, want)
			}
		}
	}
}

func TestFrom(t *testing.T) {
	for _, c := range []struct{ roots, want list }{
		{nil, list{1}},
		{list{}, list{1}},
		{list{0}, list{0, 1}},
		{list{7}, list{7, 1}},
		{list{1, 2}, list{2, 3, 1}}, // the chapter's example
		{list{2, 1}, list{2, 3, 1}},
		{list{3, 3}, list{5, 0, 1}},
		{list{0, 0, 0}, list{0, 0, 0, 1}},
		{list{2, 0x80000000}, list{0x8d, 0x80000002, 1}},
	} {
		if got := poly.From(c.roots...); !slices.Equal(got, c.want) {
			t.Errorf("From(%x) = %x, want %x", c.roots, got, c.want)
		}
	}
	if got := poly.From(); !slices.Equal(got, list{1}) {
		t.Errorf("From() = %x", got)
	}
}

func TestSquared(t *testing.T) {
	for _, a := range samples() {
		for _, by := range samples() {
			if len(short(by)) == 0 {
				continue
			}
			_, want, _ := poly.Divide(product(a, a), by)
			if got, err := poly.Squared(a, by); err != nil || !slices.Equal(got, want) {
				t.Fatalf("Squared(%x, %x) = %x, %v, want %x", a, by, got, err, want)
			}
		}
	}
	// x^2 + 1 is 0 modulo itself, so x^4 is 1.
	if got, err := poly.Squared(list{0, 0, 1}, list{1, 0, 1, 0}); err != nil || !slices.Equal(got, list{1}) {
		t.Errorf("the square is %x, %v", got, err)
	}
}

// P2.2

func TestValuesOfSumsAndProducts(t *testing.T) {
	points := []uint32{0, 1, 2, 0x80000000, 0xffffffff, 12345}
	for _, a := range samples() {
		for _, b := range samples() {
			added, multiplied := poly.Add(a, b), poly.Mul(a, b)
			for _, x := range points {
				u, v := poly.At(a, x), poly.At(b, x)
				if got := poly.At(added, x); got != gf.Sum(u, v) {
					t.Fatalf("the sum of %x and %x is %x at %x", a, b, got, x)
				}
				if got := poly.At(multiplied, x); got != gf.Mul(u, v) {
					t.Fatalf("the product of %x and %x is %x at %x", a, b, got, x)
				}
			}
		}
	}
}

func TestZeroExactlyAtItsRoots(t *testing.T) {
	s := scatter(2)
	for n := range 20 {
		roots := s.polynomial(n)
		a := poly.From(roots...)
		if len(a) != n+1 || a[n] != 1 {
			t.Errorf("From(%x) = %x", roots, a)
		}
		for _, r := range roots {
			if poly.At(a, r) != 0 {
				t.Errorf("From(%x) isn't 0 at %x", roots, r)
			}
		}
		for range 20 {
			if x := s.next() &^ 1; poly.At(a, x) == 0 { // all the roots are odd
				t.Errorf("From(%x) is 0 at %x", roots, x)
			}
		}
	}
}

func TestQuotientAndRestRecompose(t *testing.T) {
	for _, a := range samples() {
		for _, b := range samples() {
			if len(short(b)) == 0 {
				continue
			}
			quotient, rest, err := poly.Divide(a, b)
			if err != nil || len(rest) >= len(short(b)) {
				t.Fatalf("Divide(%x, %x) = %x, %x, %v", a, b, quotient, rest, err)
			}
			if !same(quotient, quotient) || !same(rest, rest) {
				t.Fatalf("Divide(%x, %x) = %x, %x, not trimmed", a, b, quotient, rest)
			}
			if got := sum(product(quotient, b), rest); !slices.Equal(short(got), short(a)) {
				t.Fatalf("Divide(%x, %x) = %x, %x, which give %x", a, b, quotient, rest, got)
			}
		}
	}
}

func TestCommonDividesBoth(t *testing.T) {
	s := scatter(3)
	for n := range 8 {
		shared := s.polynomial(n + 1)
		a, b := product(shared, s.polynomial(5)), product(shared, s.polynomial(7))
		common := poly.Common(a, b)
		if len(common) < n+1 || common[len(common)-1] != 1 {
			t.Fatalf("Common(%x, %x) = %x", a, b, common)
		}
		for _, dividend := range []list{a, b} {
			if _, rest, err := poly.Divide(dividend, common); err != nil || len(rest) != 0 {
				t.Errorf("%x divided by %x leaves %x, %v", dividend, common, rest, err)
			}
		}
		if _, rest, err := poly.Divide(common, shared); err != nil || len(rest) != 0 {
			t.Errorf("%x doesn't divide %x: %x, %v", shared, common, rest, err)
		}
	}
}

// P2.3

// calls is every function that takes or gives polynomials, with its results as one list.
func calls() map[string]func(a, b list) []list {
	return map[string]func(a, b list) []list{
		"Trim":    func(a, _ list) []list { return []list{poly.Trim(a)} },
		"Degree":  func(a, _ list) []list { poly.Degree(a); return nil },
		"Add":     func(a, b list) []list { return []list{poly.Add(a, b)} },
		"Add one": func(a, _ list) []list { return []list{poly.Add(a)} },
		"Scale":   func(a, _ list) []list { return []list{poly.Scale(a, 1)} },
		"Mul":     func(a, b list) []list { return []list{poly.Mul(a, b)} },
		"Divide": func(a, b list) []list {
			quotient, rest, _ := poly.Divide(a, b)
			return []list{quotient, rest}
		},
		"Monic":   func(a, _ list) []list { return []list{poly.Monic(a)} },
		"Common":  func(a, b list) []list { return []list{poly.Common(a, b)} },
		"At":      func(a, _ list) []list { poly.At(a, 3); return nil },
		"Derived": func(a, _ list) []list { return []list{poly.Derived(a)} },
		"From":    func(a, _ list) []list { return []list{poly.From(a...)} },
		"Squared": func(a, b list) []list {
			rest, _ := poly.Squared(a, b)
			return []list{rest}
		},
	}
}

// roomy is a polynomial with spare capacity behind it, and the whole of its memory.
func roomy(a list) (list, list) {
	whole := append(slices.Clone(a), 11, 12, 13, 14, 15, 16, 17, 18)
	return whole[:len(a)], whole
}

// fill overwrites a result and its spare capacity.
func fill(result list, with uint32) {
	result = result[:cap(result)]
	for i := range result {
		result[i] = with
	}
}

// copied is results that nothing else can change.
func copied(results []list) []list {
	var all []list
	for _, r := range results {
		all = append(all, slices.Clone(r))
	}
	return all
}

func TestMemoryIsApart(t *testing.T) {
	arguments := []list{nil, {0, 0}, {1}, {0, 1}, {7, 1}, {3, 4, 1}, {5, 0, 0, 1, 0, 0}, {9, 8, 7, 6, 5, 4, 1}}
	for name, call := range calls() {
		for _, first := range arguments {
			for _, second := range arguments {
				a, wholeA := roomy(first)
				b, wholeB := roomy(second)
				beforeA, beforeB := slices.Clone(wholeA), slices.Clone(wholeB)
				results := call(a, b)
				want := copied(results)
				for i, r := range results {
					fill(r, uint32(1000+i))
				}
				if !slices.Equal(wholeA, beforeA) || !slices.Equal(wholeB, beforeB) {
					t.Fatalf("%s of %x and %x changes its arguments, or its results share their memory", name, first, second)
				}
				if len(results) == 2 && slices.Contains(results[0], 1001) {
					t.Fatalf("the results of %s of %x and %x share memory", name, first, second)
				}
				again := call(a, b)
				fill(wholeA, 99)
				fill(wholeB, 99)
				if !slices.EqualFunc(again, want, slices.Equal) {
					t.Fatalf("%s of %x and %x gave %x, and then %x", name, first, second, want, again)
				}
			}
		}
	}
}
