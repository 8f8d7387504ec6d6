package gf_test

import (
	"slices"
	"testing"

	"gossamer/gf"
)

// product multiplies as the definition says: by x one bit at a time, with the modulus taken off as soon as x^32 appears.
func product(a, b uint32) uint32 {
	const modulus = 1<<32 | 1<<7 | 1<<3 | 1<<2 | 1
	p := uint64(0)
	for i := 31; i >= 0; i-- {
		p <<= 1
		if p>>32 == 1 {
			p ^= modulus
		}
		if b>>i&1 == 1 {
			p ^= uint64(a)
		}
	}
	return uint32(p)
}

// samples is all powers of x, elements at the edges, and n scattered ones.
func samples(n int) []uint32 {
	list := []uint32{0, 3, 0x8d, 0x8c, 0x7fffffff, 0x80000001, 0xfffffffe, 0xffffffff, 0x55555555, 0xaaaaaaaa}
	for i := range 32 {
		list = append(list, 1<<i)
	}
	state := uint64(1)
	for range n {
		state = state*6364136223846793005 + 1442695040888963407
		list = append(list, uint32(state>>32))
	}
	return list
}

// P1.1

func TestSum(t *testing.T) {
	for _, c := range []struct {
		list []uint32
		want uint32
	}{
		{nil, 0},
		{[]uint32{}, 0},
		{[]uint32{0}, 0},
		{[]uint32{7}, 7},
		{[]uint32{7, 7}, 0},
		{[]uint32{1, 2, 4}, 7},
		{[]uint32{6, 3, 6}, 3},
		{[]uint32{0xffffffff, 0x80000001}, 0x7ffffffe},
	} {
		if got := gf.Sum(c.list...); got != c.want {
			t.Errorf("Sum(%x) = %x, want %x", c.list, got, c.want)
		}
	}
	if got := gf.Sum(); got != 0 {
		t.Errorf("Sum() = %x", got)
	}
}

func TestSumLeavesItsArguments(t *testing.T) {
	list := []uint32{1, 2, 4, 8}
	if got := gf.Sum(list[:2]...); got != 3 {
		t.Errorf("sum %x", got)
	}
	if !slices.Equal(list, []uint32{1, 2, 4, 8}) {
		t.Errorf("the arguments became %x", list)
	}
}

func TestMulByKnownProducts(t *testing.T) {
	for _, c := range []struct{ a, b, want uint32 }{
		{2, 0x80000000, 0x8d}, // the chapter's example
		{4, 0x80000000, 0x11a},
		{0, 0, 0},
		{0, 0xffffffff, 0},
		{1, 0xffffffff, 0xffffffff},
		{3, 3, 5},
		{6, 7, 0x12},
		{0x10000, 0x8000, 0x80000000},
		{0x10000, 0x10000, 0x8d},
		{0x80000000, 0x80000000, 0x40001037}, // x^62, which is reduced twice
	} {
		if got := gf.Mul(c.a, c.b); got != c.want || product(c.a, c.b) != c.want {
			t.Errorf("Mul(%x, %x) = %x, want %x", c.a, c.b, got, c.want)
		}
	}
}

func TestMul(t *testing.T) {
	list := samples(200)
	for _, a := range list {
		table := gf.By(a)
		for _, b := range list {
			want := product(a, b)
			if got := gf.Mul(a, b); got != want {
				t.Fatalf("Mul(%x, %x) = %x, want %x", a, b, got, want)
			}
			if got := table.Mul(b); got != want {
				t.Fatalf("By(%x).Mul(%x) = %x, want %x", a, b, got, want)
			}
		}
	}
}

func TestNoTable(t *testing.T) {
	var none *gf.Table
	for _, b := range samples(10) {
		if got := none.Mul(b); got != 0 {
			t.Errorf("nil.Mul(%x) = %x", b, got)
		}
		if got := gf.By(0).Mul(b); got != 0 {
			t.Errorf("By(0).Mul(%x) = %x", b, got)
		}
	}
}

func TestTablesAreApart(t *testing.T) {
	two, three, again := gf.By(2), gf.By(3), gf.By(2)
	if two == again {
		t.Error("one table twice")
	}
	if two.Mul(5) != 10 || three.Mul(5) != 15 || again.Mul(5) != 10 {
		t.Errorf("products %x, %x, %x", two.Mul(5), three.Mul(5), again.Mul(5))
	}
}

func TestSquare(t *testing.T) {
	for _, a := range samples(500) {
		if got, want := gf.Square(a), product(a, a); got != want {
			t.Errorf("Square(%x) = %x, want %x", a, got, want)
		}
	}
}

func TestPowerByFactors(t *testing.T) {
	for _, a := range samples(20) {
		want := uint32(1)
		for n := range uint64(70) {
			if got := gf.Power(a, n); got != want {
				t.Fatalf("Power(%x, %d) = %x, want %x", a, n, got, want)
			}
			want = product(want, a)
		}
	}
}

func TestPowerWithGreatExponents(t *testing.T) {
	const most = 1<<64 - 1
	for _, a := range samples(100) {
		// 2^64 - 1 is a multiple of the group's order 2^32 - 1.
		one := uint32(1)
		if a == 0 {
			one = 0
		}
		for _, c := range []struct {
			n    uint64
			want uint32
		}{
			{1<<32 - 1, one},
			{1 << 32, a},
			{1<<32 + 1, product(a, a)},
			{1 << 63, gf.Power(a, 1<<31)},
			{most, one},
			{most - 1, gf.Inverse(a)},
		} {
			if got := gf.Power(a, c.n); got != c.want {
				t.Errorf("Power(%x, %d) = %x, want %x", a, c.n, got, c.want)
			}
		}
	}
	if gf.Power(0, 0) != 1 || gf.Power(0, 1) != 0 || gf.Power(0, most) != 0 {
		t.Error("powers of 0")
	}
}

func TestInverse(t *testing.T) {
	if got := gf.Inverse(0); got != 0 {
		t.Errorf("Inverse(0) = %x", got)
	}
	// x times x^31 + x^6 + x^2 + x is 1.
	if gf.Inverse(1) != 1 || gf.Inverse(2) != 0x80000046 || gf.Inverse(0x80000046) != 2 {
		t.Errorf("inverses %x, %x, %x", gf.Inverse(1), gf.Inverse(2), gf.Inverse(0x80000046))
	}
	for _, a := range samples(500) {
		if b := gf.Inverse(a); a != 0 && (product(a, b) != 1 || gf.Inverse(b) != a) {
			t.Errorf("Inverse(%x) = %x", a, b)
		}
	}
}

func TestRoot(t *testing.T) {
	if gf.Root(0) != 0 || gf.Root(1) != 1 || gf.Root(4) != 2 || gf.Root(0x8d) != 0x10000 {
		t.Errorf("roots %x, %x, %x, %x", gf.Root(0), gf.Root(1), gf.Root(4), gf.Root(0x8d))
	}
	for _, a := range samples(500) {
		if r := gf.Root(a); product(r, r) != a {
			t.Errorf("Root(%x) = %x", a, r)
		}
	}
}

// trace sums the powers as the definition says.
func trace(a uint32) uint32 {
	var sum uint32
	for range 32 {
		sum ^= a
		a = product(a, a)
	}
	return sum
}

func TestTrace(t *testing.T) {
	seen := [2]int{}
	for _, a := range samples(500) {
		got := gf.Trace(a)
		if got > 1 || got != trace(a) {
			t.Fatalf("Trace(%x) = %x, want %x", a, got, trace(a))
		}
		seen[got]++
	}
	if seen[0] < 100 || seen[1] < 100 {
		t.Errorf("traces 0 and 1 came %d times", seen)
	}
	if gf.Trace(0) != 0 || gf.Trace(1) != 0 || gf.Trace(1<<25) != 1 {
		t.Error("traces of 0, 1 and x^25")
	}
}

func TestSolve(t *testing.T) {
	for _, y := range samples(500) {
		c := product(y, y) ^ y
		if got, ok := gf.Solve(c); !ok || got != y&^1 {
			t.Errorf("Solve(%x) = %x, %v, want %x", c, got, ok, y&^1)
		}
	}
	if y, ok := gf.Solve(0); y != 0 || !ok {
		t.Errorf("Solve(0) = %x, %v", y, ok)
	}
	if y, ok := gf.Solve(6); y != 2 || !ok {
		t.Errorf("Solve(6) = %x, %v", y, ok)
	}
	if y, ok := gf.Solve(1 << 25); y != 0 || ok {
		t.Errorf("Solve(x^25) = %x, %v", y, ok)
	}
}

// P1.2

func TestCommutativeAndAssociative(t *testing.T) {
	list := samples(10)
	for _, a := range list {
		for _, b := range list {
			if gf.Sum(a, b) != gf.Sum(b, a) || gf.Mul(a, b) != gf.Mul(b, a) {
				t.Fatalf("%x and %x don't commute", a, b)
			}
			for _, c := range list {
				if gf.Sum(gf.Sum(a, b), c) != gf.Sum(a, gf.Sum(b, c)) || gf.Mul(gf.Mul(a, b), c) != gf.Mul(a, gf.Mul(b, c)) {
					t.Fatalf("%x, %x and %x aren't associative", a, b, c)
				}
			}
		}
	}
}

func TestDistributive(t *testing.T) {
	list := samples(10)
	for _, a := range list {
		table := gf.By(a)
		for _, b := range list {
			for _, c := range list {
				sum := gf.Sum(b, c)
				if gf.Mul(a, sum) != gf.Sum(gf.Mul(a, b), gf.Mul(a, c)) || table.Mul(sum) != gf.Sum(table.Mul(b), table.Mul(c)) {
					t.Fatalf("%x isn't distributed over %x and %x", a, b, c)
				}
			}
		}
	}
}

func TestNeutralAndInverseElements(t *testing.T) {
	for _, a := range samples(500) {
		if gf.Sum(a, 0) != a || gf.Sum(a, a) != 0 || gf.Mul(a, 1) != a || gf.Mul(a, 0) != 0 {
			t.Errorf("0 or 1 with %x", a)
		}
		if a != 0 && gf.Mul(a, gf.Inverse(a)) != 1 {
			t.Errorf("the inverse of %x", a)
		}
	}
}

func TestSquareOfSum(t *testing.T) {
	list := samples(100)
	for _, a := range list {
		for _, b := range list {
			if gf.Square(gf.Sum(a, b)) != gf.Sum(gf.Square(a), gf.Square(b)) {
				t.Fatalf("the square of %x and %x", a, b)
			}
		}
	}
}

func TestPowerToTheFieldsSize(t *testing.T) {
	for _, a := range samples(500) {
		if got := gf.Power(a, 1<<32); got != a {
			t.Errorf("Power(%x, 2^32) = %x", a, got)
		}
	}
	// x is in no smaller field, or the modulus would have factors.
	if gf.Power(2, 1<<16) == 2 {
		t.Error("x is in a field of 2^16 elements")
	}
}

// P1.3

// image is a basis of all y^2 + y, by the highest bits; its rank says how many solutions an equation has.
func image() (basis [32]uint32, rank int) {
	for i := range 32 {
		y := uint32(1) << i
		if c, high := rest(basis, product(y, y)^y); c != 0 {
			basis[high] = c
			rank++
		}
	}
	return basis, rank
}

// rest is what is left of an element when the basis is taken off, and its highest bit.
func rest(basis [32]uint32, c uint32) (uint32, int) {
	for i := 31; i >= 0; i-- {
		if c>>i&1 == 0 {
			continue
		}
		if basis[i] == 0 {
			return c, i
		}
		c ^= basis[i]
	}
	return 0, 0
}

func TestTwoSolutionsOrNone(t *testing.T) {
	basis, rank := image()
	if rank != 31 { // then y^2 + y takes each of its values exactly twice
		t.Fatalf("rank %d", rank)
	}
	for _, c := range samples(2000) {
		left, _ := rest(basis, c)
		y, ok := gf.Solve(c)
		if ok != (left == 0) || ok != (gf.Trace(c) == 0) {
			t.Fatalf("Solve(%x) = %v, its trace is %x", c, ok, gf.Trace(c))
		}
		if !ok && y != 0 {
			t.Errorf("Solve(%x) = %x without a solution", c, y)
		}
		if ok && (y&1 != 0 || product(y, y)^y != c || product(y^1, y^1)^y^1 != c) {
			t.Errorf("Solve(%x) = %x", c, y)
		}
	}
}
