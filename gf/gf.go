// Package gf is layer 1: the field of 2^32 elements. See shared/doc/01-gf.md.
package gf

const (
	// size is the number of bits of an element, and the degree of the modulus.
	size = 32
	// digit is the number of bits that a table looks up at once.
	digit = 4
	// traced is an element of trace 1, which Solve needs; x^25 is the least power of x with that trace.
	traced = 1 << 25
)

// Table multiplies by an element: rows[i][d] is the product with d, shifted to the i-th digit.
type Table struct {
	rows [size / digit][1 << digit]uint32
}

// Sum is the sum of elements.
func Sum(list ...uint32) uint32 {
	var sum uint32
	for _, a := range list {
		sum ^= a
	}
	return sum
}

// Mul is a product.
func Mul(a, b uint32) uint32 {
	var product uint64
	for i := range size {
		// A mask instead of a branch, which would be mispredicted half of the time.
		mask := -(b >> i & 1)
		product ^= uint64(a&mask) << i
	}
	return reduce(product)
}

// reduce is the remainder of a polynomial of degree at most 62.
func reduce(p uint64) uint32 {
	// The first fold leaves up to 7 bits above the element, the second one none.
	return uint32(fold(fold(p)))
}

// fold replaces each x^(32+k) by x^k times x^7 + x^3 + x^2 + 1, which is congruent to it.
func fold(p uint64) uint64 {
	high := p >> size
	low := p & (1<<size - 1)
	return low ^ high ^ high<<2 ^ high<<3 ^ high<<7
}

// Square is a square.
func Square(a uint32) uint32 {
	// The mixed terms of the square cancel, so that its bits are those of a, spread.
	return reduce(spread(a))
}

// spread puts bit i at 2i.
func spread(a uint32) uint64 {
	p := uint64(a)
	p = (p | p<<16) & 0x0000ffff0000ffff
	p = (p | p<<8) & 0x00ff00ff00ff00ff
	p = (p | p<<4) & 0x0f0f0f0f0f0f0f0f
	p = (p | p<<2) & 0x3333333333333333
	p = (p | p<<1) & 0x5555555555555555
	return p
}

// Power is a power.
func Power(a uint32, n uint64) uint32 {
	power := uint32(1)
	for ; n > 0; n >>= 1 {
		if n&1 == 1 {
			power = Mul(power, a)
		}
		a = Square(a)
	}
	return power
}

// Inverse is an inverse, 0 for 0.
func Inverse(a uint32) uint32 {
	// The power to 2^32 - 1 is 1 for every element but 0.
	return Power(a, 1<<size-2)
}

// Root is a root.
func Root(a uint32) uint32 {
	// One more square would be the power to 2^32, which is a itself.
	for range size - 1 {
		a = Square(a)
	}
	return a
}

// Trace is a trace.
func Trace(a uint32) uint32 {
	var trace uint32
	for range size {
		trace ^= a
		a = Square(a)
	}
	return trace
}

// Solve solves y squared plus y.
func Solve(c uint32) (uint32, bool) {
	if Trace(c) != 0 {
		return 0, false
	}
	return halve(c) &^ 1, true
}

// halve is one of the two solutions of y^2 + y = c, for a c of trace 0.
func halve(c uint32) uint32 {
	// With s(i) = traced^(2^i) and t(i) = s(0) + ... + s(i), y is the sum of all t(i) c^(2^i).
	// In y^2 + y all but c Trace(traced) + traced Trace(c) cancels, and that is c.
	var y, t uint32
	s := uint32(traced)
	for range size {
		t ^= s
		y ^= Mul(t, c)
		s, c = Square(s), Square(c)
	}
	return y
}

// By is a table by which elements are multiplied.
func By(a uint32) *Table {
	t := new(Table)
	for i := range t.rows {
		t.rows[i] = multiples(a)
		for range digit {
			a = double(a)
		}
	}
	return t
}

// multiples is the products of a and all elements of one digit.
func multiples(a uint32) [1 << digit]uint32 {
	var row [1 << digit]uint32
	for d := range row {
		row[d] = double(row[d/2])
		if d&1 == 1 {
			row[d] ^= a
		}
	}
	return row
}

// double is the product with x.
func double(a uint32) uint32 {
	return reduce(uint64(a) << 1)
}

// Mul is a product, 0 if there is no table.
func (t *Table) Mul(b uint32) uint32 {
	if t == nil {
		return 0
	}
	var product uint32
	for i := range t.rows {
		product ^= t.rows[i][b>>(digit*i)&(1<<digit-1)]
	}
	return product
}
