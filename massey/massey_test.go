package massey_test

import (
	"math"
	"slices"
	"testing"

	"gossamer/api"
	"gossamer/gf"
	"gossamer/massey"
)

type list = []uint32

// scatter makes elements that look random, and are the same in every run.
type scatter uint64

func (s *scatter) next() uint32 {
	*s = *s*6364136223846793005 + 1442695040888963407
	return uint32(*s >> 32)
}

// elements is n scattered elements.
func (s *scatter) elements(n int) list {
	a := make(list, n)
	for i := range a {
		a[i] = s.next()
	}
	return a
}

// rule is a scattered recurrence.
func (s *scatter) rule(length int) list {
	return append(list{1}, s.elements(length)...)
}

// satisfies sums as the definition says.
func satisfies(rule, sequence list) bool {
	for i := len(rule) - 1; i < len(sequence); i++ {
		var sum uint32
		for j := range rule {
			sum ^= gf.Mul(rule[j], sequence[i-j])
		}
		if sum != 0 {
			return false
		}
	}
	return true
}

// equations is the linear equations for c1 to cL that a sequence gives for a recurrence of length L, each with its right side last.
func equations(sequence list, length int) []list {
	var rows []list
	for i := length; i < len(sequence); i++ {
		row := make(list, 0, length+1)
		for j := 1; j <= length; j++ {
			row = append(row, sequence[i-j])
		}
		rows = append(rows, append(row, sequence[i]))
	}
	return rows
}

// subtract takes the multiple of a row off another one that makes it 0 in a column.
func subtract(row, pivot list, column int) {
	factor := gf.Mul(row[column], gf.Inverse(pivot[column]))
	for i := range row {
		row[i] ^= gf.Mul(factor, pivot[i])
	}
}

// solutions is how many recurrences of a length a sequence satisfies, found by elimination: 0, 1, or 2 for more.
func solutions(sequence list, length int) int {
	rows := equations(sequence, length)
	rank := 0
	for column := range length {
		found := slices.IndexFunc(rows[rank:], func(row list) bool { return row[column] != 0 })
		if found < 0 {
			continue
		}
		rows[rank], rows[rank+found] = rows[rank+found], rows[rank]
		for _, row := range rows[rank+1:] {
			subtract(row, rows[rank], column)
		}
		rank++
	}
	for _, row := range rows[rank:] {
		if row[length] != 0 {
			return 0
		}
	}
	if rank < length {
		return 2
	}
	return 1
}

// least is the minimum length, and whether one recurrence alone has it.
func least(sequence list) (int, bool) {
	for length := 0; ; length++ {
		if n := solutions(sequence, length); n > 0 {
			return length, n == 1
		}
	}
}

// check tests Shortest and Length for a sequence.
func check(t *testing.T, sequence list) {
	t.Helper()
	want, _ := least(sequence)
	rule, length := massey.Shortest(sequence...), massey.Length(sequence...)
	if length != want || len(rule) != want+1 {
		t.Fatalf("%x has the length %d and the recurrence %x, want the length %d", sequence, length, rule, want)
	}
	if rule[0] != 1 || !satisfies(rule, sequence) || !massey.Keeps(rule, sequence...) {
		t.Fatalf("%x doesn't satisfy %x", sequence, rule)
	}
}

// every is all sequences of n elements out of an alphabet.
func every(alphabet list, n int) []list {
	all := []list{nil}
	for range n {
		var longer []list
		for _, begin := range all {
			for _, a := range alphabet {
				longer = append(longer, append(slices.Clone(begin), a))
			}
		}
		all = longer
	}
	return all
}

// P3.1

func TestKnownRecurrences(t *testing.T) {
	for _, c := range []struct{ sequence, want list }{
		{nil, list{1}},
		{list{}, list{1}},
		{list{0}, list{1}},
		{list{0, 0, 0, 0}, list{1}},
		{list{1, 2, 4, 8}, list{1, 2}}, // the chapter's example
		{list{1, 1}, list{1, 1}},
		{list{5, 5, 5, 5}, list{1, 1}},
		{list{7, 0}, list{1, 0}}, // the last of a recurrence's elements may be 0
		{list{7, 0, 0, 0}, list{1, 0}},
		{list{0, 3, 0, 0, 0}, list{1, 0, 0}},
		{list{1, 0, 1, 0}, list{1, 0, 1}},
		{list{1, 1, 0, 1, 1, 0}, list{1, 1, 1}},
		{list{0, 1, 1, 2 ^ 1, 2 ^ 1 ^ 2}, list{1, 1, 2}},
		{list{1, 0x80000000, 0x40001037}, list{1, 0x80000000}},
	} {
		if got := massey.Shortest(c.sequence...); !slices.Equal(got, c.want) {
			t.Errorf("Shortest(%x) = %x, want %x", c.sequence, got, c.want)
		}
		if got := massey.Length(c.sequence...); got != len(c.want)-1 {
			t.Errorf("Length(%x) = %d, want %d", c.sequence, got, len(c.want)-1)
		}
	}
	if got := massey.Shortest(); !slices.Equal(got, list{1}) || massey.Length() != 0 {
		t.Errorf("Shortest() = %x, Length() = %d", got, massey.Length())
	}
}

func TestLengthsWithSeveralRecurrences(t *testing.T) {
	for _, c := range []struct {
		sequence list
		want     int
	}{
		{list{5}, 1},
		{list{0xffffffff}, 1},
		{list{0, 7}, 2},
		{list{0, 0, 7}, 3},
		{list{0, 0, 0, 0, 0, 1}, 6},
		{list{0, 0, 0, 1, 0}, 4},
		{list{1, 2, 4, 9}, 3},
		{list{1, 1, 1, 1, 1, 0}, 5},
		{list{1, 2, 4, 8, 0x10, 0x21}, 5},
	} {
		if got := massey.Length(c.sequence...); got != c.want {
			t.Errorf("Length(%x) = %d, want %d", c.sequence, got, c.want)
		}
		check(t, c.sequence)
	}
}

func TestShortestOfAllSmallSequences(t *testing.T) {
	for n := range 10 {
		for _, sequence := range every(list{0, 1}, n) {
			check(t, sequence)
		}
	}
	for n := range 6 {
		for _, sequence := range every(list{0, 1, 2, 0x80000000}, n) {
			check(t, sequence)
		}
	}
}

func TestShortestOfScatteredSequences(t *testing.T) {
	s := scatter(1)
	for n := range 30 {
		sequence := s.elements(n)
		check(t, sequence)
		check(t, append(make(list, n/3), sequence...))
		check(t, append(slices.Clone(sequence), make(list, n/2)...))
		check(t, append(slices.Clone(sequence), sequence...))
	}
}

func TestShortestOfChangedSequences(t *testing.T) {
	s := scatter(2)
	for length := range 8 {
		sequence, err := massey.Goes(s.rule(length), s.elements(length), 24)
		if err != nil {
			t.Fatal(err)
		}
		for i := range sequence {
			changed := slices.Clone(sequence)
			changed[i] ^= s.next() | 1
			check(t, changed)
		}
	}
}

func TestKeeps(t *testing.T) {
	for _, c := range []struct {
		rule, sequence list
		want           bool
	}{
		{nil, nil, false}, // no recurrences
		{list{}, list{0, 0}, false},
		{nil, list{1, 2, 4}, false},
		{list{0}, nil, false},
		{list{0, 0}, list{0, 0, 0}, false},
		{list{0, 1}, list{5, 0, 0}, false},
		{list{2, 1}, list{0, 0}, false},
		{list{2, 4}, list{1, 2, 4}, false},
		{list{0x80000001, 1, 1}, list{1}, false},
		{list{1}, nil, true},
		{list{1}, list{0, 0, 0}, true},
		{list{1}, list{3}, false},
		{list{1}, list{0, 3}, false},
		{list{1}, list{3, 0}, false},
		{list{1, 5}, nil, true}, // sequences that aren't longer than the recurrence
		{list{1, 5}, list{9}, true},
		{list{1, 5, 6, 7}, list{1, 2}, true},
		{list{1, 5, 6, 7}, list{1, 2, 3}, true},
		{list{1, 5, 6, 7}, list{0, 0, 0, 0}, true},
		{list{1, 5, 6, 7}, list{1, 2, 3, 4}, true}, // f, c, 7 and 4 cancel
		{list{1, 5, 6, 7}, list{1, 2, 3, 5}, false},
		{list{1, 2}, list{1, 2, 4, 8}, true},
		{list{1, 2}, list{1, 2, 4, 9}, false},
		{list{1, 2}, list{1, 3, 6, 0xc}, false},
		{list{1, 2}, list{1, 2, 5, 0xa}, false},
		{list{1, 2}, list{0x40000000, 0x80000000, 0x8d}, true},
		{list{1, 0}, list{5, 0, 0}, true},
		{list{1, 0}, list{5, 0, 1}, false},
		{list{1, 0, 0}, list{5, 6, 0}, true},
		{list{1, 0, 1}, list{4, 7, 4, 7, 4}, true},
	} {
		if got := massey.Keeps(c.rule, c.sequence...); got != c.want {
			t.Errorf("Keeps(%x, %x) = %v", c.rule, c.sequence, got)
		}
	}
	if massey.Keeps(nil) || massey.Keeps(list{2}) || !massey.Keeps(list{1}) || !massey.Keeps(list{1, 2, 3}) {
		t.Error("Keeps without a sequence")
	}
}

func TestKeepsNoChangedSequence(t *testing.T) {
	s := scatter(3)
	for length := range 8 {
		rule := s.rule(length)
		sequence, err := massey.Goes(rule, s.elements(length), 20)
		if err != nil || !massey.Keeps(rule, sequence...) {
			t.Fatalf("%x, %v doesn't satisfy %x", sequence, err, rule)
		}
		for i := range sequence {
			sequence[i] ^= 1
			if got, want := massey.Keeps(rule, sequence...), satisfies(rule, sequence); got != want || want {
				t.Errorf("Keeps(%x, %x) = %v, want %v", rule, sequence, got, want)
			}
			sequence[i] ^= 1
		}
	}
}

func TestGoes(t *testing.T) {
	for _, c := range []struct {
		rule, begin list
		n           int
		want        list
	}{
		{list{1}, nil, 0, nil},
		{list{1}, list{}, 3, list{0, 0, 0}},
		{list{1, 2}, list{1}, 4, list{1, 2, 4, 8}},
		{list{1, 2}, list{0x40000000}, 3, list{0x40000000, 0x80000000, 0x8d}},
		{list{1, 2}, list{0}, 3, list{0, 0, 0}},
		{list{1, 0}, list{5}, 3, list{5, 0, 0}},
		{list{1, 0, 1}, list{4, 7}, 5, list{4, 7, 4, 7, 4}},
		{list{1, 3, 2}, list{4, 7}, 3, list{4, 7, 9 ^ 8}}, // 3 times 7 is 9, and 2 times 4 is 8
		{list{1, 3, 2}, list{4, 7}, 2, list{4, 7}},
		{list{1, 3, 2}, list{4, 7}, 1, list{4}}, // fewer elements than begin has
		{list{1, 3, 2}, list{4, 7}, 0, nil},
		{list{1, 5, 6, 7}, list{1, 2, 3}, 2, list{1, 2}},
	} {
		got, err := massey.Goes(c.rule, c.begin, c.n)
		if err != nil || !slices.Equal(got, c.want) {
			t.Errorf("Goes(%x, %x, %d) = %x, %v, want %x", c.rule, c.begin, c.n, got, err, c.want)
		}
	}
}

func TestGoesOnByTheSums(t *testing.T) {
	s := scatter(4)
	for length := range 20 {
		rule, begin := s.rule(length), s.elements(length)
		for _, n := range []int{0, 1, length - 1, length, length + 1, 3 * length, 60} {
			n = max(n, 0)
			got, err := massey.Goes(rule, begin, n)
			if err != nil || len(got) != n || !satisfies(rule, got) {
				t.Fatalf("Goes(%x, %x, %d) = %x, %v", rule, begin, n, got, err)
			}
			known := min(n, length)
			if !slices.Equal(got[:known], begin[:known]) {
				t.Fatalf("Goes(%x, %x, %d) starts with %x", rule, begin, n, got[:known])
			}
		}
	}
}

func TestGoesAtTheLimit(t *testing.T) {
	if got, err := massey.Goes(list{1, 1}, list{6}, 1000); err != nil || !slices.Equal(got, slices.Repeat(list{6}, 1000)) {
		t.Errorf("1000 elements: %x, %v", got, err)
	}
	// A recurrence may be longer than the sequence.
	s := scatter(5)
	rule, begin := s.rule(1500), s.elements(1500)
	if got, err := massey.Goes(rule, begin, 1000); err != nil || !slices.Equal(got, begin[:1000]) {
		t.Errorf("the first 1000 elements of 1500: %v", err)
	}
	if got, err := massey.Goes(rule, begin, 1500); err != api.ErrRange || len(got) != 0 {
		t.Errorf("1500 elements: %x, %v", got, err)
	}
}

func TestGoesErrors(t *testing.T) {
	for _, c := range []struct {
		rule, begin list
		n           int
	}{
		{nil, nil, 0}, // no recurrences
		{list{}, nil, 5},
		{nil, list{1}, 1},
		{list{0}, nil, 1},
		{list{2}, nil, 1},
		{list{0, 1}, list{1}, 3},
		{list{0x80000001, 1}, list{1}, 3},
		{list{1}, list{1}, 3}, // beginnings of other lengths
		{list{1, 2}, nil, 3},
		{list{1, 2}, list{1, 2}, 3},
		{list{1, 2, 3}, list{1}, 3},
		{list{1, 2, 3}, list{1, 2, 3}, 3},
		{list{1, 2, 3}, list{1, 2, 3, 4}, 2},
		{list{1, 2, 3}, list{1}, 1},
		{list{1, 2, 3}, list{1}, 0},
		{list{1}, nil, -1}, // other numbers of elements
		{list{1, 2}, list{1}, -1},
		{list{1, 2}, list{1}, math.MinInt},
		{list{1}, nil, 1001},
		{list{1, 2}, list{1}, 1001},
		{list{1, 2}, list{1}, math.MaxInt},
	} {
		if got, err := massey.Goes(c.rule, c.begin, c.n); err != api.ErrRange || len(got) != 0 {
			t.Errorf("Goes(%x, %x, %d) = %x, %v", c.rule, c.begin, c.n, got, err)
		}
	}
}

// P3.2

func TestGeneratedSequences(t *testing.T) {
	s := scatter(6)
	for length := range 16 {
		rules := []list{s.rule(length), append(list{1}, make(list, length)...), append(s.rule(length/2), make(list, length-length/2)...)}
		begins := []list{s.elements(length), make(list, length), slices.Repeat(list{7}, length)}
		for _, rule := range rules {
			for _, begin := range begins {
				for n := range 40 {
					sequence, err := massey.Goes(rule, begin, n)
					if err != nil || !massey.Keeps(rule, sequence...) {
						t.Fatalf("%x, %v doesn't satisfy %x", sequence, err, rule)
					}
					if got := massey.Length(sequence...); got > length || got > n {
						t.Fatalf("%x of the recurrence %x has the length %d", sequence, rule, got)
					}
				}
			}
		}
	}
}

func TestGeneratingRecurrenceIsFound(t *testing.T) {
	s := scatter(7)
	for _, length := range []int{0, 1, 2, 3, 10, 40, 150, 500} {
		// Behind zeros alone, an element that isn't 0 needs all of the length.
		rule, begin := s.rule(length), make(list, length)
		if length > 0 {
			begin[length-1] = 1
		}
		sequence, err := massey.Goes(rule, begin, 2*length)
		if err != nil {
			t.Fatal(err)
		}
		if got := massey.Shortest(sequence...); !slices.Equal(got, rule) {
			t.Errorf("length %d: %x, want %x", length, got, rule)
		}
	}
}

func TestUniqueExactlyUpToHalfTheSequence(t *testing.T) {
	s := scatter(8)
	all := slices.Concat(every(list{0, 1}, 9), every(list{0, 1, 2}, 6))
	for n := range 24 {
		all = append(all, s.elements(n))
	}
	seen := [2]int{}
	for _, sequence := range all {
		length := massey.Length(sequence...)
		want, unique := least(sequence)
		if length != want || unique != (2*length <= len(sequence)) {
			t.Fatalf("%x has the length %d, and a single shortest recurrence: %v", sequence, length, unique)
		}
		if unique {
			seen[1]++
		} else {
			seen[0]++
		}
	}
	if seen[0] < 100 || seen[1] < 100 {
		t.Errorf("several recurrences and a single one came %d times", seen)
	}
}

func TestUniqueRecurrencePredicts(t *testing.T) {
	s := scatter(9)
	for length := range 12 {
		rule, begin := s.rule(length), s.elements(length)
		sequence, err := massey.Goes(rule, begin, 100)
		if err != nil {
			t.Fatal(err)
		}
		for n := 2 * length; n < 100; n += 7 {
			found := massey.Shortest(sequence[:n]...)
			again, err := massey.Goes(found, sequence[:len(found)-1], 100)
			if err != nil || !slices.Equal(again, sequence) {
				t.Fatalf("%d elements of %x, %v go on as %x by %x", n, sequence, err, again, found)
			}
		}
	}
}

// P3.3

// calls is every function, with its result if that is a list.
func calls() map[string]func(a, b list) list {
	return map[string]func(a, b list) list{
		"Shortest": func(a, _ list) list { return massey.Shortest(a...) },
		"Length":   func(a, _ list) list { massey.Length(a...); return nil },
		"Keeps":    func(a, b list) list { massey.Keeps(a, b...); return nil },
		"Goes to fewer elements": func(a, b list) list {
			sequence, _ := massey.Goes(a, b, len(b)/2)
			return sequence
		},
		"Goes to as many elements": func(a, b list) list {
			sequence, _ := massey.Goes(a, b, len(b))
			return sequence
		},
		"Goes to more elements": func(a, b list) list {
			sequence, _ := massey.Goes(a, b, len(b)+6)
			return sequence
		},
	}
}

// roomy is a list with spare capacity behind it, and the whole of its memory.
func roomy(a list) (list, list) {
	whole := append(slices.Clone(a), 11, 12, 13, 14, 15, 16, 17, 18)
	return whole[:len(a)], whole
}

// fill overwrites a result and its spare capacity.
func fill(result list) {
	result = result[:cap(result)]
	for i := range result {
		result[i] = 99
	}
}

func TestMemoryIsApart(t *testing.T) {
	arguments := []list{nil, {0}, {1}, {5}, {0, 0}, {1, 0}, {1, 2}, {1, 2, 4}, {2, 1, 1}, {1, 0, 0, 0}, {1, 1, 1, 0, 1}, {1, 2, 4, 9, 1, 2}}
	for name, call := range calls() {
		for _, first := range arguments {
			for _, second := range arguments {
				a, wholeA := roomy(first)
				b, wholeB := roomy(second)
				beforeA, beforeB := slices.Clone(wholeA), slices.Clone(wholeB)
				result := call(a, b)
				want := slices.Clone(result)
				fill(result)
				if !slices.Equal(wholeA, beforeA) || !slices.Equal(wholeB, beforeB) {
					t.Fatalf("%s of %x and %x changes its arguments, or its result shares their memory", name, first, second)
				}
				again := call(a, b)
				fill(wholeA)
				fill(wholeB)
				if !slices.Equal(again, want) {
					t.Fatalf("%s of %x and %x gave %x, and then %x", name, first, second, want, again)
				}
			}
		}
	}
}
