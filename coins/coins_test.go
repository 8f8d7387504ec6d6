package coins_test

import (
	"math"
	"slices"
	"testing"

	"gossamer/api"
	"gossamer/coins"
)

// hash is a digest with so many bytes in front, and zero bytes behind them.
func hash(front ...byte) api.Hash {
	var h api.Hash
	copy(h[:], front)
	return h
}

// ending is a digest of zero bytes but the last one.
func ending(last byte) api.Hash {
	return api.Hash{31: last}
}

// ordered are points in increasing order. Bytes have no sign, and numbers do.
func ordered() []api.Point {
	return []api.Point{
		{N: math.MinInt},
		{N: -1},
		{},
		{N: 1},
		{N: 2},
		{N: 10},
		{N: 256},
		{N: 1 << 32},
		{N: math.MaxInt},
		{Tx: ending(1), N: -5},
		{Tx: ending(1)},
		{Tx: ending(2)},
		{Tx: ending(0x80)},
		{Tx: ending(0xff), N: 7},
		{Tx: hash(0, 0, 1)},
		{Tx: hash(0, 1), N: 3},
		{Tx: hash(1), N: 9},
		{Tx: hash(1, 0, 0, 0, 0, 0, 0, 0, 1), N: 2},
		{Tx: hash(1, 0, 0, 0, 0, 0, 0, 0, 2), N: 1},
		{Tx: hash(0x7f)},
		{Tx: hash(0x80)},
		{Tx: hash(0xff), N: 1},
		{Tx: hash(0xff, 1)},
	}
}

// coinNumbered is a coin that tells its number by its value and by its lock.
func coinNumbered(i int) api.Coin {
	return api.Coin{Value: 100 + i, Lock: 1<<63 + uint64(i)}
}

// setOf is a set of numbered coins at some points, put in that order.
func setOf(t *testing.T, points ...api.Point) *coins.Set {
	t.Helper()
	s := coins.New()
	for i, p := range points {
		putIs(t, "a new point", s, p, coinNumbered(i), nil)
	}
	return s
}

func putIs(t *testing.T, name string, s *coins.Set, p api.Point, c api.Coin, want error) {
	t.Helper()
	if got := s.Put(p, c); got != want {
		t.Errorf("with %s, Put is %v, want %v", name, got, want)
	}
}

func getIs(t *testing.T, name string, s *coins.Set, p api.Point, c api.Coin, ok bool) {
	t.Helper()
	if got, is := s.Get(p); got != c || is != ok {
		t.Errorf("of %s, Get is %v, %v; want %v, %v", name, got, is, c, ok)
	}
}

func worthIs(t *testing.T, name string, s *coins.Set, want int, wantErr error) {
	t.Helper()
	if got, err := s.Worth(); got != want || err != wantErr {
		t.Errorf("of %s, Worth is %d, %v; want %d, %v", name, got, err, want, wantErr)
	}
}

func sizeIs(t *testing.T, name string, s *coins.Set, want int) {
	t.Helper()
	if got := s.Len(); got != want {
		t.Errorf("of %s, Len is %d, want %d", name, got, want)
	}
}

func pointsAre(t *testing.T, name string, s *coins.Set, want ...api.Point) {
	t.Helper()
	if got := s.Points(); !slices.Equal(got, want) {
		t.Errorf("of %s, Points is %v, want %v", name, got, want)
	}
}

// P12.1: New

func TestNew(t *testing.T) {
	s := coins.New()
	sizeIs(t, "a new set", s, 0)
	pointsAre(t, "a new set", s)
	worthIs(t, "a new set", s, 0, nil)
	getIs(t, "a new set", s, api.Point{}, api.Coin{}, false)
	putIs(t, "a new set", s, api.Point{}, coinNumbered(1), nil)
	sizeIs(t, "another new set", coins.New(), 0)
	getIs(t, "another new set", coins.New(), api.Point{}, api.Coin{}, false)
}

// P12.1: Put, Get and Len

func TestPutAndGet(t *testing.T) {
	points, s := ordered(), coins.New()
	for i, p := range points {
		getIs(t, "a point ahead of its coin", s, p, api.Coin{}, false)
		sizeIs(t, "the set so far", s, i)
		putIs(t, "a new point", s, p, coinNumbered(i), nil)
		sizeIs(t, "the set with one more", s, i+1)
		for j, q := range points[:i+1] {
			getIs(t, "a point with a coin", s, q, coinNumbered(j), true)
		}
	}
	getIs(t, "another number", s, api.Point{Tx: hash(0xff, 1), N: 1}, api.Coin{}, false)
	getIs(t, "another digest", s, api.Point{Tx: hash(0xff, 2)}, api.Coin{}, false)
}

// All amounts can be put, and all locks.
func TestPutOfAmounts(t *testing.T) {
	for _, value := range []int{0, 1, 100_000_000, api.MaxMoney - 1, api.MaxMoney} {
		for _, lock := range []uint64{0, 1, 1 << 63, math.MaxUint64} {
			s, c := coins.New(), api.Coin{Value: value, Lock: lock}
			putIs(t, "an amount", s, api.Point{}, c, nil)
			getIs(t, "an amount", s, api.Point{}, c, true)
			worthIs(t, "one coin", s, value, nil)
		}
	}
}

func TestPutOfNoAmount(t *testing.T) {
	for _, value := range []int{-1, -api.MaxMoney, math.MinInt, api.MaxMoney + 1, 1 << 62, math.MaxInt} {
		s := setOf(t, api.Point{})
		putIs(t, "no amount", s, api.Point{N: 1}, api.Coin{Value: value}, api.ErrValue)
		getIs(t, "a point whose coin was refused", s, api.Point{N: 1}, api.Coin{}, false)
		putIs(t, "no amount and a point that is there", s, api.Point{}, api.Coin{Value: value}, api.ErrValue)
		getIs(t, "the point that was there", s, api.Point{}, coinNumbered(0), true)
		sizeIs(t, "the set", s, 1)
		putIs(t, "an amount at the same point", s, api.Point{N: 1}, coinNumbered(1), nil)
	}
}

func TestPutAgain(t *testing.T) {
	points := ordered()
	s := setOf(t, points...)
	for i, p := range points {
		putIs(t, "another coin", s, p, coinNumbered(i+1), api.ErrDup)
		putIs(t, "the same coin", s, p, coinNumbered(i), api.ErrDup)
		putIs(t, "a coin of 0", s, p, api.Coin{}, api.ErrDup)
		getIs(t, "a point put twice", s, p, coinNumbered(i), true)
	}
	sizeIs(t, "the set", s, len(points))
}

// A coin without value and lock is a coin no less.
func TestZeroCoin(t *testing.T) {
	s := coins.New()
	putIs(t, "a zero coin", s, api.Point{N: 3}, api.Coin{}, nil)
	getIs(t, "a zero coin", s, api.Point{N: 3}, api.Coin{}, true)
	sizeIs(t, "a set with a zero coin", s, 1)
	pointsAre(t, "a set with a zero coin", s, api.Point{N: 3})
	putIs(t, "a zero coin again", s, api.Point{N: 3}, api.Coin{}, api.ErrDup)
}

// P12.1: Points

func TestPointsAreInOrder(t *testing.T) {
	want := ordered()
	r := scatter(301)
	for range 50 {
		points := slices.Clone(want)
		for i := range points {
			j := r.below(i + 1)
			points[i], points[j] = points[j], points[i]
		}
		pointsAre(t, "points put in some order", setOf(t, points...), want...)
	}
}

// Every byte of the digests counts, the ones in front more, and all of them more than the number.
func TestPointsByEveryByte(t *testing.T) {
	for i := range 32 {
		less, more := api.Point{N: 9}, api.Point{N: 1}
		less.Tx[i], more.Tx[i] = 0x7f, 0x80
		for j := i + 1; j < 32; j++ {
			less.Tx[j], more.Tx[j] = 0xff, 0
		}
		pointsAre(t, "two points", setOf(t, more, less), less, more)
		pointsAre(t, "two points", setOf(t, less, more), less, more)
	}
}

// P12.1: Worth

func TestWorth(t *testing.T) {
	s, sum := coins.New(), 0
	for i, value := range []int{5, 0, 7, 100_000_000, 7, 3} {
		putIs(t, "an amount", s, api.Point{N: i}, api.Coin{Value: value, Lock: 99}, nil)
		sum += value
		worthIs(t, "the coins so far", s, sum, nil)
	}
}

// A set may be worth more than any amount: then Worth has no result, however the coins are traversed.
func TestWorthBeyondAnAmount(t *testing.T) {
	s := coins.New()
	putIs(t, "all money but 1", s, api.Point{N: 1}, api.Coin{Value: api.MaxMoney - 1}, nil)
	putIs(t, "the last 1", s, api.Point{N: 2}, api.Coin{Value: 1}, nil)
	worthIs(t, "all money", s, api.MaxMoney, nil)
	putIs(t, "1 too much", s, api.Point{N: 3}, api.Coin{Value: 1}, nil)
	for i := range 20 {
		worthIs(t, "more than all money", s, 0, api.ErrValue)
		putIs(t, "nothing more", s, api.Point{N: 10 + i}, api.Coin{}, nil)
	}
	// With 64 bits, the sum of so many wraps around to an amount.
	whole := coins.New()
	for i := range 8785 {
		putIs(t, "all money again", whole, api.Point{N: i}, api.Coin{Value: api.MaxMoney}, nil)
	}
	worthIs(t, "thousands of times all money", whole, 0, api.ErrValue)
	sizeIs(t, "thousands of times all money", whole, 8785)
}

// P12.1: a nil set

func TestNilSet(t *testing.T) {
	var s *coins.Set
	putIs(t, "a nil set", s, api.Point{}, coinNumbered(0), api.ErrNone)
	putIs(t, "a nil set and no amount", s, api.Point{}, api.Coin{Value: -1}, api.ErrNone)
	getIs(t, "a nil set", s, api.Point{}, api.Coin{}, false)
	sizeIs(t, "a nil set", s, 0)
	pointsAre(t, "a nil set", s)
	worthIs(t, "a nil set", s, 0, nil)
	if s.Copy() != nil {
		t.Error("the copy of a nil set isn't nil")
	}
	a := paying(api.Point{}, 0, "a")
	feeIs(t, "a nil set", s, a, 0, api.ErrOrphan)
	doFails(t, "a nil set", s, a, api.ErrOrphan)
	for name, c := range invalid() {
		feeIs(t, "a nil set and "+name, s, c.tx, 0, c.err)
		doFails(t, "a nil set and "+name, s, c.tx, c.err)
	}
	backIs(t, "a nil set", s, coins.Undo{Tx: a, Coins: []api.Coin{{}}}, api.ErrNone)
	backIs(t, "a nil set and no coins", s, coins.Undo{Tx: a}, api.ErrNone)
	backIs(t, "a nil set and nothing to undo", s, coins.Undo{}, api.ErrNone)
}
