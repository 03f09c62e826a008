package sat_test

import (
	"math"
	"testing"

	"sounder/api"
	"sounder/sat"
)

const most = api.MaxTime

// one is a call that answers a single number or time.
type one struct {
	name      string
	got, want int
}

func checkAll(t *testing.T, calls []one) {
	t.Helper()
	for _, c := range calls {
		if c.got != c.want {
			t.Errorf("%s: got %d, want %d", c.name, c.got, c.want)
		}
	}
}

// P1.1: what is a number, and as what anything else counts.
func TestIsAndNum(t *testing.T) {
	for _, c := range []struct {
		n, num int
		is     bool
	}{
		{0, 0, true},
		{1, 1, true},
		{1 << 40, 1 << 40, true},
		{most - 1, most - 1, true},
		{most, most, true},
		{most + 1, most, false},
		{math.MaxInt, most, false},
		{-1, 0, false},
		{-7, 0, false},
		{math.MinInt, 0, false},
	} {
		if sat.Is(c.n) != c.is || sat.Num(c.n) != c.num {
			t.Errorf("Is(%d), Num(%d): got %v, %d, want %v, %d", c.n, c.n, sat.Is(c.n), sat.Num(c.n), c.is, c.num)
		}
	}
}

// P1.1: sums, differences and products.
func TestAddSubMul(t *testing.T) {
	checkAll(t, []one{
		{"Add(2, 3)", sat.Add(2, 3), 5},
		{"Add(most, 1)", sat.Add(most, 1), most},
		{"Add(most - 1, 1)", sat.Add(most-1, 1), most},
		{"Add(most, most)", sat.Add(most, most), most},
		{"Add(-7, 2)", sat.Add(-7, 2), 2},
		{"Add(2, -7)", sat.Add(2, -7), 2},
		{"Add(greatest int, greatest int)", sat.Add(math.MaxInt, math.MaxInt), most},
		{"Add(least int, least int)", sat.Add(math.MinInt, math.MinInt), 0},
		{"Sub(5, 3)", sat.Sub(5, 3), 2},
		{"Sub(3, 5)", sat.Sub(3, 5), 0},
		{"Sub(5, -3)", sat.Sub(5, -3), 5},
		{"Sub(-5, -9)", sat.Sub(-5, -9), 0},
		{"Sub(most + 9, 1)", sat.Sub(most+9, 1), most - 1},
		{"Sub(most, most + 9)", sat.Sub(most, most+9), 0},
		{"Sub(0, least int)", sat.Sub(0, math.MinInt), 0},
		{"Sub(greatest int, least int)", sat.Sub(math.MaxInt, math.MinInt), most},
		{"Mul(6, 7)", sat.Mul(6, 7), 42},
		{"Mul(2^40, 2^40)", sat.Mul(1<<40, 1<<40), most},
		{"Mul(2^32, 2^32)", sat.Mul(1<<32, 1<<32), most},
		{"Mul(2^26, 2^27)", sat.Mul(1<<26, 1<<27), most},
		{"Mul(2^26, 2^26)", sat.Mul(1<<26, 1<<26), 1 << 52},
		{"Mul(most, 1)", sat.Mul(most, 1), most},
		{"Mul(most, 0)", sat.Mul(most, 0), 0},
		{"Mul(-3, -4)", sat.Mul(-3, -4), 0},
		{"Mul(most + 1, 1)", sat.Mul(most+1, 1), most},
		{"Mul(greatest int, greatest int)", sat.Mul(math.MaxInt, math.MaxInt), most},
	})
}

// P1.2: quotients downwards and upwards.
func TestMulDivAndMulUp(t *testing.T) {
	checkAll(t, []one{
		{"MulDiv(7, 5, 4)", sat.MulDiv(7, 5, 4), 8},
		{"MulUp(7, 5, 4)", sat.MulUp(7, 5, 4), 9},
		{"MulDiv(8, 5, 4)", sat.MulDiv(8, 5, 4), 10},
		{"MulUp(8, 5, 4)", sat.MulUp(8, 5, 4), 10},
		{"MulDiv(2^52, 2^52, 2^52)", sat.MulDiv(1<<52, 1<<52, 1<<52), 1 << 52},
		{"MulUp(2^52, 2^52, 2^52)", sat.MulUp(1<<52, 1<<52, 1<<52), 1 << 52},
		{"MulDiv(most, most, most)", sat.MulDiv(most, most, most), most},
		{"MulDiv(most, most, 1)", sat.MulDiv(most, most, 1), most},
		{"MulUp(most, most, 1)", sat.MulUp(most, most, 1), most},
		{"MulDiv(0, 9, 5)", sat.MulDiv(0, 9, 5), 0},
		{"MulUp(1, 0, 3)", sat.MulUp(1, 0, 3), 0},
		{"MulUp(1, 1, most)", sat.MulUp(1, 1, most), 1},
		{"MulDiv(1, 1, most)", sat.MulDiv(1, 1, most), 0},
		{"MulDiv(1, 1, 0)", sat.MulDiv(1, 1, 0), most},
		{"MulUp(1, 1, 0)", sat.MulUp(1, 1, 0), most},
		{"MulDiv(0, 0, 0)", sat.MulDiv(0, 0, 0), most},
		{"MulUp(0, 0, -5)", sat.MulUp(0, 0, -5), most},
		{"MulDiv(7, 5, -4)", sat.MulDiv(7, 5, -4), most},
		{"MulDiv(7, 5, least int)", sat.MulDiv(7, 5, math.MinInt), most},
		{"MulDiv(-7, 5, 4)", sat.MulDiv(-7, 5, 4), 0},
		{"MulUp(-7, -5, 4)", sat.MulUp(-7, -5, 4), 0},
		{"MulDiv(most + 5, 1, 1)", sat.MulDiv(most+5, 1, 1), most},
		{"MulDiv(most, 1, most + 5)", sat.MulDiv(most, 1, most+5), 1},
		{"MulDiv(greatest int, 1, greatest int)", sat.MulDiv(math.MaxInt, 1, math.MaxInt), 1},
		// The product is 2 MaxTime + 1: only MulUp's result is cut off.
		{"MulDiv(2^27 - 1, 2^27 + 1, 2)", sat.MulDiv(1<<27-1, 1<<27+1, 2), most},
		{"MulUp(2^27 - 1, 2^27 + 1, 2)", sat.MulUp(1<<27-1, 1<<27+1, 2), most},
	})
}

// P1.2: the remainder, which is 0 where the quotient says nothing exact.
func TestMulRest(t *testing.T) {
	for _, c := range []struct{ a, b, c, q, rest int }{
		{7, 5, 4, 8, 3},
		{8, 5, 4, 10, 0},
		{0, 5, 4, 0, 0},
		{1, 1, most, 0, 1},
		{most, most - 1, most, most - 1, 0},
		{most, 3, 2, most, 0},
		{most, most, 2, most, 0},
		{1, 1, 0, most, 0},
		{0, 0, 0, most, 0},
		{7, 5, -4, most, 0},
		{-7, 5, 4, 0, 0},
		{math.MaxInt, 1, 2, most / 2, 1},
		{3, 1, math.MaxInt, 0, 3},
		// The quotient is just MaxTime, so it was not reduced.
		{1<<27 - 1, 1<<27 + 1, 2, most, 1},
		{most, 1, 1, most, 0},
	} {
		q, rest := sat.MulRest(c.a, c.b, c.c)
		if q != c.q || rest != c.rest {
			t.Errorf("MulRest(%d, %d, %d): got %d and %d, want %d and %d", c.a, c.b, c.c, q, rest, c.q, c.rest)
		}
	}
}

// P1.3: what is a time.
func TestIsTime(t *testing.T) {
	for _, c := range []struct {
		t  int
		is bool
	}{
		{api.Never, true}, {0, true}, {5, true}, {most, true},
		{most + 1, false}, {math.MaxInt, false}, {-2, false}, {math.MinInt, false},
	} {
		if sat.IsTime(c.t) != c.is {
			t.Errorf("IsTime(%d): got %v", c.t, !c.is)
		}
	}
}

// P1.3: which time is the earlier one, which the later one, and when something ends.
func TestTimes(t *testing.T) {
	checkAll(t, []one{
		{"Earlier(4, 5)", sat.Earlier(4, 5), 4},
		{"Earlier(5, 4)", sat.Earlier(5, 4), 4},
		{"Earlier(-1, 5)", sat.Earlier(-1, 5), 5},
		{"Earlier(5, -1)", sat.Earlier(5, -1), 5},
		{"Earlier(-1, -1)", sat.Earlier(-1, -1), -1},
		{"Earlier(-5, -1)", sat.Earlier(-5, -1), -1},
		{"Earlier(-5, 7)", sat.Earlier(-5, 7), 7},
		{"Earlier(most + 1, most)", sat.Earlier(most+1, most), most},
		{"Earlier(most + 1, least int)", sat.Earlier(most+1, math.MinInt), -1},
		{"Later(4, 5)", sat.Later(4, 5), 5},
		{"Later(5, 4)", sat.Later(5, 4), 5},
		{"Later(-1, 5)", sat.Later(-1, 5), -1},
		{"Later(5, -1)", sat.Later(5, -1), -1},
		{"Later(-1, -1)", sat.Later(-1, -1), -1},
		{"Later(-5, 7)", sat.Later(-5, 7), -1},
		{"Later(most + 1, 7)", sat.Later(most+1, 7), -1},
		{"Later(7, greatest int)", sat.Later(7, math.MaxInt), -1},
		{"Ends(3, 4)", sat.Ends(3, 4), 7},
		{"Ends(3, 0)", sat.Ends(3, 0), 3},
		{"Ends(3, -4)", sat.Ends(3, -4), 3},
		{"Ends(-1, 3)", sat.Ends(-1, 3), -1},
		{"Ends(-1, -1)", sat.Ends(-1, -1), -1},
		{"Ends(-5, 3)", sat.Ends(-5, 3), -1},
		{"Ends(most + 1, 3)", sat.Ends(most+1, 3), -1},
		{"Ends(2^53 - 2, 9)", sat.Ends(1<<53-2, 9), most},
		{"Ends(most, 1)", sat.Ends(most, 1), most},
		{"Ends(0, greatest int)", sat.Ends(0, math.MaxInt), most},
	})
}
