package sat_test

import (
	"math"
	"math/big"
	"math/rand"
	"slices"
	"testing"

	"sounder/api"
	"sounder/sat"
)

// samples are arguments in rising order: the edges of the ints, of the numbers
// and of the exact products, and numbers of all lengths (the same at each run).
func samples() []int {
	l := []int{
		math.MinInt, -1 << 53, -7, -2, -1, 0, 1, 2, 3, 4, 5, 7, 1000,
		1<<26 - 1, 1 << 26, 1<<27 - 1, 1 << 27, 1<<27 + 1, 1 << 32, 1 << 40,
		1 << 52, most - 1, most, most + 1, 1 << 62, math.MaxInt,
	}
	source := rand.New(rand.NewSource(1))
	for length := 2; length <= 53; length += 3 {
		l = append(l, source.Intn(1<<length))
	}
	slices.Sort(l)
	return l
}

// numbers are those samples that are numbers.
func numbers() []int {
	return slices.DeleteFunc(samples(), func(n int) bool { return n < 0 || n > most })
}

// times are the numbers and, as it is later than all of them, Never at the end.
func times() []int { return append(numbers(), api.Never) }

// count is as what an argument counts, by the definition.
func count(n int) *big.Int {
	return cut(big.NewInt(int64(n)))
}

func cut(n *big.Int) *big.Int {
	if n.Sign() < 0 {
		return big.NewInt(0)
	}
	if n.Cmp(big.NewInt(most)) > 0 {
		return big.NewInt(most)
	}
	return n
}

// P1.1: against arithmetic without bounds.
func TestAgainstExactSums(t *testing.T) {
	for _, a := range samples() {
		for _, b := range samples() {
			x, y := count(a), count(b)
			add := int(cut(new(big.Int).Add(x, y)).Int64())
			sub := int(cut(new(big.Int).Sub(x, y)).Int64())
			mul := int(cut(new(big.Int).Mul(x, y)).Int64())
			if sat.Add(a, b) != add || sat.Sub(a, b) != sub || sat.Mul(a, b) != mul {
				t.Errorf("Add, Sub, Mul of %d, %d: got %d, %d, %d, want %d, %d, %d", a, b, sat.Add(a, b), sat.Sub(a, b), sat.Mul(a, b), add, sub, mul)
			}
		}
	}
}

// quotients are MulDiv, MulUp and MulRest's remainder, by the definition.
func quotients(a, b, c int) (down, up, rest int) {
	divisor := count(c)
	if divisor.Sign() == 0 {
		return most, most, 0
	}
	product := new(big.Int).Mul(count(a), count(b))
	q, r := new(big.Int).QuoRem(product, divisor, new(big.Int))
	upper := new(big.Int).Set(q)
	if r.Sign() > 0 {
		upper.Add(upper, big.NewInt(1))
	}
	if q.Cmp(big.NewInt(most)) > 0 {
		r.SetInt64(0)
	}
	return int(cut(q).Int64()), int(cut(upper).Int64()), int(r.Int64())
}

// P1.2: against arithmetic without bounds.
func TestAgainstExactQuotients(t *testing.T) {
	for _, a := range samples() {
		for _, b := range samples() {
			for _, c := range samples() {
				down, up, rest := quotients(a, b, c)
				q, r := sat.MulRest(a, b, c)
				if sat.MulDiv(a, b, c) != down || sat.MulUp(a, b, c) != up || q != down || r != rest {
					t.Fatalf("of %d, %d, %d: MulDiv %d, MulUp %d, MulRest %d and %d, want %d, %d, %d and %d", a, b, c, sat.MulDiv(a, b, c), sat.MulUp(a, b, c), q, r, down, up, down, rest)
				}
			}
		}
	}
}

// P1.4: the order of the terms and of the factors does not matter.
func TestCommutativeAndAssociative(t *testing.T) {
	for name, f := range map[string]func(a, b int) int{"Add": sat.Add, "Mul": sat.Mul} {
		for _, a := range samples() {
			for _, b := range samples() {
				if f(a, b) != f(b, a) {
					t.Fatalf("%s(%d, %d) is not commutative", name, a, b)
				}
				for _, c := range samples() {
					if f(f(a, b), c) != f(a, f(b, c)) {
						t.Fatalf("%s of %d, %d, %d is not associative", name, a, b, c)
					}
				}
			}
		}
	}
}

// P1.4: Sub undoes Add if nothing was cut off.
func TestSubUndoesAdd(t *testing.T) {
	for _, a := range numbers() {
		for _, b := range numbers() {
			if a+b <= most && sat.Sub(sat.Add(a, b), b) != a {
				t.Errorf("Sub(Add(%d, %d), %d): got %d", a, b, b, sat.Sub(sat.Add(a, b), b))
			}
		}
	}
}

// later tells whether the time a is later than the time b.
func later(a, b int) bool {
	if a == api.Never || b == api.Never {
		return a == api.Never && b != api.Never
	}
	return a > b
}

// P1.4: monotone in each number; the quotients fall with the divisor.
func TestMonotoneNumbers(t *testing.T) {
	l := samples()
	for i := 1; i < len(l); i++ {
		low, high := l[i-1], l[i]
		if sat.Num(low) > sat.Num(high) {
			t.Errorf("Num falls from %d to %d", low, high)
		}
		for _, b := range l {
			if sat.Add(low, b) > sat.Add(high, b) || sat.Add(b, low) > sat.Add(b, high) {
				t.Errorf("Add falls from %d to %d beside %d", low, high, b)
			}
			if sat.Mul(low, b) > sat.Mul(high, b) || sat.Mul(b, low) > sat.Mul(b, high) {
				t.Errorf("Mul falls from %d to %d beside %d", low, high, b)
			}
			for _, c := range l {
				checkQuotientsMonotone(t, low, high, b, c)
			}
		}
	}
}

func checkQuotientsMonotone(t *testing.T, low, high, b, c int) {
	for name, f := range map[string]func(a, b, c int) int{"MulDiv": sat.MulDiv, "MulUp": sat.MulUp} {
		if f(low, b, c) > f(high, b, c) || f(b, low, c) > f(b, high, c) {
			t.Fatalf("%s falls from %d to %d beside %d, %d", name, low, high, b, c)
		}
		if f(b, c, low) < f(b, c, high) {
			t.Fatalf("%s(%d, %d, ..) rises from the divisor %d to %d", name, b, c, low, high)
		}
	}
}

// P1.4, P1.6: monotone in each time; Ends in the time and in the number.
func TestMonotoneTimes(t *testing.T) {
	l := times()
	for i := 1; i < len(l); i++ {
		low, high := l[i-1], l[i]
		for _, b := range l {
			for name, f := range map[string]func(a, b int) int{"Earlier": sat.Earlier, "Later": sat.Later} {
				if later(f(low, b), f(high, b)) || later(f(b, low), f(b, high)) {
					t.Errorf("%s falls from %d to %d beside %d", name, low, high, b)
				}
			}
		}
		for _, d := range samples() {
			if later(sat.Ends(low, d), sat.Ends(high, d)) {
				t.Errorf("Ends(.., %d) falls from %d to %d", d, low, high)
			}
		}
	}
	d := samples()
	for i := 1; i < len(d); i++ {
		for _, a := range l {
			if later(sat.Ends(a, d[i-1]), sat.Ends(a, d[i])) {
				t.Errorf("Ends(%d, ..) falls from %d to %d", a, d[i-1], d[i])
			}
		}
	}
}

// P1.5: q c <= a b < (q + 1) c below MaxTime, and MulUp's difference to it.
func TestQuotientBounds(t *testing.T) {
	for _, a := range numbers() {
		for _, b := range numbers() {
			for _, c := range numbers() {
				if q := sat.MulDiv(a, b, c); q < most {
					checkBounds(t, a, b, c, q)
				}
			}
		}
	}
}

func checkBounds(t *testing.T, a, b, c, q int) {
	product := new(big.Int).Mul(count(a), count(b))
	low := new(big.Int).Mul(count(q), count(c))
	high := new(big.Int).Add(low, count(c))
	if low.Cmp(product) > 0 || product.Cmp(high) >= 0 {
		t.Fatalf("MulDiv(%d, %d, %d): %d is not within its bounds", a, b, c, q)
	}
	up := q + 1
	if low.Cmp(product) == 0 {
		up = q
	}
	if sat.MulUp(a, b, c) != up {
		t.Fatalf("MulUp(%d, %d, %d): got %d, want %d", a, b, c, sat.MulUp(a, b, c), up)
	}
}

// P1.6: Earlier and Later return one each.
func TestEarlierAndLaterShareOut(t *testing.T) {
	for _, a := range times() {
		for _, b := range times() {
			x, y := sat.Earlier(a, b), sat.Later(a, b)
			if !(x == a && y == b || x == b && y == a) || later(x, y) {
				t.Errorf("Earlier, Later of %d, %d: got %d, %d", a, b, x, y)
			}
		}
	}
}
