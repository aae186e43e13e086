package tests

import (
	"fmt"
	"math"
	"math/big"
	"reflect"
	"slices"
	"testing"

	"loop.example/g01122/impl"
)

// jump has two numbers with the k and the c for which they are, or are not, a pair.
type jump struct {
	x, y, k, c int
}

// mostTold is how many pairs a list may have.
const mostTold = 1000

// fitsExactly has no limits and no order, and no number that is too great for it.
func (j jump) fitsExactly() bool {
	number := func(n int) *big.Int { return big.NewInt(int64(n)) }
	times := func(a, b *big.Int) *big.Int { return new(big.Int).Mul(a, b) }
	sum := new(big.Int).Add(times(number(j.x), number(j.x)), times(number(j.y), number(j.y)))
	return sum.Add(sum, number(j.c)).Cmp(times(number(j.k), times(number(j.x), number(j.y)))) == 0
}

func (j jump) fitsModuloWords() bool { return j.x*j.x+j.y*j.y+j.c == j.k*j.x*j.y }

// numbers are those of the pair alone.
func (j jump) numbers() []int { return []int{j.x, j.y} }

// lower looks for a number that fits in place of x, as no more than two numbers fit beside y.
func (j jump) lower() (jump, bool) {
	for root := range j.x {
		if (jump{root, j.y, j.k, j.c}).fitsModuloWords() {
			return jump{max(root, j.y), min(root, j.y), j.k, j.c}, true
		}
	}
	return jump{}, false
}

func (j jump) upper() (jump, bool) {
	root := j.k*j.x - j.y
	return jump{root, j.x, j.k, j.c}, root >= j.x && root <= impl.MaxJump
}

// descent looks for a lower pair again and again.
func (j jump) descent() [][]int {
	lists := [][]int{j.numbers()}
	for next, can := j.lower(); can; next, can = next.lower() {
		lists = append(lists, next.numbers())
	}
	return lists
}

// jumpsUpTo returns all pairs of all equations with an x of at most most, ordered by x and then by y.
func jumpsUpTo(most int) []jump {
	var all []jump
	for x := 0; x <= most; x++ {
		for y := 0; y <= x; y++ {
			for k := 1; k <= impl.MaxK; k++ {
				if c := k*x*y - x*x - y*y; c >= -impl.MaxC && c <= impl.MaxC {
					all = append(all, jump{x, y, k, c})
				}
			}
		}
	}
	return all
}

// jumpsWith returns all pairs of all equations with a given x greater than MaxC.
func jumpsWith(x int) []jump {
	var all []jump
	for y := 1; y <= x; y++ {
		// x divides the sum of y y and c, so that there are two c at most.
		for _, c := range []int{-(y * y % x), x - y*y%x} {
			sum := x*x + y*y + c
			if c >= -impl.MaxC && c <= impl.MaxC && sum%(x*y) == 0 && sum/(x*y) <= impl.MaxK {
				all = append(all, jump{x, y, sum / (x * y), c})
			}
		}
	}
	return all
}

// slow has k = 2 and less than 0 the square of the difference: each jump down takes the difference from both numbers.
func slow(x, difference int) jump {
	return jump{x, x - difference, 2, -difference * difference}
}

// fast is the pair behind so many jumps up from 1, 1 for k = 3 and c = 1: every other number of Fibonacci.
func fast(jumps int) jump {
	j := jump{1, 1, 3, 1}
	for range jumps {
		j.x, j.y = 3*j.x-j.y, j.x
	}
	return j
}

// leastJumps have an other root that is less than 0, then one equal to x, and then one greater than x.
func leastJumps() []jump {
	return []jump{
		{1, 0, 1, -1}, {31, 0, 1, -961}, {31, 0, 1000, -961}, {2, 0, 4, -4}, {3, 1, 2, -4}, {37, 1, 10, -1000}, {90, 10, 8, -1000}, slow(1, 1), slow(61, 31), slow(31, 31),
		{0, 0, 1, 0}, {0, 0, 2, 0}, {0, 0, 1000, 0}, {1, 1, 2, 0}, {impl.MaxJump, impl.MaxJump, 2, 0}, {2, 1, 4, 3}, slow(500, 0),
		{1, 1, 3, 1}, {2, 1, 5, 5}, {1, 1, 1000, 998}, {2, 2, 252, 1000}, {10, 10, 12, 1000}, {7, 1, 150, 1000}, {10, 6, 7, 284},
	}
}

// lowerableJumps have an other root that is 0, then one less than y, equal to y, and greater than y.
func lowerableJumps() []jump {
	return []jump{
		{1, 1, 1, -1}, {31, 31, 1, -961}, {6, 2, 3, -4}, {8, 2, 4, -4}, {961, 31, 31, -961}, {1000, 1, 1000, -1}, slow(2, 1), slow(62, 31),
		{5, 2, 3, 1}, {13, 5, 3, 1}, {30, 8, 4, -4}, {999999, 1000, 1000, -1}, {14, 3, 5, 5}, {9, 2, 5, 5}, fast(14),
		slow(999, 1), slow(1000, 1), slow(1001, 1), slow(impl.MaxJump, 1), slow(impl.MaxJump, 31), slow(999999, 1), slow(999969, 31), slow(999970, 31), slow(999971, 31),
		{2, 1, 3, 1}, {999, 1, 1000, 998}, {110, 10, 12, 1000}, {502, 2, 252, 1000},
		{3, 1, 5, 5}, {143, 1, 150, 1000}, {77, 1, 90, 1000}, {91, 1, 102, 1000}, {32, 6, 7, 284},
	}
}

func someJumps() []jump { return append(leastJumps(), lowerableJumps()...) }

// strayJumps fit, but an x is less than y, or a number is less than 0 or beyond MaxJump.
func strayJumps() []jump {
	return []jump{
		{2, 5, 3, 1}, {1, 2, 3, 1}, {0, 1, 3, -1}, {0, 31, 1, -961}, {8, 30, 4, -4}, {0, 2, 4, -4}, {1, 1000, 1000, -1}, {999, 1000, 2, -1}, {999999, 1000000, 2, -1}, {1000, 999999, 1000, -1},
		{-1, -1, 2, 0}, {-1, -2, 3, 1}, {-2, -5, 3, 1}, {2, -1, 3, -11}, {5, -1, 1, -31}, {0, -1, 3, -1}, {0, -31, 1, -961}, {1, -1, 2, -4}, {-1, -1, 1, -1}, {-1, 1, 2, -4}, {31, -1, 1, -993}, {-2, 0, 4, -4}, {-5, -2, 3, 1},
		slow(impl.MaxJump+1, 0), slow(impl.MaxJump+1, 1), slow(impl.MaxJump+1, 31), slow(2*impl.MaxJump, 1), {999998000, 999999, 1000, -1}, fast(15), fast(20),
		slow(1<<31, 0), slow(1<<40, 0), slow(1<<62, 0), slow(1<<62, 1), slow(math.MaxInt, 0), slow(math.MaxInt, 31), slow(math.MinInt, 0), slow(math.MinInt+1, 1), slow(0, 1), slow(30, 31),
	}
}

// wrappedJumps fit modulo 2 to the power of 64 only.
func wrappedJumps() []jump {
	return []jump{
		{1 << 32, 0, 1, 0}, {1 << 32, 0, 1000, 0}, {1 << 32, 1 << 32, 1, 0}, {1 << 32, 1 << 32, 1000, 0}, {1 << 40, 1 << 32, 7, 0}, {1 << 62, 1 << 32, 3, 0}, {1 << 62, 1 << 62, 5, 0}, {1 << 62, 0, 4, 0},
		{math.MinInt, math.MinInt, 1, 0}, {math.MinInt, 0, 1, 0}, {0, math.MinInt, 1, 0}, {math.MinInt + 1, 0, 5, -1}, {math.MinInt + 31, 0, 4, -961}, {math.MaxInt, 0, 5, -1}, {math.MaxInt, math.MinInt, 2, -1}, {math.MinInt, math.MaxInt, 2, -1}, {math.MinInt, 1 << 32, 1, 0},
	}
}

// unfitJumps have numbers that do not fit.
func unfitJumps() []jump {
	return []jump{
		{0, 0, 1, 1}, {0, 0, 2, -1}, {1, 0, 3, 0}, {1, 0, 3, 1}, {1, 1, 1, 0}, {1, 1, 3, 0}, {1, 1, 2, 1}, {5, 2, 3, 0}, {5, 2, 3, 2}, {5, 2, 2, 1}, {5, 2, 4, 1}, {5, 2, 3, -1}, {5, 3, 3, 1}, {6, 2, 3, 1}, {31, 0, 1, -960}, {31, 0, 1000, 961}, {2, 2, 1, 8}, {3, 1, 1, 5}, {0, 1, 1, 0}, {-1, 0, 1, 0},
		{999999, 1000, 1000, 1}, {999999, 1001, 1000, -1}, {1000000, 999999, 2, 1}, {1000000, 999998, 2, -1}, {1000000, 1000000, 1, 0}, {1000000, 1000000, 1000, 1000}, {1000000, 0, 1000, -1000}, {1000000, 1, 1000, -1}, {1000000, 1000000, 2, 1}, {1000001, 1, 2, 0}, {math.MaxInt, 1, 3, 1}, {1, math.MinInt, 3, 1}, {math.MaxInt, math.MaxInt, 3, 0},
	}
}

// notJumps have a k and a c within their limits, but are no pairs.
func notJumps() []jump { return slices.Concat(strayJumps(), wrappedJumps(), unfitJumps()) }

// notJumpEquations have numbers that fit, perhaps modulo 2 to the power of 64 only; but a k or a c is beyond its limits.
func notJumpEquations() []jump {
	return []jump{
		{0, 0, 0, 0}, {1, 0, 0, -1}, {1, 1, 0, -2}, {31, 0, 0, -961}, {30, 10, 0, -1000}, {0, 0, -1, 0}, {1, 0, -1, -1}, {1, 1, -1, -3}, {2, 1, -1, -7},
		{0, 0, 1001, 0}, {31, 0, 1001, -961}, {1, 1, 1001, 999}, {1000, 1, 1001, 999}, {1001, 1, 1001, -1}, {1, 1, 1002, 1000},
		{40, 1, 15, -1001}, {61, 5, 9, -1001}, {2, 1, 503, 1001}, {5, 3, 69, 1001}, {32, 0, 1, -1024}, {32, 0, 2, -1024}, slow(100, 32), slow(impl.MaxJump, 32),
		{1, 1, 1003, 1001}, {64000, 40, 1600, -1600}, {1000000, 100, 10000, -10000}, {1000000, 0, 1000000000000, -1000000000000},
		{0, 0, math.MinInt, 0}, {0, 0, math.MaxInt, 0}, {1, 0, math.MinInt, -1}, {1, 0, math.MaxInt, -1}, {1, 1, math.MaxInt, math.MaxInt - 2}, {1 << 31, 0, 1, -1 << 62},
		{2, 2, 2 + 1<<62, 0}, {2, 2, 2 + math.MinInt, 0}, {2, 1, 3 + math.MinInt, 1}, {1, 1, math.MinInt, math.MaxInt - 1}, {1, 1, -math.MaxInt, math.MaxInt},
	}
}

func wantPair(t *testing.T, name string, x, y int, ok bool, want []int) {
	t.Helper()
	if !ok || x != want[0] || y != want[1] {
		t.Errorf("%s: %v %v %v instead of %v", name, x, y, ok, want)
	}
}

func wantNoPair(t *testing.T, name string, x, y int, ok bool) {
	t.Helper()
	if ok || x != 0 || y != 0 {
		t.Errorf("%s: %v %v %v instead of a failure", name, x, y, ok)
	}
}

// wantPairIf takes the numbers of a jump, and whether it can be done.
func wantPairIf(t *testing.T, name string, x, y int, ok bool, want jump, can bool) {
	t.Helper()
	if can {
		wantPair(t, name, x, y, ok, want.numbers())
	} else {
		wantNoPair(t, name, x, y, ok)
	}
}

func TestConstantsOfChapter8(t *testing.T) {
	got := [4]int{impl.MaxJump, impl.MaxK, impl.MaxC, impl.MaxLook}
	if got != [4]int{1000000, 1000, 1000, 200} {
		t.Error(got)
	}
}

func TestIsJump(t *testing.T) {
	for _, j := range someJumps() {
		if !j.fitsExactly() {
			t.Error("this is no test:", j)
		}
		got, ok := impl.IsJump(j.x, j.y, j.k, j.c)
		wantAnswer(t, fmt.Sprint(j), got, ok, true)
	}
	for _, j := range notJumpEquations() {
		if !j.fitsModuloWords() {
			t.Error("this is no test:", j)
		}
		got, ok := impl.IsJump(j.x, j.y, j.k, j.c)
		wantNoAnswer(t, fmt.Sprint(j), got, ok)
	}
}

func TestIsJumpOfOtherNumbers(t *testing.T) {
	for _, j := range strayJumps() {
		if !j.fitsExactly() {
			t.Error("this is no test:", j)
		}
	}
	for _, j := range wrappedJumps() {
		if j.fitsExactly() || !j.fitsModuloWords() {
			t.Error("this is no test:", j)
		}
	}
	for _, j := range unfitJumps() {
		if j.fitsModuloWords() {
			t.Error("this is no test:", j)
		}
	}
	for _, j := range notJumps() {
		got, ok := impl.IsJump(j.x, j.y, j.k, j.c)
		wantAnswer(t, fmt.Sprint(j), got, ok, false)
	}
}

func TestIsJumpOfAllLessNumbers(t *testing.T) {
	for x := -3; x <= 12; x++ {
		for y := -3; y <= 12; y++ {
			for k := -1; k <= 9; k++ {
				for c := -60; c <= 60; c++ {
					got, ok := impl.IsJump(x, y, k, c)
					name := fmt.Sprint(x, y, k, c)
					if k < 1 {
						wantNoAnswer(t, name, got, ok)
						continue
					}
					wantAnswer(t, name, got, ok, x >= y && y >= 0 && x*x+y*y+c == k*x*y)
				}
			}
		}
	}
}

func wantNoJump(t *testing.T, j jump) {
	t.Helper()
	name := fmt.Sprint(j)
	x, y, ok := impl.JumpDown(j.x, j.y, j.k, j.c)
	wantNoPair(t, name, x, y, ok)
	x, y, ok = impl.JumpUp(j.x, j.y, j.k, j.c)
	wantNoPair(t, name, x, y, ok)
	x, y, ok = impl.LeastPair(j.x, j.y, j.k, j.c)
	wantNoPair(t, name, x, y, ok)
	lists, ok := impl.DescendPair(j.x, j.y, j.k, j.c)
	wantNoLists(t, name, lists, ok)
	for _, steps := range []int{0, 1, 2, 40} {
		lists, ok = impl.AscendPair(j.x, j.y, j.k, j.c, steps)
		wantNoLists(t, name, lists, ok)
	}
}

func TestChapter8RefusesWhatIsNoPair(t *testing.T) {
	for _, j := range append(notJumps(), notJumpEquations()...) {
		wantNoJump(t, j)
	}
}

func TestKOfPair(t *testing.T) {
	for _, c := range []struct{ x, y, c, want int }{
		{5, 2, 1, 3}, {2, 1, 1, 3}, {1, 1, 1, 3}, {30, 8, -4, 4}, {3, 1, 5, 5},
		// k of 1, of 2 and of MaxK.
		{1, 1, -1, 1}, {31, 31, -961, 1}, {35, 20, -925, 1}, {1, 1, 0, 2}, {impl.MaxJump, impl.MaxJump, 0, 2}, {impl.MaxJump, 999999, -1, 2}, {impl.MaxJump, 999969, -961, 2}, {1, 1, 998, 1000}, {999, 1, 998, 1000}, {1000, 1, -1, 1000}, {999999, 1000, -1, 1000},
		// c of -MaxC and of MaxC.
		{37, 1, -1000, 10}, {90, 10, -1000, 8}, {111, 1, -1000, 102}, {2, 2, 1000, 252}, {110, 10, 1000, 12}, {143, 1, 1000, 150},
	} {
		got, ok := impl.KOfPair(c.x, c.y, c.c)
		wantNumber(t, fmt.Sprint(c), got, ok, c.want)
	}
	for _, c := range []struct{ x, y, c int }{
		// The quotient is 0, less than 0, just greater than MaxK, and no whole number.
		{1, 1, -2}, {30, 10, -1000}, {26, 18, -1000}, {1, 1, -3}, {2, 1, -7}, {1, 1, -1000}, {2, 2, -1000},
		{1, 1, 999}, {1, 1, 1000}, {1000, 1, 999}, {1001, 1, -1},
		{2, 1, 0}, {5, 2, 0}, {5, 2, 2}, {3, 2, 1}, {10, 10, 1}, {impl.MaxJump, impl.MaxJump, 1}, {impl.MaxJump, 999999, 0}, {impl.MaxJump, 100, -1000},
		// y is 0, x is less than y, and numbers are less than 0.
		{0, 0, 0}, {1, 0, -1}, {31, 0, -961}, {0, 0, 1}, {2, 5, 1}, {1, 2, 1}, {1, 1000, -1}, {0, 1, -1}, {-1, -1, 0}, {-1, -2, 1}, {2, -1, -11}, {-1, -1, -1}, {1, -1, -4}, {-1, 1, -4}, {0, -1, -1},
		// Numbers are beyond MaxJump, and c is beyond MaxC.
		{impl.MaxJump + 1, impl.MaxJump + 1, 0}, {impl.MaxJump + 1, impl.MaxJump, -1}, {999998000, 999999, -1}, {1 << 31, 1 << 31, 0}, {40, 1, -1001}, {61, 5, -1001}, {2, 1, 1001}, {5, 3, 1001}, {100, 68, -1024},
		// The product is 0 or 1 modulo 2 to the power of 64, or sums are beyond an int.
		{1 << 32, 1 << 32, 0}, {1 << 40, 1 << 32, 5}, {1 << 62, 4, 0}, {math.MaxInt, math.MaxInt, 0}, {math.MaxInt, math.MaxInt, -1}, {math.MaxInt, 1, 0}, {math.MinInt, math.MinInt, 0}, {math.MinInt, 1, 0}, {1, math.MinInt, 0}, {math.MaxInt, math.MinInt, 0}, {math.MinInt, -1, 0}, {1, 1, math.MinInt}, {1, 1, math.MaxInt}, {1, 1, math.MinInt + 1}, {1, 1, math.MinInt + 2}, {2, 1, math.MinInt + 1},
	} {
		got, ok := impl.KOfPair(c.x, c.y, c.c)
		wantNoNumber(t, fmt.Sprint(c), got, ok)
	}
}

func TestKOfPairOfAllLessNumbers(t *testing.T) {
	ks := map[[3]int]int{}
	for _, j := range jumpsUpTo(20) {
		if j.y > 0 {
			ks[[3]int{j.x, j.y, j.c}] = j.k
		}
	}
	found := 0
	for x := -2; x <= 20; x++ {
		for y := -2; y <= 20; y++ {
			for c := -impl.MaxC - 30; c <= impl.MaxC+30; c++ {
				got, ok := impl.KOfPair(x, y, c)
				if want, is := ks[[3]int{x, y, c}]; is {
					found++
					wantNumber(t, fmt.Sprint(x, y, c), got, ok, want)
				} else if ok || got != 0 {
					t.Error(x, y, c, got, ok)
				}
			}
		}
	}
	if found < 5000 || found != len(ks) {
		t.Error("this is no test:", found, len(ks))
	}
}

func TestJumpDown(t *testing.T) {
	for _, c := range []struct {
		j    jump
		want []int
	}{
		{jump{5, 2, 3, 1}, []int{2, 1}}, {jump{13, 5, 3, 1}, []int{5, 2}}, {jump{30, 8, 4, -4}, []int{8, 2}}, {jump{999999, 1000, 1000, -1}, []int{1000, 1}}, {jump{9, 2, 5, 5}, []int{2, 1}},
		// The other root is 0.
		{jump{8, 2, 4, -4}, []int{2, 0}}, {jump{6, 2, 3, -4}, []int{2, 0}}, {jump{1, 1, 1, -1}, []int{1, 0}}, {jump{31, 31, 1, -961}, []int{31, 0}}, {jump{961, 31, 31, -961}, []int{31, 0}}, {jump{1000, 1, 1000, -1}, []int{1, 0}}, {slow(62, 31), []int{31, 0}},
		// It is equal to y, and greater than y.
		{jump{2, 1, 3, 1}, []int{1, 1}}, {jump{999, 1, 1000, 998}, []int{1, 1}}, {jump{110, 10, 12, 1000}, []int{10, 10}}, {jump{3, 1, 5, 5}, []int{2, 1}}, {jump{143, 1, 150, 1000}, []int{7, 1}}, {jump{77, 1, 90, 1000}, []int{13, 1}}, {jump{32, 6, 7, 284}, []int{10, 6}},
		{slow(1001, 1), []int{1000, 999}}, {slow(impl.MaxJump, 1), []int{999999, 999998}}, {slow(impl.MaxJump, 31), []int{999969, 999938}},
	} {
		x, y, ok := impl.JumpDown(c.j.x, c.j.y, c.j.k, c.j.c)
		wantPair(t, fmt.Sprint(c.j), x, y, ok, c.want)
	}
	for _, j := range leastJumps() {
		x, y, ok := impl.JumpDown(j.x, j.y, j.k, j.c)
		wantNoPair(t, fmt.Sprint(j), x, y, ok)
	}
	for _, j := range lowerableJumps() {
		x, y, ok := impl.JumpDown(j.x, j.y, j.k, j.c)
		next, can := j.lower()
		wantPairIf(t, fmt.Sprint(j), x, y, ok, next, can)
		if !can {
			t.Error("this is no test:", j)
		}
	}
}

func TestJumpUp(t *testing.T) {
	for _, c := range []struct {
		j    jump
		want []int
	}{
		{jump{1, 1, 3, 1}, []int{2, 1}}, {jump{2, 1, 3, 1}, []int{5, 2}}, {jump{5, 2, 3, 1}, []int{13, 5}}, {jump{2, 0, 4, -4}, []int{8, 2}}, {jump{8, 2, 4, -4}, []int{30, 8}}, {jump{1, 1, 1000, 998}, []int{999, 1}}, {jump{1000, 1, 1000, -1}, []int{999999, 1000}}, {jump{31, 0, 1000, -961}, []int{31000, 31}},
		// No jump up leads to 3, 1 for k = 5 and c = 5, but one leads on from there.
		{jump{2, 1, 5, 5}, []int{9, 2}}, {jump{3, 1, 5, 5}, []int{14, 3}},
		// The new number is equal to x; it may make the same pair again.
		{jump{1, 0, 1, -1}, []int{1, 1}}, {jump{31, 0, 1, -961}, []int{31, 31}}, {slow(1, 0), []int{1, 1}}, {slow(impl.MaxJump, 0), []int{impl.MaxJump, impl.MaxJump}}, {jump{0, 0, 1, 0}, []int{0, 0}}, {jump{0, 0, 2, 0}, []int{0, 0}}, {jump{0, 0, 1000, 0}, []int{0, 0}},
		// It is MaxJump.
		{slow(999999, 1), []int{impl.MaxJump, 999999}}, {slow(999969, 31), []int{impl.MaxJump, 999969}}, {slow(999970, 30), []int{impl.MaxJump, 999970}},
	} {
		x, y, ok := impl.JumpUp(c.j.x, c.j.y, c.j.k, c.j.c)
		wantPair(t, fmt.Sprint(c.j), x, y, ok, c.want)
	}
	for _, j := range []jump{
		// The new number is less than x: between x and y, equal to y, between 0 and y, and 0.
		{35, 15, 1, -925}, {2, 1, 1, -3}, {30, 29, 1, -871}, {1, 1, 1, -1}, {31, 31, 1, -961},
		// It is 1 more than MaxJump, and far more.
		slow(impl.MaxJump, 1), slow(999970, 31), slow(999971, 30), slow(impl.MaxJump, 31), fast(14), {999999, 1000, 1000, -1},
	} {
		x, y, ok := impl.JumpUp(j.x, j.y, j.k, j.c)
		wantNoPair(t, fmt.Sprint(j), x, y, ok)
		if !j.fitsExactly() {
			t.Error("this is no test:", j)
		}
	}
}

func TestJumpsOfAllLessPairs(t *testing.T) {
	all := jumpsUpTo(impl.MaxLook)
	kinds := map[string]int{}
	for _, j := range all {
		name := fmt.Sprint(j)
		is, ok := impl.IsJump(j.x, j.y, j.k, j.c)
		wantAnswer(t, name, is, ok, true)
		x, y, ok := impl.JumpDown(j.x, j.y, j.k, j.c)
		down, canDown := j.lower()
		wantPairIf(t, name, x, y, ok, down, canDown)
		x, y, ok = impl.JumpUp(j.x, j.y, j.k, j.c)
		up, canUp := j.upper()
		wantPairIf(t, name, x, y, ok, up, canUp)
		if !canUp {
			kinds["top"]++
		}
		switch {
		case !canDown:
			kinds["least"]++
		case down.x > j.y:
			kinds["same place"]++
		}
	}
	if len(all) < 60000 || kinds["top"] < 100 || kinds["least"] < 30000 || kinds["same place"] < 1000 {
		t.Error("this is no test:", len(all), kinds)
	}
}

func TestDescendPair(t *testing.T) {
	for _, c := range []struct {
		j    jump
		want [][]int
	}{
		{jump{5, 2, 3, 1}, [][]int{{5, 2}, {2, 1}, {1, 1}}},
		{jump{30, 8, 4, -4}, [][]int{{30, 8}, {8, 2}, {2, 0}}},
		{jump{31, 31, 1, -961}, [][]int{{31, 31}, {31, 0}}},
		{jump{14, 3, 5, 5}, [][]int{{14, 3}, {3, 1}, {2, 1}}},
		{jump{143, 1, 150, 1000}, [][]int{{143, 1}, {7, 1}}},
		{jump{999999, 1000, 1000, -1}, [][]int{{999999, 1000}, {1000, 1}, {1, 0}}},
		{fast(6), [][]int{{233, 89}, {89, 34}, {34, 13}, {13, 5}, {5, 2}, {2, 1}, {1, 1}}},
		{slow(5, 2), [][]int{{5, 3}, {3, 1}}},
		{slow(93, 31), [][]int{{93, 62}, {62, 31}, {31, 0}}},
	} {
		got, ok := impl.DescendPair(c.j.x, c.j.y, c.j.k, c.j.c)
		wantLists(t, fmt.Sprint(c.j), got, ok, c.want)
		x, y, ok := impl.LeastPair(c.j.x, c.j.y, c.j.k, c.j.c)
		wantPair(t, fmt.Sprint(c.j), x, y, ok, c.want[len(c.want)-1])
	}
	for _, j := range leastJumps() {
		got, ok := impl.DescendPair(j.x, j.y, j.k, j.c)
		wantLists(t, fmt.Sprint(j), got, ok, [][]int{j.numbers()})
		x, y, ok := impl.LeastPair(j.x, j.y, j.k, j.c)
		wantPair(t, fmt.Sprint(j), x, y, ok, j.numbers())
	}
	for _, j := range append(jumpsUpTo(60), fast(14)) {
		want := j.descent()
		got, ok := impl.DescendPair(j.x, j.y, j.k, j.c)
		wantLists(t, fmt.Sprint(j), got, ok, want)
		x, y, ok := impl.LeastPair(j.x, j.y, j.k, j.c)
		wantPair(t, fmt.Sprint(j), x, y, ok, want[len(want)-1])
	}
}

// TestLongDescents has ways of just 1000 pairs, of fewer and of more; only DescendPair has a limit of them.
func TestLongDescents(t *testing.T) {
	check := func(x, difference int) {
		j := slow(x, difference)
		name := fmt.Sprint(j)
		var want [][]int
		for number := x; number >= difference; number -= difference {
			want = append(want, []int{number, number - difference})
		}
		got, ok := impl.DescendPair(j.x, j.y, j.k, j.c)
		if len(want) > mostTold {
			wantNoLists(t, name, got, ok)
		} else {
			wantLists(t, name, got, ok, want)
		}
		leastX, leastY, ok := impl.LeastPair(j.x, j.y, j.k, j.c)
		wantPair(t, name, leastX, leastY, ok, want[len(want)-1])
	}
	for difference := 1; difference <= 31; difference++ {
		check(999*difference, difference)
		check(mostTold*difference, difference)
		// This is the greatest x with a way of 1000 pairs, and the next one has a way of 1001 pairs.
		check(mostTold*difference+difference-1, difference)
		check(mostTold*difference+difference, difference)
		check(2*mostTold*difference, difference)
		check(impl.MaxJump, difference)
	}
}

func TestAscendPair(t *testing.T) {
	for _, c := range []struct {
		j     jump
		steps int
		want  [][]int
	}{
		{jump{1, 1, 3, 1}, 0, [][]int{{1, 1}}},
		{jump{1, 1, 3, 1}, 1, [][]int{{1, 1}, {2, 1}}},
		{jump{1, 1, 3, 1}, 4, [][]int{{1, 1}, {2, 1}, {5, 2}, {13, 5}, {34, 13}}},
		{jump{2, 0, 4, -4}, 2, [][]int{{2, 0}, {8, 2}, {30, 8}}},
		{jump{3, 1, 5, 5}, 1, [][]int{{3, 1}, {14, 3}}},
		{jump{1, 0, 1, -1}, 0, [][]int{{1, 0}}},
		{jump{1, 0, 1, -1}, 1, [][]int{{1, 0}, {1, 1}}},
		{jump{1, 1, 1, -1}, 0, [][]int{{1, 1}}},
		{jump{999999, 1000, 1000, -1}, 0, [][]int{{999999, 1000}}},
		{jump{1, 0, 1000, -1}, 2, [][]int{{1, 0}, {1000, 1}, {999999, 1000}}},
		{fast(12), 2, [][]int{{75025, 28657}, {196418, 75025}, {514229, 196418}}},
		{slow(impl.MaxJump, 31), 0, [][]int{{impl.MaxJump, 999969}}},
	} {
		got, ok := impl.AscendPair(c.j.x, c.j.y, c.j.k, c.j.c, c.steps)
		wantLists(t, fmt.Sprint(c.j, c.steps), got, ok, c.want)
	}
	for _, c := range []struct {
		j     jump
		steps int
	}{
		{jump{1, 0, 1, -1}, 2}, {jump{1, 0, 1, -1}, 40}, {jump{1, 1, 1, -1}, 1}, {jump{31, 31, 1, -961}, 1}, {jump{31, 0, 1, -961}, 2},
		{fast(0), 15}, {fast(0), 40}, {fast(12), 3}, {fast(14), 1}, {jump{999999, 1000, 1000, -1}, 1}, {jump{1, 0, 1000, -1}, 3}, {slow(impl.MaxJump, 1), 1},
		{slow(999961, 1), 40}, {slow(impl.MaxJump-1240+1, 31), 40},
	} {
		got, ok := impl.AscendPair(c.j.x, c.j.y, c.j.k, c.j.c, c.steps)
		wantNoLists(t, fmt.Sprint(c.j, c.steps), got, ok)
		if !c.j.fitsExactly() {
			t.Error("this is no test:", c)
		}
	}
	for _, j := range someJumps() {
		for _, steps := range []int{-1, -2, 41, 42, 1 << 32, math.MinInt, math.MaxInt} {
			got, ok := impl.AscendPair(j.x, j.y, j.k, j.c, steps)
			wantNoLists(t, fmt.Sprint(j, steps), got, ok)
		}
	}
}

// TestAscendPairByManySteps has ways up for each number of steps; the longest of those for the differences end at MaxJump, or 1 below.
func TestAscendPairByManySteps(t *testing.T) {
	for steps := range 41 {
		for _, j := range []jump{slow(1, 1), slow(7, 0), slow(31, 31), slow(impl.MaxJump, 0), slow(impl.MaxJump-40, 1), slow(impl.MaxJump-41, 1), slow(impl.MaxJump-40*31, 31), {0, 0, 1, 0}, {0, 0, 7, 0}, {0, 0, 1000, 0}} {
			want := [][]int{j.numbers()}
			next := j
			for range steps {
				next, _ = next.upper()
				want = append(want, next.numbers())
			}
			got, ok := impl.AscendPair(j.x, j.y, j.k, j.c, steps)
			wantLists(t, fmt.Sprint(j, steps), got, ok, want)
		}
	}
}

// jumpsByEquation have the pairs of each k and c for which there are any, in order.
func jumpsByEquation(all []jump) map[[2]int][]jump {
	found := map[[2]int][]jump{}
	for _, j := range all {
		found[[2]int{j.k, j.c}] = append(found[[2]int{j.k, j.c}], j)
	}
	return found
}

// wantUpTo takes all pairs of one equation.
func wantUpTo(t *testing.T, k, c, most int, all []jump) {
	t.Helper()
	var pairs, least [][]int
	for _, j := range all {
		if j.x > most {
			continue
		}
		pairs = append(pairs, j.numbers())
		if _, can := j.lower(); !can {
			least = append(least, j.numbers())
		}
	}
	name := fmt.Sprint(k, c, most)
	got, ok := impl.PairsUpTo(k, c, most)
	wantLists(t, "PairsUpTo "+name, got, ok, pairs)
	got, ok = impl.ClassesUpTo(k, c, most)
	wantLists(t, "ClassesUpTo "+name, got, ok, least)
}

func TestPairsUpTo(t *testing.T) {
	for _, c := range []struct {
		k, c, most   int
		pairs, least [][]int
	}{
		{3, 1, 13, [][]int{{1, 1}, {2, 1}, {5, 2}, {13, 5}}, [][]int{{1, 1}}},
		{3, 1, 12, [][]int{{1, 1}, {2, 1}, {5, 2}}, [][]int{{1, 1}}},
		{3, 1, 0, nil, nil},
		{7, 0, 0, [][]int{{0, 0}}, [][]int{{0, 0}}},
		{7, 0, 200, [][]int{{0, 0}}, [][]int{{0, 0}}},
		{2, 0, 2, [][]int{{0, 0}, {1, 1}, {2, 2}}, [][]int{{0, 0}, {1, 1}, {2, 2}}},
		{5, 5, 14, [][]int{{2, 1}, {3, 1}, {9, 2}, {14, 3}}, [][]int{{2, 1}}},
		{2, -4, 5, [][]int{{2, 0}, {3, 1}, {4, 2}, {5, 3}}, [][]int{{2, 0}, {3, 1}}},
		{1, -961, 31, [][]int{{31, 0}, {31, 31}}, [][]int{{31, 0}}},
		{1, -3, 200, [][]int{{2, 1}}, [][]int{{2, 1}}},
		{1, -7, 200, [][]int{{3, 1}, {3, 2}}, [][]int{{3, 1}, {3, 2}}},
		{1, 1, 200, nil, nil},
	} {
		name := fmt.Sprint(c.k, c.c, c.most)
		got, ok := impl.PairsUpTo(c.k, c.c, c.most)
		wantLists(t, name, got, ok, c.pairs)
		got, ok = impl.ClassesUpTo(c.k, c.c, c.most)
		wantLists(t, name, got, ok, c.least)
	}
}

func TestPairsUpToOfManyEquations(t *testing.T) {
	all := jumpsByEquation(jumpsUpTo(impl.MaxLook))
	for k := 1; k <= impl.MaxK; k++ {
		for _, c := range []int{-impl.MaxC, -961, -4, -1, 0, 1, 5, impl.MaxC} {
			wantUpTo(t, k, c, 30, all[[2]int{k, c}])
			wantUpTo(t, k, c, 31, all[[2]int{k, c}])
		}
	}
	for c := -impl.MaxC; c <= impl.MaxC; c++ {
		for _, k := range []int{1, 2, 3, 7, impl.MaxK} {
			wantUpTo(t, k, c, impl.MaxLook, all[[2]int{k, c}])
		}
	}
}

// TestLongestList has the equation with the most pairs that can be asked for: no list comes near to 1000 pairs.
func TestLongestList(t *testing.T) {
	for _, list := range jumpsByEquation(jumpsUpTo(impl.MaxLook)) {
		if len(list) > impl.MaxLook+1 {
			t.Error("this is no test:", list)
		}
	}
	want := make([][]int, impl.MaxLook+1)
	for number := range want {
		want[number] = []int{number, number}
	}
	got, ok := impl.PairsUpTo(2, 0, impl.MaxLook)
	wantLists(t, "pairs", got, ok, want)
	got, ok = impl.ClassesUpTo(2, 0, impl.MaxLook)
	wantLists(t, "least pairs", got, ok, want)
}

func notLooks() []int {
	return []int{-1, -2, impl.MaxLook + 1, 1000, 1 << 32, math.MinInt, math.MaxInt}
}

func TestInvalidNumbersOfLists(t *testing.T) {
	check := func(k, c, most int) {
		name := fmt.Sprint(k, c, most)
		got, ok := impl.PairsUpTo(k, c, most)
		wantNoLists(t, name, got, ok)
		got, ok = impl.ClassesUpTo(k, c, most)
		wantNoLists(t, name, got, ok)
	}
	for _, most := range notLooks() {
		check(3, 1, most)
		check(2, 0, most)
		ks, ok := impl.KsUpTo(1, most)
		wantNoList(t, fmt.Sprint(most), ks, ok)
	}
	for _, j := range notJumpEquations() {
		for _, most := range []int{0, 5, impl.MaxLook} {
			check(j.k, j.c, most)
		}
	}
	for _, c := range []int{-impl.MaxC - 1, impl.MaxC + 1, 1 << 32, math.MinInt, math.MaxInt} {
		for _, most := range []int{0, 5, impl.MaxLook} {
			ks, ok := impl.KsUpTo(c, most)
			wantNoList(t, fmt.Sprint(c, most), ks, ok)
		}
	}
}

func TestKsUpTo(t *testing.T) {
	for _, c := range []struct {
		c, most int
		want    []int
	}{
		{1, 30, []int{3}}, {1, 1, []int{3}}, {1, 0, nil}, {0, 0, nil}, {0, impl.MaxLook, []int{2}}, {2, 30, []int{4}}, {-1, 3, []int{1, 2, 3}}, {-1, 5, []int{1, 2, 3, 4, 5}},
		{998, 1, []int{1000}}, {999, 1, nil}, {-2, 1, nil}, {-3, 1, nil}, {-impl.MaxC, 37, []int{10}}, {-impl.MaxC, 36, nil}, {impl.MaxC, 2, []int{252}}, {impl.MaxC, 9, []int{42, 150, 252}},
	} {
		got, ok := impl.KsUpTo(c.c, c.most)
		wantList(t, fmt.Sprint(c.c, c.most), got, ok, c.want)
	}
	for _, most := range []int{0, 1, 2, 31, impl.MaxLook} {
		ks := map[int][]int{}
		for _, j := range jumpsUpTo(most) {
			if j.y > 0 {
				ks[j.c] = append(ks[j.c], j.k)
			}
		}
		for c := -impl.MaxC; c <= impl.MaxC; c++ {
			slices.Sort(ks[c])
			got, ok := impl.KsUpTo(c, most)
			wantList(t, fmt.Sprint(c, most), got, ok, slices.Compact(ks[c]))
		}
	}
}

// quotientChain has the pairs with the quotient root root, up from root, 0, as long as numbers are at most MaxJump.
func quotientChain(root int) [][]int {
	chain := [][]int{{root, 0}}
	for {
		last := chain[len(chain)-1]
		next := root*root*last[0] - last[1]
		if next < last[0] || next > impl.MaxJump {
			return chain
		}
		chain = append(chain, []int{next, last[0]})
	}
}

// notQuotients are numbers for which there is no whole quotient, or which are invalid.
func notQuotients() [][2]int {
	return [][2]int{
		{2, 1}, {2, 2}, {3, 1}, {3, 2}, {5, 2}, {30, 9}, {30, 7}, {31, 8}, {8, 3}, {240, 3}, {1000, 1}, {1000, 1000}, {impl.MaxJump, 1}, {impl.MaxJump, 99}, {impl.MaxJump, 999999}, {impl.MaxJump, impl.MaxJump},
		{0, 0}, {-1, 0}, {-5, 0}, {-1, -1}, {-30, -8}, {30, -8}, {1, -1}, {2, -1}, {impl.MaxJump + 1, 0}, {impl.MaxJump + 1, impl.MaxJump + 1}, {1030301, 101}, {1129438, 302632}, {impl.MaxJump * impl.MaxJump, 0},
		{1 << 32, 1 << 32}, {1 << 32, 0}, {1 << 62, 1 << 62}, {math.MaxInt, math.MaxInt}, {math.MaxInt, 0}, {math.MaxInt, 1}, {math.MinInt, math.MinInt}, {math.MinInt, 0}, {math.MinInt, 1}, {math.MinInt, math.MaxInt}, {-math.MaxInt, -math.MaxInt}, {math.MaxInt, -math.MaxInt},
		// The product and 1 are 0 modulo 2 to the power of 64, or the quotient is whole modulo that only.
		{6148914691236517205, 3}, {3689348814741910323, 5}, {1085102592571150095, 17}, {1 << 40, 1 << 24},
	}
}

func wantQuotient(t *testing.T, a, b, want int) {
	t.Helper()
	got, ok := impl.SquareQuotient(a, b)
	wantNumber(t, fmt.Sprint(a, b), got, ok, want)
	got, ok = impl.SquareQuotient(b, a)
	wantNumber(t, fmt.Sprint(b, a), got, ok, want)
}

func TestSquareQuotient(t *testing.T) {
	for _, c := range [][3]int{
		{30, 8, 4}, {8, 2, 4}, {2, 0, 4}, {1, 0, 1}, {1, 1, 1}, {5, 0, 25}, {27, 3, 9}, {240, 27, 9}, {302632, 81090, 4}, {970299, 99, 9801}, {32768, 32, 1024}, {99990, 1000, 100},
		{1000, 0, 1000000}, {999999, 0, 999998000001}, {impl.MaxJump, 0, 1000000000000}, {impl.MaxJump, 100, 10000},
	} {
		wantQuotient(t, c[0], c[1], c[2])
	}
	for _, p := range notQuotients() {
		for _, c := range [][2]int{p, {p[1], p[0]}} {
			got, ok := impl.SquareQuotient(c[0], c[1])
			wantNoNumber(t, fmt.Sprint(c), got, ok)
			run, ok := impl.QuotientRun(c[0], c[1])
			wantNoLists(t, fmt.Sprint(c), run, ok)
		}
	}
}

// chainOf has the pairs of the chain that end with a and b, the greater one first, from them on.
func chainOf(chain [][]int, last int) [][]int {
	run := slices.Clone(chain[:last+1])
	slices.Reverse(run)
	return run
}

func TestQuotientsOfAllLessNumbers(t *testing.T) {
	const most = 1200
	runs := map[[2]int][][]int{}
	for root := 1; root <= most; root++ {
		chain := quotientChain(root)
		for i, pair := range chain {
			if pair[0] <= most {
				runs[[2]int(pair)] = chainOf(chain, i)
			}
		}
	}
	for a := 0; a <= most; a++ {
		for b := 0; b <= a; b++ {
			got, ok := impl.SquareQuotient(a, b)
			if a == 0 || (a*a+b*b)%(a*b+1) != 0 {
				if ok || got != 0 {
					t.Error(a, b, got, ok)
				}
				continue
			}
			root := int(math.Round(math.Sqrt(float64(got))))
			if !ok || got*(a*b+1) != a*a+b*b || root*root != got {
				t.Error(a, b, got, ok)
			}
			run, ok := impl.QuotientRun(a, b)
			wantLists(t, fmt.Sprint(a, b), run, ok, runs[[2]int{a, b}])
			delete(runs, [2]int{a, b})
		}
	}
	if len(runs) > 0 {
		t.Error("these are not told:", runs)
	}
}

func TestQuotientRun(t *testing.T) {
	for _, c := range []struct {
		a, b int
		want [][]int
	}{
		{30, 8, [][]int{{30, 8}, {8, 2}, {2, 0}}},
		{8, 30, [][]int{{30, 8}, {8, 2}, {2, 0}}},
		{1, 1, [][]int{{1, 1}, {1, 0}}},
		{1, 0, [][]int{{1, 0}}},
		{0, 1, [][]int{{1, 0}}},
		{0, 5, [][]int{{5, 0}}},
		{27, 240, [][]int{{240, 27}, {27, 3}, {3, 0}}},
		// The quotient is just greater than MaxK, and just not.
		{32768, 32, [][]int{{32768, 32}, {32, 0}}},
		{31, 29791, [][]int{{29791, 31}, {31, 0}}},
		{impl.MaxJump, 100, [][]int{{impl.MaxJump, 100}, {100, 0}}},
		{100, impl.MaxJump, [][]int{{impl.MaxJump, 100}, {100, 0}}},
		{101, 0, [][]int{{101, 0}}},
		{0, 999999, [][]int{{999999, 0}}},
		{impl.MaxJump, 0, [][]int{{impl.MaxJump, 0}}},
	} {
		got, ok := impl.QuotientRun(c.a, c.b)
		wantLists(t, fmt.Sprint(c.a, c.b), got, ok, c.want)
	}
}

func TestQuotientPairs(t *testing.T) {
	for _, c := range []struct {
		q, count int
		want     [][]int
	}{
		{2, 0, nil}, {2, 1, [][]int{{2, 0}}}, {2, 3, [][]int{{2, 0}, {8, 2}, {30, 8}}},
		{2, 20, [][]int{{2, 0}, {8, 2}, {30, 8}, {112, 30}, {418, 112}, {1560, 418}, {5822, 1560}, {21728, 5822}, {81090, 21728}, {302632, 81090}}},
		{1, 1, [][]int{{1, 0}}}, {1, 2, [][]int{{1, 0}, {1, 1}}}, {1, 20, [][]int{{1, 0}, {1, 1}}},
		{10, 20, [][]int{{10, 0}, {1000, 10}, {99990, 1000}}},
		// k is just greater than MaxK, and a number is just MaxJump.
		{31, 20, [][]int{{31, 0}, {29791, 31}}}, {32, 20, [][]int{{32, 0}, {32768, 32}}}, {99, 20, [][]int{{99, 0}, {970299, 99}}}, {100, 20, [][]int{{100, 0}, {impl.MaxJump, 100}}}, {100, 1, [][]int{{100, 0}}}, {100, 0, nil},
	} {
		got, ok := impl.QuotientPairs(c.q, c.count)
		wantLists(t, fmt.Sprint(c.q, c.count), got, ok, c.want)
	}
	for q := 1; q <= 100; q++ {
		chain := quotientChain(q)
		for count := range 21 {
			got, ok := impl.QuotientPairs(q, count)
			wantLists(t, fmt.Sprint(q, count), got, ok, chain[:min(count, len(chain))])
		}
		for _, count := range []int{-1, 21, 22, 1 << 32, math.MinInt, math.MaxInt} {
			got, ok := impl.QuotientPairs(q, count)
			wantNoLists(t, fmt.Sprint(q, count), got, ok)
		}
	}
	for _, q := range []int{0, -1, -2, -100, 101, 1000, impl.MaxJump, 1 << 32, math.MinInt, math.MaxInt} {
		for _, count := range []int{-1, 0, 1, 3, 20, 21} {
			got, ok := impl.QuotientPairs(q, count)
			wantNoLists(t, fmt.Sprint(q, count), got, ok)
		}
	}
}

func TestPromise8WholeQuotientsAreSquares(t *testing.T) {
	for root := 1; root <= 100; root++ {
		pairs, ok := impl.QuotientPairs(root, 20)
		wantLists(t, fmt.Sprint(root), pairs, ok, quotientChain(root))
		for i, pair := range pairs {
			wantQuotient(t, pair[0], pair[1], root*root)
			for _, given := range [][]int{{pair[0], pair[1]}, {pair[1], pair[0]}} {
				run, ok := impl.QuotientRun(given[0], given[1])
				wantLists(t, fmt.Sprint(given), run, ok, chainOf(pairs, i))
			}
			if root*root > impl.MaxK {
				continue
			}
			down, ok := impl.DescendPair(pair[0], pair[1], root*root, -root*root)
			wantLists(t, fmt.Sprint(pair), down, ok, chainOf(pairs, i))
			up, ok := impl.AscendPair(root, 0, root*root, -root*root, i)
			wantLists(t, fmt.Sprint(pair), up, ok, pairs[:i+1])
		}
	}
	// For each of these, no other number has a whole quotient than those of the chains.
	for _, a := range []int{999999, impl.MaxJump, 970299, 302632, 65536, 99990} {
		for b := 0; b <= a; b++ {
			q, ok := impl.SquareQuotient(a, b)
			if ok != ((a*a+b*b)%(a*b+1) == 0) {
				t.Error(a, b, q, ok)
			}
			if root, fine := impl.RootOf(q); ok && (!fine || root*root != q) {
				t.Error(a, b, q, "is no square")
			}
		}
	}
}

func TestJumpMatrix(t *testing.T) {
	for k := 1; k <= impl.MaxK; k++ {
		got, ok := impl.JumpMatrix(k)
		wantMatrix(t, fmt.Sprint(k), got, ok, matrix([]int{k, -1}, []int{1, 0}))
		// The value of this form at a pair is -2 c.
		keeps, ok := impl.KeepsForm(got, matrix([]int{2, -k}, []int{-k, 2}))
		wantAnswer(t, fmt.Sprint(k), keeps, ok, true)
	}
	for _, k := range []int{0, -1, -2, -1000, 1001, 10000, 1 << 32, math.MinInt, math.MaxInt} {
		got, ok := impl.JumpMatrix(k)
		wantNoMatrix(t, fmt.Sprint(k), got, ok)
	}
}

func TestPromise8MatricesJumpUp(t *testing.T) {
	for _, j := range append(jumpsUpTo(40), someJumps()...) {
		m, _ := impl.JumpMatrix(j.k)
		image, ok := impl.ApplyMatrix(m, j.numbers())
		up, can := j.upper()
		if up.x <= impl.MaxEntry {
			wantList(t, fmt.Sprint(j), image, ok, up.numbers())
		}
		x, y, ok := impl.JumpUp(j.x, j.y, j.k, j.c)
		wantPairIf(t, fmt.Sprint(j), x, y, ok, up, can)
	}
}

// checkDescent checks that a pair comes down to one least pair, by pairs with a sum that falls.
func checkDescent(t *testing.T, j jump) {
	t.Helper()
	way, ok := impl.DescendPair(j.x, j.y, j.k, j.c)
	if !ok || !slices.Equal(way[0], j.numbers()) {
		t.Fatal(j, way, ok)
	}
	leastX, leastY, ok := impl.LeastPair(j.x, j.y, j.k, j.c)
	wantPair(t, fmt.Sprint(j), leastX, leastY, ok, way[len(way)-1])
	for i, pair := range way {
		here := jump{pair[0], pair[1], j.k, j.c}
		if is, ok := impl.IsJump(here.x, here.y, here.k, here.c); !ok || !is || !here.fitsExactly() {
			t.Error(here, "is no pair")
		}
		x, y, ok := impl.JumpDown(here.x, here.y, here.k, here.c)
		if i == len(way)-1 {
			wantNoPair(t, fmt.Sprint(here), x, y, ok)
			continue
		}
		wantPair(t, fmt.Sprint(here), x, y, ok, way[i+1])
		if x+y >= here.x+here.y {
			t.Error(here, "does not fall")
		}
	}
}

// checkClimb goes up as far as can be done, and checks that jumps down lead back.
func checkClimb(t *testing.T, j jump) {
	t.Helper()
	for range 60 {
		x, y, ok := impl.JumpUp(j.x, j.y, j.k, j.c)
		next, can := j.upper()
		wantPairIf(t, fmt.Sprint(j), x, y, ok, next, can)
		if !can {
			return
		}
		checkDescent(t, next)
		// A pair of equal numbers may lead to itself, and is least then.
		if next != j {
			x, y, ok = impl.JumpDown(next.x, next.y, next.k, next.c)
			wantPair(t, fmt.Sprint(next), x, y, ok, j.numbers())
		}
		j = next
	}
}

func TestPromise8PairsComeDownToLeastOnes(t *testing.T) {
	for _, j := range jumpsUpTo(100) {
		checkDescent(t, j)
	}
	for _, j := range slices.Concat(jumpsUpTo(31), leastJumps()) {
		checkClimb(t, j)
	}
	great := 0
	for _, x := range []int{impl.MaxJump, 999999, 999998, 196418, 29791, 3001} {
		for _, j := range jumpsWith(x) {
			is, ok := impl.IsJump(j.x, j.y, j.k, j.c)
			wantAnswer(t, fmt.Sprint(j), is, ok, true)
			k, ok := impl.KOfPair(j.x, j.y, j.c)
			wantNumber(t, fmt.Sprint(j), k, ok, j.k)
			if j.k != 2 {
				great++
				checkDescent(t, j)
			}
		}
	}
	for _, x := range []int{impl.MaxJump + 1, 2 * impl.MaxJump} {
		for _, j := range jumpsWith(x) {
			is, ok := impl.IsJump(j.x, j.y, j.k, j.c)
			wantAnswer(t, fmt.Sprint(j), is, ok, false)
		}
	}
	if great < 5 {
		t.Error("this is no test:", great)
	}
}

// TestPromise8ClassesHoldAllPairs makes all pairs of an equation from its least ones: beside the same y, the other root may make a pair, too, and jumps up lead on.
func TestPromise8ClassesHoldAllPairs(t *testing.T) {
	for c := -impl.MaxC; c <= impl.MaxC; c++ {
		for _, k := range []int{1, 2, 3, 4, 5, 12, 102} {
			classes, ok := impl.ClassesUpTo(k, c, impl.MaxLook)
			if !ok {
				t.Fatal(k, c)
			}
			var made [][]int
			climb := func(j jump) {
				for can := true; can && j.x <= impl.MaxLook; {
					made = append(made, j.numbers())
					x, y, ok := impl.LeastPair(j.x, j.y, j.k, j.c)
					if !ok || !slices.ContainsFunc(classes, func(pair []int) bool { return slices.Equal(pair, []int{x, y}) }) {
						t.Error(j, "comes down to", x, y, ok)
					}
					last := j
					j, can = j.upper()
					can = can && j != last
				}
			}
			for _, pair := range classes {
				climb(jump{pair[0], pair[1], k, c})
				if other := k*pair[1] - pair[0]; other > pair[0] {
					climb(jump{other, pair[1], k, c})
				}
			}
			slices.SortFunc(made, slices.Compare[[]int])
			made = slices.CompactFunc(made, slices.Equal[[]int])
			pairs, ok := impl.PairsUpTo(k, c, impl.MaxLook)
			wantLists(t, fmt.Sprint(k, c), pairs, ok, made)
		}
	}
}

func TestPromise11OfPairs(t *testing.T) {
	for _, j := range slices.Concat(someJumps(), notJumps(), notJumpEquations()) {
		checkTotal(t, "IsJump", impl.IsJump, j.x, j.y, j.k, j.c)
		checkTotal(t, "KOfPair", impl.KOfPair, j.x, j.y, j.c)
		checkTotal(t, "JumpDown", impl.JumpDown, j.x, j.y, j.k, j.c)
		checkTotal(t, "JumpUp", impl.JumpUp, j.x, j.y, j.k, j.c)
		checkTotal(t, "DescendPair", impl.DescendPair, j.x, j.y, j.k, j.c)
		checkTotal(t, "LeastPair", impl.LeastPair, j.x, j.y, j.k, j.c)
		for _, steps := range []int{math.MinInt, -1, 0, 1, 2, 39, 40, 41, math.MaxInt} {
			checkTotal(t, "AscendPair", impl.AscendPair, j.x, j.y, j.k, j.c, steps)
		}
		checkTotal(t, "SquareQuotient", impl.SquareQuotient, j.x, j.y)
		checkTotal(t, "QuotientRun", impl.QuotientRun, j.x, j.y)
		checkTotal(t, "QuotientPairs", impl.QuotientPairs, j.x, j.y)
		checkTotal(t, "JumpMatrix", impl.JumpMatrix, j.k)
	}
}

func TestPromise11OfJumpNumbers(t *testing.T) {
	numbers := []int{math.MinInt, math.MinInt + 1, -1 << 32, -1001, -1000, -1, 0, 1, 2, 3, 20, 21, 100, 101, 200, 201, 1000, 1001, impl.MaxJump, impl.MaxJump + 1, 1 << 32, math.MaxInt - 1, math.MaxInt}
	for _, a := range numbers {
		checkTotal(t, "JumpMatrix", impl.JumpMatrix, a)
		for _, b := range numbers {
			checkTotal(t, "SquareQuotient", impl.SquareQuotient, a, b)
			checkTotal(t, "QuotientRun", impl.QuotientRun, a, b)
			checkTotal(t, "QuotientPairs", impl.QuotientPairs, a, b)
			checkTotal(t, "KsUpTo", impl.KsUpTo, a, b)
			for _, c := range numbers {
				checkTotal(t, "KOfPair", impl.KOfPair, a, b, c)
				checkTotal(t, "PairsUpTo", impl.PairsUpTo, a, b, c)
				checkTotal(t, "ClassesUpTo", impl.ClassesUpTo, a, b, c)
			}
		}
	}
	for _, p := range notQuotients() {
		checkTotal(t, "SquareQuotient", impl.SquareQuotient, p[0], p[1])
		checkTotal(t, "SquareQuotient", impl.SquareQuotient, p[1], p[0])
		checkTotal(t, "QuotientRun", impl.QuotientRun, p[0], p[1])
		checkTotal(t, "QuotientRun", impl.QuotientRun, p[1], p[0])
	}
	for _, root := range []int{1, 2, 3, 10, 99, 100} {
		for _, pair := range quotientChain(root) {
			checkTotal(t, "QuotientRun", impl.QuotientRun, pair[1], pair[0])
		}
	}
	checkTotal(t, "PairsUpTo", impl.PairsUpTo, 2, 0, 200)
	checkTotal(t, "ClassesUpTo", impl.ClassesUpTo, 2, 0, 200)
}

// TestPromise11OfJumpAnswers changes answers and looks whether later ones change with them.
func TestPromise11OfJumpAnswers(t *testing.T) {
	for _, ask := range []func() ([][]int, bool){
		func() ([][]int, bool) { return impl.DescendPair(30, 8, 4, -4) },
		func() ([][]int, bool) { return impl.AscendPair(2, 0, 4, -4, 2) },
		func() ([][]int, bool) { return impl.AscendPair(0, 0, 4, 0, 3) },
		func() ([][]int, bool) { return impl.PairsUpTo(2, 0, 5) },
		func() ([][]int, bool) { return impl.ClassesUpTo(2, 0, 5) },
		func() ([][]int, bool) { return impl.QuotientRun(30, 8) },
		func() ([][]int, bool) { return impl.QuotientPairs(2, 3) },
	} {
		first, _ := ask()
		want := image(first).([][]int)
		for i, pair := range first {
			pair[0], pair[1] = -i-1, -i-1
		}
		for i, pair := range first {
			if !reflect.DeepEqual(pair, []int{-i - 1, -i - 1}) {
				t.Error("memory is shared:", first)
			}
		}
		again, ok := ask()
		wantLists(t, "again", again, ok, want)
	}
	ks, _ := impl.KsUpTo(-1, 3)
	ks[0] = 9
	ks, ok := impl.KsUpTo(-1, 3)
	wantList(t, "ks", ks, ok, []int{1, 2, 3})
	m, _ := impl.JumpMatrix(3)
	m.Rows[0][0], m.Rows[1][1] = 9, 8
	m, ok = impl.JumpMatrix(3)
	wantMatrix(t, "matrix", m, ok, matrix([]int{3, -1}, []int{1, 0}))
}
