package tests

import (
	"fmt"
	"math"
	"math/rand"
	"slices"
	"testing"

	"loop.example/g01122/impl"
)

// mostMultiplied is the greatest number in a list to be multiplied.
const mostMultiplied = 10000

// The greatest prime numbers up to MaxTwo and up to MaxFour, and the least ones beyond.
const (
	lastPrimeOfTwo     = 999983
	lastPrimeLeavesOne = 999961
	lastPrimeOfFour    = 1999
	primeBeyondTwo     = 1000003
	primeBeyondFour    = 2003
)

// primesBySieve tells for each number up to most whether it is a prime number.
func primesBySieve(most int) []bool {
	isPrime := make([]bool, most+1)
	for n := 2; n <= most; n++ {
		isPrime[n] = true
	}
	for n := 2; n <= most; n++ {
		for multiple := 2 * n; isPrime[n] && multiple <= most; multiple += n {
			isPrime[multiple] = false
		}
	}
	return isPrime
}

func primesUpTo(most int) []int {
	var primes []int
	for n, is := range primesBySieve(most) {
		if is {
			primes = append(primes, n)
		}
	}
	return primes
}

// listsOfTwo has, for each number up to most, all lists of two numbers with that sum of squares, the greatest one first.
func listsOfTwo(most int) [][][]int {
	lists := make([][][]int, most+1)
	for a := int(math.Sqrt(float64(most))) + 1; a >= 0; a-- {
		for b := a; b >= 0; b-- {
			if sum := a*a + b*b; sum <= most {
				lists[sum] = append(lists[sum], []int{a, b})
			}
		}
	}
	return lists
}

// listsOfFour is the same for four numbers.
func listsOfFour(most int) [][][]int {
	lists := make([][][]int, most+1)
	for a := int(math.Sqrt(float64(most))) + 1; a >= 0; a-- {
		for b := a; b >= 0; b-- {
			for c := b; c >= 0; c-- {
				for d := c; d >= 0; d-- {
					if sum := a*a + b*b + c*c + d*d; sum <= most {
						lists[sum] = append(lists[sum], []int{a, b, c, d})
					}
				}
			}
		}
	}
	return lists
}

// firstOfThree looks for the greatest number first. It returns nothing if no list has the sum n.
func firstOfThree(twos [][][]int, n int) []int {
	for a := int(math.Sqrt(float64(n))) + 1; a >= 0; a-- {
		if a*a > n {
			continue
		}
		for _, list := range twos[n-a*a] {
			if list[0] <= a {
				return []int{a, list[0], list[1]}
			}
		}
	}
	return nil
}

// countsOfTwo goes through all numbers of both signs.
func countsOfTwo(most int) []int {
	counts := make([]int, most+1)
	root := int(math.Sqrt(float64(most))) + 1
	for a := -root; a <= root; a++ {
		for b := -root; b <= root; b++ {
			if sum := a*a + b*b; sum <= most {
				counts[sum]++
			}
		}
	}
	return counts
}

// countsOfFour puts two numbers behind two others.
func countsOfFour(most int) []int {
	twos := countsOfTwo(most)
	counts := make([]int, most+1)
	for first := range twos {
		for second := 0; first+second <= most; second++ {
			counts[first+second] += twos[first] * twos[second]
		}
	}
	return counts
}

// nearestOf looks among the remainders around n.
func nearestOf(n, m int) int {
	for rest := n - (n/m+2)*m; ; rest += m {
		if 2*rest > -m && 2*rest <= m {
			return rest
		}
	}
}

func withoutSigns(list []int) []int {
	changed := slices.Clone(list)
	for i, n := range list {
		changed[i] = max(n, -n)
	}
	return changed
}

func sumOfSquares(list []int) int {
	sum := 0
	for _, n := range list {
		sum += n * n
	}
	return sum
}

func divided(t *testing.T, list []int, m int) []int {
	t.Helper()
	quotients := make([]int, len(list))
	for i, n := range list {
		if n%m != 0 {
			t.Error(list, m, "is no whole number")
		}
		quotients[i] = n / m
	}
	return quotients
}

// descentOfTwo follows the document from the root on.
func descentOfTwo(t *testing.T, p, root int) [][]int {
	a, b := root, 1
	var lists [][]int
	for {
		m := (a*a + b*b) / p
		lists = append(lists, []int{a, b, m})
		if m <= 1 {
			return lists
		}
		u, v := nearestOf(a, m), nearestOf(b, m)
		next := withoutSigns(divided(t, []int{a*u + b*v, a*v - b*u}, m))
		a, b = next[0], next[1]
	}
}

// unitProduct tells the index and the sign of the product of two of the units 1, i, j and k of Hamilton.
func unitProduct(i, j int) (int, int) {
	switch {
	case i == 0 || j == 0:
		return i + j, 1
	case i == j:
		return 0, -1
	case (j-i+3)%3 == 1:
		return 6 - i - j, 1
	}
	return 6 - i - j, -1
}

// hamilton is the second number of four units times the first one with other signs behind its first unit.
func hamilton(a, b []int) []int {
	product := make([]int, 4)
	for i := range b {
		for j := range a {
			index, sign := unitProduct(i, j)
			if j > 0 {
				sign = -sign
			}
			product[index] += sign * b[i] * a[j]
		}
	}
	return product
}

// descentOfFour follows the document from the start on.
func descentOfFour(t *testing.T, p int, start []int) [][]int {
	list := start
	var lists [][]int
	for {
		m := sumOfSquares(list) / p
		lists = append(lists, append(slices.Clone(list), m))
		if m <= 1 {
			return lists
		}
		near := make([]int, 4)
		for i, n := range list {
			near[i] = nearestOf(n, m)
		}
		list = withoutSigns(divided(t, hamilton(list, near), m))
	}
}

// outside are numbers less than 0 and greater than most; some of them are squares or prime numbers.
func outside(most int) []int {
	return []int{-1, -2, -3, -4, -5, -13, -most, most + 1, most + 2, most + 4, 4 * most, primeBeyondTwo, most * most, 1 << 31, 1<<31 - 1, 1 << 32, 1<<32 + 1, 1<<32 + 13, 1 << 62, 1<<62 + 1, math.MinInt, math.MinInt + 1, math.MinInt + 5, math.MaxInt - 1, math.MaxInt}
}

// notPrimes are within MaxTwo: products of like and of unlike numbers, and those that pass the test of Fermat.
func notPrimes() []int {
	return []int{0, 1, 4, 6, 8, 9, 10, 15, 25, 26, 49, 50, 65, 85, 91, 121, 169, 221, 289, 325, 341, 561, 629, 841, 961, 1105, 1369, 1387, 1729, 1849, 1997 * 2, 2047, 2465, 2821, 6601, 8911, 10585, 15841, 29341, 41041, 46657, 52633, 62745, 75361, 101101, 825265, 994009, 995 * 1001, 997 * 1003, 999997, 999999, impl.MaxTwo}
}

// sumsToTry are numbers up to MaxTwo: small ones, the last ones, some between, and those with few or many lists.
func sumsToTry() []int {
	var tried []int
	for n := 0; n <= 4000; n++ {
		tried = append(tried, n)
	}
	for n := impl.MaxTwo - 200; n <= impl.MaxTwo; n++ {
		tried = append(tried, n)
	}
	for n := 4000; n <= impl.MaxTwo; n += 1009 {
		tried = append(tried, n)
	}
	for root := 60; root <= 1000; root += 47 {
		tried = append(tried, root*root, root*root/2, min(2*root*root, impl.MaxTwo), root*root-1)
	}
	for power := 1; power <= impl.MaxTwo; power *= 4 {
		for _, n := range []int{1, 2, 3, 5, 7, 14, 15, 23, 28, 31} {
			if power*n <= impl.MaxTwo {
				tried = append(tried, power*n)
			}
		}
	}
	return append(tried, manyDivisors()...)
}

// manyDivisors are numbers with many divisors, or with many that leave 1 by 4.
func manyDivisors() []int {
	return []int{720720, 831600, 942480, 982800, 997920, 5040, 45360, 32045, 160225, 801125, 640900, 390625, 781250, 928265, 986050, 3 * 32045, 9 * 32045, 21 * 32045, 531441, 524288, 823543, 7 * 117649, 49 * 14641}
}

func TestConstantsOfChapter9(t *testing.T) {
	got := [2]int{impl.MaxTwo, impl.MaxFour}
	if got != [2]int{1000000, 2000} {
		t.Error(got)
	}
}

func TestIsPrimeNumber(t *testing.T) {
	for n, want := range primesBySieve(impl.MaxTwo) {
		got, ok := impl.IsPrimeNumber(n)
		if got != want || !ok {
			t.Error(n, got, ok)
		}
	}
	for _, n := range []int{2, 3, 5, 7, 11, 13, 997, lastPrimeOfFour, primeBeyondFour, lastPrimeLeavesOne, lastPrimeOfTwo} {
		got, ok := impl.IsPrimeNumber(n)
		wantAnswer(t, fmt.Sprint(n), got, ok, true)
	}
	for _, n := range notPrimes() {
		got, ok := impl.IsPrimeNumber(n)
		wantAnswer(t, fmt.Sprint(n), got, ok, false)
	}
	for _, n := range outside(impl.MaxTwo) {
		got, ok := impl.IsPrimeNumber(n)
		wantNoAnswer(t, fmt.Sprint(n), got, ok)
	}
}

func TestRootOfMinusOne(t *testing.T) {
	for _, c := range [][2]int{{2, 1}, {5, 2}, {13, 5}, {17, 4}, {29, 12}, {37, 6}, {41, 9}, {53, 23}, {73, 27}, {1997, 412}, {577, 24}} {
		got, ok := impl.RootOfMinusOne(c[0])
		wantNumber(t, fmt.Sprint(c[0]), got, ok, c[1])
	}
	for p := 0; p <= 3000; p++ {
		want := 0
		for root := 1; root < p && want == 0; root++ {
			if (root*root+1)%p == 0 {
				want = root
			}
		}
		got, ok := impl.RootOfMinusOne(p)
		is, _ := impl.IsPrimeNumber(p)
		if !is || want == 0 {
			wantNoNumber(t, fmt.Sprint(p), got, ok)
		} else {
			wantNumber(t, fmt.Sprint(p), got, ok, want)
		}
		if is && (want == 0) != (p%4 == 3) {
			t.Error("this is no test:", p, want)
		}
	}
}

// TestRootOfMinusOneOfAllPrimes needs no search: there are just two such numbers below p, with the sum p.
func TestRootOfMinusOneOfAllPrimes(t *testing.T) {
	for _, p := range primesUpTo(impl.MaxTwo) {
		got, ok := impl.RootOfMinusOne(p)
		if p%4 == 3 {
			wantNoNumber(t, fmt.Sprint(p), got, ok)
		} else if !ok || got < 1 || got > max(p/2, 1) || (got*got+1)%p != 0 {
			t.Error(p, got, ok)
		}
	}
}

func TestTwoDescent(t *testing.T) {
	for _, c := range []struct {
		p    int
		want [][]int
	}{
		{2, [][]int{{1, 1, 1}}},
		{5, [][]int{{2, 1, 1}}},
		{13, [][]int{{5, 1, 2}, {3, 2, 1}}},
		{17, [][]int{{4, 1, 1}}},
		{29, [][]int{{12, 1, 5}, {5, 2, 1}}},
		{41, [][]int{{9, 1, 2}, {5, 4, 1}}},
		{53, [][]int{{23, 1, 10}, {7, 2, 1}}},
		// By 18, the remainder of 333 is just the half, 9, and that of 15 is -3.
		{6173, [][]int{{2447, 1, 970}, {1168, 3, 221}, {333, 15, 18}, {164, 63, 5}, {58, 53, 1}}},
		{lastPrimeLeavesOne, [][]int{{256200, 1, 65641}, {24839, 4, 617}, {6401, 160, 41}, {765, 644, 1}}},
	} {
		got, ok := impl.TwoDescent(c.p)
		wantLists(t, fmt.Sprint(c.p), got, ok, c.want)
	}
}

func TestTwoDescentOfAllPrimes(t *testing.T) {
	kinds := map[string]int{}
	for _, p := range primesUpTo(impl.MaxTwo) {
		got, ok := impl.TwoDescent(p)
		if p%4 == 3 {
			wantNoLists(t, fmt.Sprint(p), got, ok)
			continue
		}
		root, _ := impl.RootOfMinusOne(p)
		want := descentOfTwo(t, p, root)
		wantLists(t, fmt.Sprint(p), got, ok, want)
		for _, list := range want {
			if list[0] < list[1] {
				kinds["rising"]++
			}
			u, v := nearestOf(list[0], list[2]), nearestOf(list[1], list[2])
			if 2*u == list[2] && v != u && v != 0 || 2*v == list[2] && u != v && u != 0 {
				kinds["half"]++
			}
		}
		kinds[fmt.Sprint(len(want))]++
	}
	// Other halves cannot be told from those with the other sign.
	if kinds["rising"] < 1000 || kinds["half"] < 500 || kinds["1"] < 2 || kinds["8"] < 1 {
		t.Error("this is no test:", kinds)
	}
}

// wantTwo takes all lists of two numbers with the sum n, the greatest one first, and the count with signs and orders.
func wantTwo(t *testing.T, n int, want [][]int, count int) {
	t.Helper()
	name := fmt.Sprint(n)
	lists, ok := impl.AllTwoSquares(n)
	wantLists(t, name, lists, ok, want)
	first, ok := impl.TwoSquares(n)
	if len(want) == 0 {
		wantNoList(t, name, first, ok)
	} else {
		wantList(t, name, first, ok, want[0])
	}
	got, ok := impl.CountTwo(n)
	wantNumber(t, name, got, ok, count)
}

func TestTwoSquares(t *testing.T) {
	for _, c := range []struct {
		n     int
		want  [][]int
		count int
	}{
		{0, [][]int{{0, 0}}, 1}, {1, [][]int{{1, 0}}, 4}, {2, [][]int{{1, 1}}, 4}, {3, nil, 0}, {4, [][]int{{2, 0}}, 4}, {5, [][]int{{2, 1}}, 8}, {8, [][]int{{2, 2}}, 4},
		{25, [][]int{{5, 0}, {4, 3}}, 12}, {50, [][]int{{7, 1}, {5, 5}}, 12}, {65, [][]int{{8, 1}, {7, 4}}, 16}, {325, [][]int{{18, 1}, {17, 6}, {15, 10}}, 24},
		{6, nil, 0}, {7, nil, 0}, {12, nil, 0}, {21, nil, 0}, {999999, nil, 0}, {lastPrimeOfTwo, nil, 0}, {lastPrimeLeavesOne, [][]int{{765, 644}}, 8},
		{441, [][]int{{21, 0}}, 4}, {882, [][]int{{21, 21}}, 4},
		{impl.MaxTwo, [][]int{{1000, 0}, {960, 280}, {936, 352}, {800, 600}}, 28},
	} {
		wantTwo(t, c.n, c.want, c.count)
	}
}

func TestTwoSquaresOfManyNumbers(t *testing.T) {
	lists, counts := listsOfTwo(impl.MaxTwo), countsOfTwo(impl.MaxTwo)
	longest := 0
	for _, n := range sumsToTry() {
		wantTwo(t, n, lists[n], counts[n])
		longest = max(longest, len(lists[n]))
	}
	if longest < 16 {
		t.Error("this is no test:", longest)
	}
}

func TestRefusingPrime(t *testing.T) {
	for _, c := range [][2]int{
		{3, 3}, {6, 3}, {7, 7}, {12, 3}, {21, 3}, {27, 3}, {63, 7}, {75, 3}, {147, 3}, {175, 7}, {231, 3}, {9 * 77, 7}, {9 * 49 * 11, 11}, {27 * 49, 3}, {343, 7}, {1331, 11}, {22, 11}, {4 * 31, 31}, {49 * 19, 19}, {999999, 3}, {lastPrimeOfTwo, lastPrimeOfTwo}, {2 * 499979, 499979}, {5 * 3 * 3 * 19, 19}, {531441 / 3, 3}, {65536 * 3, 3}, {65536 * 7, 7}, {13 * 23, 23}, {997 * 991, 991}, {103 * 107, 103},
	} {
		got, ok := impl.RefusingPrime(c[0])
		wantNumber(t, fmt.Sprint(c[0]), got, ok, c[1])
	}
	for _, n := range []int{1, 2, 4, 5, 8, 9, 10, 13, 18, 36, 45, 49, 81, 98, 121, 441, 882, 5 * 9 * 49, 961, 991 * 991, 531441, lastPrimeLeavesOne, impl.MaxTwo} {
		got, ok := impl.RefusingPrime(n)
		wantNoNumber(t, fmt.Sprint(n), got, ok)
	}
}

// TestRefusingPrimeOfAllNumbers takes the greatest prime numbers first, so that the least one tells in the end.
func TestRefusingPrimeOfAllNumbers(t *testing.T) {
	isOdd := func(n, p int) bool {
		times := 0
		for ; n%p == 0; n /= p {
			times++
		}
		return times%2 == 1
	}
	want := make([]int, impl.MaxTwo+1)
	primes := primesUpTo(impl.MaxTwo)
	slices.Reverse(primes)
	for _, p := range primes {
		for n := p; p%4 == 3 && n <= impl.MaxTwo; n += p {
			if isOdd(n, p) {
				want[n] = p
			}
		}
	}
	for n := 1; n <= impl.MaxTwo; n++ {
		got, ok := impl.RefusingPrime(n)
		if got != want[n] || ok != (want[n] > 0) {
			t.Error(n, got, ok, want[n])
		}
	}
}

func TestDivisorBalance(t *testing.T) {
	for _, c := range [][2]int{{1, 4}, {2, 4}, {3, 0}, {4, 4}, {5, 8}, {7, 0}, {9, 4}, {15, 0}, {21, 0}, {25, 12}, {27, 0}, {45, 8}, {49, 4}, {65, 16}, {441, 4}, {882, 4}, {lastPrimeOfTwo, 0}, {lastPrimeLeavesOne, 8}, {999999, 0}, {impl.MaxTwo, 28}} {
		got, ok := impl.DivisorBalance(c[0])
		wantNumber(t, fmt.Sprint(c[0]), got, ok, c[1])
	}
	got, ok := impl.DivisorBalance(0)
	wantNoNumber(t, "0", got, ok)
}

func TestThreeSquares(t *testing.T) {
	for _, c := range []struct {
		n    int
		want []int
	}{
		{0, []int{0, 0, 0}}, {1, []int{1, 0, 0}}, {2, []int{1, 1, 0}}, {3, []int{1, 1, 1}}, {4, []int{2, 0, 0}}, {5, []int{2, 1, 0}}, {6, []int{2, 1, 1}}, {9, []int{3, 0, 0}}, {12, []int{2, 2, 2}}, {22, []int{3, 3, 2}}, {27, []int{5, 1, 1}}, {33, []int{5, 2, 2}}, {41, []int{6, 2, 1}}, {48, []int{4, 4, 4}}, {75, []int{7, 5, 1}}, {43, []int{5, 3, 3}}, {67, []int{7, 3, 3}}, {192, []int{8, 8, 8}},
		{impl.MaxTwo, []int{1000, 0, 0}}, {999998, []int{999, 34, 29}}, {lastPrimeLeavesOne, []int{999, 42, 14}},
	} {
		got, ok := impl.ThreeSquares(c.n)
		wantList(t, fmt.Sprint(c.n), got, ok, c.want)
	}
	for _, n := range []int{7, 15, 23, 28, 31, 60, 92, 112, 240, 368, 4096 * 7, 4096 * 15, 4096 * 23, 65536 * 7, 65536 * 15, 999991, 999999} {
		got, ok := impl.ThreeSquares(n)
		wantNoList(t, fmt.Sprint(n), got, ok)
		is, ok := impl.IsRefusedByEight(n)
		wantAnswer(t, fmt.Sprint(n), is, ok, true)
	}
}

func TestThreeSquaresOfManyNumbers(t *testing.T) {
	twos := listsOfTwo(impl.MaxTwo)
	refused := 0
	for _, n := range sumsToTry() {
		want := firstOfThree(twos, n)
		got, ok := impl.ThreeSquares(n)
		is, fine := impl.IsRefusedByEight(n)
		wantAnswer(t, fmt.Sprint(n), is, fine, want == nil)
		if want != nil {
			wantList(t, fmt.Sprint(n), got, ok, want)
			continue
		}
		refused++
		wantNoList(t, fmt.Sprint(n), got, ok)
	}
	if refused < 600 {
		t.Error("this is no test:", refused)
	}
}

func TestIsRefusedByEight(t *testing.T) {
	want := make([]bool, impl.MaxTwo+1)
	for power := 1; 7*power <= impl.MaxTwo; power *= 4 {
		for n := 7; n*power <= impl.MaxTwo; n += 8 {
			want[n*power] = true
		}
	}
	for n, refused := range want {
		got, ok := impl.IsRefusedByEight(n)
		if got != refused || !ok {
			t.Error(n, got, ok)
		}
	}
	for _, n := range []int{0, 1, 2, 3, 4, 8, 14, 16, 56, 64, 8 * 15, 2 * 23, 65536, 262144, 32 * 7, impl.MaxTwo} {
		got, ok := impl.IsRefusedByEight(n)
		wantAnswer(t, fmt.Sprint(n), got, ok, false)
	}
}

func TestNumbersThatAreNoSumsOfTwoOrThree(t *testing.T) {
	for _, n := range outside(impl.MaxTwo) {
		name := fmt.Sprint(n)
		list, ok := impl.TwoSquares(n)
		wantNoList(t, name, list, ok)
		lists, ok := impl.AllTwoSquares(n)
		wantNoLists(t, name, lists, ok)
		list, ok = impl.ThreeSquares(n)
		wantNoList(t, name, list, ok)
		count, ok := impl.CountTwo(n)
		wantNoNumber(t, name, count, ok)
		balance, ok := impl.DivisorBalance(n)
		wantNoNumber(t, name, balance, ok)
		is, ok := impl.IsRefusedByEight(n)
		wantNoAnswer(t, name, is, ok)
	}
	for _, n := range append(outside(impl.MaxTwo), 0) {
		prime, ok := impl.RefusingPrime(n)
		wantNoNumber(t, fmt.Sprint(n), prime, ok)
	}
}

func TestNumbersThatAreNoPrimes(t *testing.T) {
	for _, p := range slices.Concat(notPrimes(), outside(impl.MaxTwo), []int{lastPrimeOfTwo, 3, 7, 11}) {
		root, ok := impl.RootOfMinusOne(p)
		wantNoNumber(t, fmt.Sprint(p), root, ok)
		lists, ok := impl.TwoDescent(p)
		wantNoLists(t, fmt.Sprint(p), lists, ok)
	}
	for _, p := range slices.Concat(notPrimes(), outside(impl.MaxFour), outside(impl.MaxTwo), []int{primeBeyondFour, 2011, lastPrimeLeavesOne, lastPrimeOfTwo}) {
		start, ok := impl.FourStart(p)
		wantNoList(t, fmt.Sprint(p), start, ok)
		lists, ok := impl.FourDescent(p)
		wantNoLists(t, fmt.Sprint(p), lists, ok)
	}
}

// wantFour takes all lists of four numbers with the sum n, the greatest one first, and the count with signs and orders.
func wantFour(t *testing.T, n int, want [][]int, count int) {
	t.Helper()
	name := fmt.Sprint(n)
	lists, ok := impl.AllFourSquares(n)
	wantLists(t, name, lists, ok, want)
	first, ok := impl.FourSquares(n)
	wantList(t, name, first, ok, want[0])
	got, ok := impl.CountFour(n)
	wantNumber(t, name, got, ok, count)
	sum, ok := impl.DivisorSumFour(n)
	if n == 0 {
		wantNoNumber(t, name, sum, ok)
	} else {
		wantNumber(t, name, sum, ok, count)
	}
}

func TestFourSquares(t *testing.T) {
	for _, c := range []struct {
		n     int
		want  [][]int
		count int
	}{
		{0, [][]int{{0, 0, 0, 0}}, 1}, {1, [][]int{{1, 0, 0, 0}}, 8}, {2, [][]int{{1, 1, 0, 0}}, 24}, {3, [][]int{{1, 1, 1, 0}}, 32}, {4, [][]int{{2, 0, 0, 0}, {1, 1, 1, 1}}, 24}, {5, [][]int{{2, 1, 0, 0}}, 48}, {7, [][]int{{2, 1, 1, 1}}, 64}, {8, [][]int{{2, 2, 0, 0}}, 24}, {9, [][]int{{3, 0, 0, 0}, {2, 2, 1, 0}}, 104},
		{28, [][]int{{5, 1, 1, 1}, {4, 2, 2, 2}, {3, 3, 3, 1}}, 192}, {30, [][]int{{5, 2, 1, 0}, {4, 3, 2, 1}}, 576}, {36, [][]int{{6, 0, 0, 0}, {5, 3, 1, 1}, {4, 4, 2, 0}, {3, 3, 3, 3}}, 312},
		{23, [][]int{{3, 3, 2, 1}}, 192}, {15, [][]int{{3, 2, 1, 1}}, 192}, {1024, [][]int{{32, 0, 0, 0}, {16, 16, 16, 16}}, 24}, {1536, [][]int{{32, 16, 16, 0}}, 96}, {1792, [][]int{{40, 8, 8, 8}, {32, 16, 16, 16}, {24, 24, 24, 8}}, 192},
	} {
		wantFour(t, c.n, c.want, c.count)
	}
}

func TestFourSquaresOfAllNumbers(t *testing.T) {
	lists, counts := listsOfFour(impl.MaxFour), countsOfFour(impl.MaxFour)
	for n := range lists {
		wantFour(t, n, lists[n], counts[n])
	}
	if len(lists[1999]) < 20 || counts[1999] != 16000 || counts[2000] != 3744 {
		t.Error("this is no test:", len(lists[1999]), counts[1999], counts[2000])
	}
}

func TestNumbersThatAreNoSumsOfFour(t *testing.T) {
	for _, n := range append(outside(impl.MaxFour), outside(impl.MaxTwo)...) {
		name := fmt.Sprint(n)
		list, ok := impl.FourSquares(n)
		wantNoList(t, name, list, ok)
		lists, ok := impl.AllFourSquares(n)
		wantNoLists(t, name, lists, ok)
		count, ok := impl.CountFour(n)
		wantNoNumber(t, name, count, ok)
		sum, ok := impl.DivisorSumFour(n)
		wantNoNumber(t, name, sum, ok)
	}
}

func TestMultiplyTwo(t *testing.T) {
	const most = mostMultiplied
	for _, c := range []struct{ a, b, want []int }{
		{[]int{2, 1}, []int{3, 2}, []int{4, 7}}, {[]int{3, 2}, []int{2, 1}, []int{4, 7}}, {[]int{1, 2}, []int{3, 2}, []int{-1, 8}}, {[]int{1, 2}, []int{2, 3}, []int{-4, 7}}, {[]int{-2, 1}, []int{3, -2}, []int{-4, 7}},
		{[]int{0, 0}, []int{5, 7}, []int{0, 0}}, {[]int{1, 0}, []int{5, 7}, []int{5, 7}}, {[]int{0, 1}, []int{5, 7}, []int{-7, 5}}, {[]int{0, 0}, []int{0, 0}, []int{0, 0}}, {[]int{4, 4}, []int{4, 4}, []int{0, 32}},
		{[]int{most, most}, []int{most, -most}, []int{2 * most * most, 0}}, {[]int{most, most}, []int{most, most}, []int{0, 2 * most * most}}, {[]int{-most, -most}, []int{most, most}, []int{0, -2 * most * most}}, {[]int{-most, most}, []int{most, most}, []int{-2 * most * most, 0}}, {[]int{-most, 0}, []int{1, -most}, []int{-most, most * most}},
	} {
		got, ok := impl.MultiplyTwo(c.a, c.b)
		wantList(t, fmt.Sprint(c.a, c.b), got, ok, c.want)
	}
	source := rand.New(rand.NewSource(9))
	for range 3000 {
		a, b := someFactor(source, 2), someFactor(source, 2)
		got, ok := impl.MultiplyTwo(a, b)
		product := complex(float64(a[0]), float64(a[1])) * complex(float64(b[0]), float64(b[1]))
		wantList(t, fmt.Sprint(a, b), got, ok, []int{int(real(product)), int(imag(product))})
		if sumOfSquares(got) != sumOfSquares(a)*sumOfSquares(b) {
			t.Error(a, b, got, "has another sum of squares")
		}
	}
}

func someFactor(source *rand.Rand, length int) []int {
	list := make([]int, length)
	most := []int{1, 9, 300, mostMultiplied}[source.Intn(4)]
	for i := range list {
		list[i] = source.Intn(2*most+1) - most
	}
	return list
}

func TestMultiplyFour(t *testing.T) {
	const most = mostMultiplied
	for _, c := range []struct{ a, b, want []int }{
		// These are the units, one after the other.
		{[]int{1, 0, 0, 0}, []int{2, 3, 5, 7}, []int{2, 3, 5, 7}}, {[]int{0, 1, 0, 0}, []int{2, 3, 5, 7}, []int{3, -2, -7, 5}}, {[]int{0, 0, 1, 0}, []int{2, 3, 5, 7}, []int{5, 7, -2, -3}}, {[]int{0, 0, 0, 1}, []int{2, 3, 5, 7}, []int{7, -5, 3, -2}},
		{[]int{3, 2, 1, 0}, []int{1, 0, 1, 0}, []int{4, -2, 2, 2}}, {[]int{1, 2, 3, 4}, []int{5, 6, 7, 8}, []int{70, -8, 0, -16}}, {[]int{1, 2, 3, 4}, []int{1, 2, 3, 4}, []int{30, 0, 0, 0}}, {[]int{0, 0, 0, 0}, []int{5, 6, 7, 8}, []int{0, 0, 0, 0}},
		{[]int{most, most, most, most}, []int{most, most, most, most}, []int{4 * most * most, 0, 0, 0}}, {[]int{-most, most, -most, most}, []int{most, -most, most, -most}, []int{-4 * most * most, 0, 0, 0}}, {[]int{most, -most, most, most}, []int{most, most, most, -most}, []int{0, 0, 0, -4 * most * most}},
	} {
		got, ok := impl.MultiplyFour(c.a, c.b)
		wantList(t, fmt.Sprint(c.a, c.b), got, ok, c.want)
	}
	source := rand.New(rand.NewSource(9))
	for range 3000 {
		a, b := someFactor(source, 4), someFactor(source, 4)
		got, ok := impl.MultiplyFour(a, b)
		wantList(t, fmt.Sprint(a, b), got, ok, hamilton(a, b))
		if sumOfSquares(got) != sumOfSquares(a)*sumOfSquares(b) {
			t.Error(a, b, got, "has another sum of squares")
		}
	}
}

// notFactors are lists of another length, and lists with a number that is too great at each place.
func notFactors(length int) [][]int {
	lists := [][]int{nil, {}}
	for other := 1; other <= 6; other++ {
		if other != length {
			lists = append(lists, repeated(1, other))
		}
	}
	for i := range length {
		for _, number := range []int{-mostMultiplied - 1, mostMultiplied + 1, 1 << 32, 1<<32 + 1, math.MinInt, math.MinInt + 1, math.MaxInt} {
			list := repeated(1, length)
			list[i] = number
			lists = append(lists, list)
		}
	}
	return append(lists, repeated(math.MinInt, length), repeated(math.MaxInt, length), repeated(1, 1000))
}

// multiplications have the length of their lists.
func multiplications() map[int]func(a, b []int) ([]int, bool) {
	return map[int]func(a, b []int) ([]int, bool){2: impl.MultiplyTwo, 4: impl.MultiplyFour}
}

func TestFactorsThatCannotBeMultiplied(t *testing.T) {
	for length, multiply := range multiplications() {
		for _, list := range notFactors(length) {
			for _, other := range append(notFactors(length), repeated(0, length), repeated(mostMultiplied, length), repeated(-mostMultiplied, length)) {
				got, ok := multiply(list, other)
				wantNoList(t, fmt.Sprint(list, other), got, ok)
				got, ok = multiply(other, list)
				wantNoList(t, fmt.Sprint(other, list), got, ok)
			}
		}
	}
}

func TestFourStart(t *testing.T) {
	for _, c := range []struct {
		p    int
		want []int
	}{
		{2, []int{1, 0, 1, 0}}, {3, []int{1, 1, 1, 0}}, {5, []int{2, 0, 1, 0}}, {7, []int{3, 2, 1, 0}}, {11, []int{3, 1, 1, 0}}, {13, []int{4, 3, 1, 0}}, {17, []int{4, 0, 1, 0}}, {31, []int{6, 5, 1, 0}}, {lastPrimeOfFour, []int{135, 42, 1, 0}},
	} {
		got, ok := impl.FourStart(c.p)
		wantList(t, fmt.Sprint(c.p), got, ok, c.want)
	}
	for _, p := range primesUpTo(impl.MaxFour) {
		got, ok := impl.FourStart(p)
		wantList(t, fmt.Sprint(p), got, ok, firstStart(p))
	}
}

// firstStart looks in the order of a, and then of b.
func firstStart(p int) []int {
	for a := 0; 2*a <= p; a++ {
		for b := 0; b <= a; b++ {
			if (a*a+b*b+1)%p == 0 {
				return []int{a, b, 1, 0}
			}
		}
	}
	return nil
}

func TestFourDescent(t *testing.T) {
	for _, c := range []struct {
		p    int
		want [][]int
	}{
		{2, [][]int{{1, 0, 1, 0, 1}}},
		{3, [][]int{{1, 1, 1, 0, 1}}},
		{5, [][]int{{2, 0, 1, 0, 1}}},
		{7, [][]int{{3, 2, 1, 0, 2}, {2, 1, 1, 1, 1}}},
		{13, [][]int{{4, 3, 1, 0, 2}, {2, 2, 2, 1, 1}}},
		{lastPrimeOfFour, [][]int{{135, 42, 1, 0, 10}, {76, 6, 13, 4, 3}, {31, 1, 19, 26, 1}}},
	} {
		got, ok := impl.FourDescent(c.p)
		wantLists(t, fmt.Sprint(c.p), got, ok, c.want)
	}
	kinds := map[int]int{}
	halves := 0
	for _, p := range primesUpTo(impl.MaxFour) {
		got, ok := impl.FourDescent(p)
		want := descentOfFour(t, p, firstStart(p))
		wantLists(t, fmt.Sprint(p), got, ok, want)
		kinds[len(want)]++
		for _, list := range want {
			if m := list[4]; m%2 == 0 && slices.ContainsFunc(list[:4], func(n int) bool { return n%m == m/2 }) {
				halves++
			}
		}
	}
	if kinds[1] < 5 || kinds[2] < 100 || kinds[3] < 5 || halves < 100 {
		t.Error("this is no test:", kinds, halves)
	}
}

// TestPromise9PrimesAreSumsOfTwo checks each step of the descents, and that they end with the one list of two numbers.
func TestPromise9PrimesAreSumsOfTwo(t *testing.T) {
	for _, p := range primesUpTo(impl.MaxTwo) {
		if p%4 == 3 || p > 20000 && p < impl.MaxTwo-20000 {
			continue
		}
		lists, ok := impl.TwoDescent(p)
		root, fine := impl.RootOfMinusOne(p)
		if !ok || !fine || len(lists) == 0 || !slices.Equal(lists[0][:2], []int{root, 1}) {
			t.Fatal(p, lists, ok, root, fine)
		}
		for i, list := range lists {
			if sumOfSquares(list[:2]) != list[2]*p || min(list[0], list[1]) < 0 || i > 0 && 2*list[2] > lists[i-1][2] {
				t.Error(p, lists)
			}
		}
		last := lists[len(lists)-1]
		all, ok := impl.AllTwoSquares(p)
		wantLists(t, fmt.Sprint(p), all, ok, [][]int{{max(last[0], last[1]), min(last[0], last[1])}})
		if last[2] != 1 {
			t.Error(p, lists)
		}
	}
}

func TestPromise9PrimesAreSumsOfFour(t *testing.T) {
	for _, p := range primesUpTo(impl.MaxFour) {
		lists, ok := impl.FourDescent(p)
		start, fine := impl.FourStart(p)
		if !ok || !fine || len(lists) == 0 || !slices.Equal(lists[0][:4], start) {
			t.Fatal(p, lists, ok, start, fine)
		}
		for i, list := range lists {
			if sumOfSquares(list[:4]) != list[4]*p || slices.Min(list) < 0 || i > 0 && list[4] >= lists[i-1][4] {
				t.Error(p, lists)
			}
		}
		last := lists[len(lists)-1]
		ordered := inOrder(last[:4])
		slices.Reverse(ordered)
		all, ok := impl.AllFourSquares(p)
		if !ok || last[4] != 1 || !slices.ContainsFunc(all, func(list []int) bool { return slices.Equal(list, ordered) }) {
			t.Error(p, lists, all)
		}
	}
}

func TestPromise9CountsAreToldByDivisors(t *testing.T) {
	counts := countsOfTwo(impl.MaxTwo)
	for n := 1; n <= impl.MaxTwo; n++ {
		// All numbers would take long.
		if n > 100000 && n < impl.MaxTwo-10000 && n%31 != 0 {
			continue
		}
		balance, ok := impl.DivisorBalance(n)
		if balance != counts[n] || !ok {
			t.Error(n, balance, ok, counts[n])
		}
	}
	for n := 1; n <= impl.MaxTwo; n++ {
		if _, isRefused := impl.RefusingPrime(n); isRefused != (counts[n] == 0) {
			t.Error(n, isRefused, counts[n])
		}
	}
	for _, n := range append(manyDivisors(), impl.MaxTwo, lastPrimeOfTwo, lastPrimeLeavesOne) {
		count, ok := impl.CountTwo(n)
		balance, fine := impl.DivisorBalance(n)
		wantNumber(t, fmt.Sprint(n), count, ok, counts[n])
		wantNumber(t, fmt.Sprint(n), balance, fine, counts[n])
	}
}

func TestPromise9ProductsOfSumsAreSums(t *testing.T) {
	for n := 1; n <= 60; n++ {
		for m := 1; m <= impl.MaxFour/n && m <= 60; m++ {
			a, _ := impl.FourSquares(n)
			b, _ := impl.FourSquares(m)
			product, ok := impl.MultiplyFour(a, b)
			if !ok || sumOfSquares(product) != n*m {
				t.Error(n, m, product, ok)
			}
			a, isA := impl.TwoSquares(n)
			b, isB := impl.TwoSquares(m)
			product, ok = impl.MultiplyTwo(a, b)
			if ok != (isA && isB) || ok && sumOfSquares(product) != n*m {
				t.Error(n, m, product, ok)
			}
		}
	}
}

func TestPromise11OfSums(t *testing.T) {
	tried := slices.Concat(outside(impl.MaxTwo), outside(impl.MaxFour), notPrimes(), manyDivisors(), []int{lastPrimeOfFour, lastPrimeOfTwo, lastPrimeLeavesOne, impl.MaxFour, impl.MaxFour - 1})
	for n := 0; n <= 300; n++ {
		tried = append(tried, n)
	}
	for _, n := range tried {
		checkTotal(t, "IsPrimeNumber", impl.IsPrimeNumber, n)
		checkTotal(t, "RootOfMinusOne", impl.RootOfMinusOne, n)
		checkTotal(t, "TwoDescent", impl.TwoDescent, n)
		checkTotal(t, "TwoSquares", impl.TwoSquares, n)
		checkTotal(t, "AllTwoSquares", impl.AllTwoSquares, n)
		checkTotal(t, "RefusingPrime", impl.RefusingPrime, n)
		checkTotal(t, "CountTwo", impl.CountTwo, n)
		checkTotal(t, "DivisorBalance", impl.DivisorBalance, n)
		checkTotal(t, "ThreeSquares", impl.ThreeSquares, n)
		checkTotal(t, "IsRefusedByEight", impl.IsRefusedByEight, n)
		checkTotal(t, "FourSquares", impl.FourSquares, n)
		checkTotal(t, "AllFourSquares", impl.AllFourSquares, n)
		checkTotal(t, "CountFour", impl.CountFour, n)
		checkTotal(t, "DivisorSumFour", impl.DivisorSumFour, n)
		checkTotal(t, "FourStart", impl.FourStart, n)
		checkTotal(t, "FourDescent", impl.FourDescent, n)
	}
}

func TestPromise11OfFactors(t *testing.T) {
	source := rand.New(rand.NewSource(11))
	for length, multiply := range multiplications() {
		lists := append(notFactors(length), repeated(0, length), repeated(mostMultiplied, length), repeated(-mostMultiplied, length), someFactor(source, length), someFactor(source, length))
		for _, a := range lists {
			for _, b := range lists {
				checkTotal(t, fmt.Sprint("multiply ", length), multiply, a, b)
			}
		}
		// Both factors may be the same list.
		same := repeated(3, length)
		product, ok := multiply(same, same)
		if !ok || sumOfSquares(product) != sumOfSquares(same)*sumOfSquares(same) || !slices.Equal(same, repeated(3, length)) {
			t.Error(same, product, ok)
		}
	}
}

func copiedLists(lists [][]int) [][]int {
	var copied [][]int
	for _, list := range lists {
		copied = append(copied, slices.Clone(list))
	}
	return copied
}

// TestPromise11OfSquareAnswers changes answers and looks whether later ones change with them.
func TestPromise11OfSquareAnswers(t *testing.T) {
	for _, ask := range []func() ([][]int, bool){
		func() ([][]int, bool) { return impl.TwoDescent(6173) },
		func() ([][]int, bool) { return impl.AllTwoSquares(325) },
		func() ([][]int, bool) { return impl.AllFourSquares(36) },
		func() ([][]int, bool) { return impl.FourDescent(lastPrimeOfFour) },
	} {
		first, _ := ask()
		second, _ := ask()
		want := copiedLists(second)
		for _, list := range first {
			for i := range list {
				list[i] = -i - 1
			}
		}
		wantLists(t, "another answer", second, true, want)
		again, ok := ask()
		wantLists(t, "a later answer", again, ok, want)
	}
	for _, ask := range []func() ([]int, bool){
		func() ([]int, bool) { return impl.TwoSquares(25) },
		func() ([]int, bool) { return impl.ThreeSquares(22) },
		func() ([]int, bool) { return impl.FourSquares(7) },
		func() ([]int, bool) { return impl.FourStart(7) },
		func() ([]int, bool) { return impl.MultiplyTwo([]int{2, 1}, []int{3, 2}) },
		func() ([]int, bool) { return impl.MultiplyFour([]int{1, 2, 3, 4}, []int{5, 6, 7, 8}) },
	} {
		first, _ := ask()
		second, _ := ask()
		want := slices.Clone(second)
		for i := range first {
			first[i] = -i - 1
		}
		wantList(t, "another answer", second, true, want)
		again, ok := ask()
		wantList(t, "a later answer", again, ok, want)
	}
}
