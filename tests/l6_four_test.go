package tests

import (
	"fmt"
	"math"
	"math/big"
	"reflect"
	"slices"
	"testing"

	"loop.example/g01122/impl"
)

// isQuadExactly has no number that is too great for it, but for the limit itself.
func isQuadExactly(list []int) bool {
	if len(list) != 4 || slices.Min(list) < -impl.MaxCurvature || slices.Max(list) > impl.MaxCurvature {
		return false
	}
	sum, squares := new(big.Int), new(big.Int)
	for _, number := range list {
		n := big.NewInt(int64(number))
		sum.Add(sum, n)
		squares.Add(squares, new(big.Int).Mul(n, n))
	}
	return sum.Sign() > 0 && squares.Add(squares, squares).Cmp(sum.Mul(sum, sum)) == 0
}

// fitsModuloWords adds and multiplies as an int does, and has no limits.
func fitsModuloWords(list []int) bool {
	sum, squares := 0, 0
	for _, number := range list {
		sum += number
		squares += number * number
	}
	return 2*squares == sum*sum
}

// quadsFrom returns all quads with numbers in low..high, found by trying all numbers.
func quadsFrom(low, high int) [][]int {
	var found [][]int
	for a := low; a <= high; a++ {
		for b := low; b <= high; b++ {
			for c := low; c <= high; c++ {
				for d := low; d <= high; d++ {
					sum := a + b + c + d
					if sum > 0 && 2*(a*a+b*b+c*c+d*d) == sum*sum {
						found = append(found, []int{a, b, c, d})
					}
				}
			}
		}
	}
	return found
}

func swappedAt(list []int, i int) []int {
	swapped := slices.Clone(list)
	swapped[i] = 2*(sumOf(list)-list[i]) - list[i]
	return swapped
}

func rotated(list []int, by int) []int { return slices.Concat(list[by:], list[:by]) }

func reversed(list []int) []int {
	turned := slices.Clone(list)
	slices.Reverse(turned)
	return turned
}

func inOrder(list []int) []int { return slices.Sorted(slices.Values(list)) }

func inTimes(list []int, factor int) []int {
	times := slices.Clone(list)
	for i := range times {
		times[i] *= factor
	}
	return times
}

// downFrom makes swaps down as the document tells them, however many there are.
func downFrom(list []int) (path [][]int, word []int) {
	path = [][]int{list}
	for {
		last := path[len(path)-1]
		i := slices.Index(last, slices.Max(last))
		lower := swappedAt(last, i)
		if sumOf(lower) >= sumOf(last) {
			return path, word
		}
		path, word = append(path, lower), append(word, i)
	}
}

// chainAtLine and chainInRing have paths of n + 1 quads: two circles stay, and those between them follow each other.
func chainAtLine(n int) []int { return []int{0, 1, n * n, (n + 1) * (n + 1)} }

func chainInRing(n int) []int { return []int{-1, 2, n*n + 2, (n+1)*(n+1) + 2} }

// longChains have paths of more than MaxWays quads.
func longChains() [][]int {
	return [][]int{
		chainAtLine(200), chainAtLine(201), chainAtLine(315), chainInRing(200), chainInRing(201), chainInRing(315),
		rotated(chainAtLine(200), 1), rotated(chainInRing(200), 2), rotated(chainInRing(240), 3), {40402 + 1, 40000 + 2, 2, -1}, inTimes(chainAtLine(200), 2), inTimes(chainInRing(200), 2),
	}
}

// greatQuads have numbers at MaxCurvature and near to it, and paths of at most MaxWays quads.
func greatQuads() [][]int {
	return [][]int{
		{0, 0, impl.MaxCurvature, impl.MaxCurvature}, {impl.MaxCurvature, 0, 25000, 25000}, {25000, 25000, 0, impl.MaxCurvature}, {-33333, 66666, 66666, 99999}, {-46356, 99825, 99896, 99929}, {99929, 99896, -46356, 99825},
		{17493, 48, impl.MaxCurvature, 33757}, {17493, 48, 2596, 33757}, {impl.MaxCurvature, 67525, 21, 3156}, {43524, impl.MaxCurvature, 49, 11521}, {75316, 1725, 21, impl.MaxCurvature}, {277, impl.MaxCurvature, 30000, 20077},
		{46943, 2142, 326, 71003}, {99999, 2142, 326, 71003}, {-5, 19726, 30906, 99999}, {161, 32673, 4064, 13344}, {31985, 9, 14724, 3296},
		chainAtLine(199), chainInRing(199), chainAtLine(150), chainInRing(198), rotated(chainAtLine(199), 2), rotated(chainInRing(199), 3),
	}
}

// someQuads have a number 0, none less than 0, equal numbers, all orders, or a divisor.
func someQuads() [][]int {
	return [][]int{
		{-1, 2, 2, 3}, {3, 2, 2, -1}, {2, -1, 3, 2}, {15, 2, 2, 3}, {2, 3, 15, 38}, {2, 3, -1, 2}, {-1, 2, 3, 6}, {11, -1, 6, 2}, {-6, 11, 14, 15}, {86, 11, 14, 15}, {-3, 5, 8, 8}, {8, 5, 8, -3}, {12, 5, 8, -3}, {-11, 21, 24, 28}, {-4, 8, 9, 9}, {-4, 5, 20, 21},
		{0, 0, 1, 1}, {1, 0, 1, 0}, {0, 1, 1, 0}, {4, 0, 1, 1}, {1, 0, 4, 1}, {0, 1, 4, 9}, {28, 1, 4, 9}, {9, 16, 0, 1}, {1, 4, 12, 33}, {12, 1, 1, 4}, {12, 1, 1, 24},
		{-2, 4, 4, 6}, {0, 0, 2, 2}, {-30, 60, 60, 90}, {6, 9, 45, 114}, {0, 0, 7, 7}, {0, 5, 20, 5},
	}
}

func quadPool() [][]int { return slices.Concat(someQuads(), greatQuads(), longChains()) }

// wrappedQuads fit modulo 2 to the power of 64 only.
func wrappedQuads() [][]int {
	return [][]int{
		{-1, 2, 2, math.MinInt + 3}, {math.MaxInt, 2, 2, 3}, {math.MaxInt, 2, 2, math.MinInt + 3}, {math.MaxInt, math.MinInt + 2, 2, 3}, {math.MaxInt, math.MinInt + 2, math.MinInt + 2, math.MinInt + 3},
		{0, 0, 1, math.MinInt + 1}, {math.MinInt, math.MinInt, 1, 1}, {0, math.MinInt, 1, math.MinInt + 1}, {-1, 2, 2, 3 + 1<<62}, {-1, 2 + 1<<62, 2, 3}, {-1 + 1<<62, 2, 2, 3}, {2, 3, 15 + 1<<62, 38},
		{1 << 32, 0, 0, 0}, {1 << 32, 1 << 32, 0, 0}, {1 << 33, 1 << 33, 1 << 33, 1 << 33}, {1 << 40, 0, 0, 1 << 40}, {1 << 62, 1 << 62, 1 << 62, 1 << 62}, {math.MinInt, 0, 0, 0}, {math.MinInt, math.MinInt, 0, 0}, {math.MinInt, math.MinInt, math.MinInt, math.MinInt}, {0, 0, math.MaxInt, math.MaxInt}, {math.MaxInt, 0, 0, math.MaxInt},
	}
}

// notQuads are invalid wherever a quad is required.
func notQuads() [][]int {
	return append(wrappedQuads(), [][]int{
		nil, {}, {0}, {3}, {1, 1}, {0, 0}, {2, 2, 3}, {0, 1, 1}, {0, 0, 0}, {-1, 2, 2, 3, 0}, {-1, 2, 2, 3, 3}, {0, 0, 0, 1, 1}, {-1, 2, 2, 3, -1, 2, 2, 3}, repeated(0, 50), {-1, 2, 2}, {2, 2, 3, 15, 2},
		// All 0, or a sum that is not greater than 0.
		{0, 0, 0, 0}, {1, -2, -2, -3}, {-2, -3, -15, -38}, {0, 0, -1, -1}, {-1, 0, 0, -1}, {0, -1, -1, -4}, {0, 0, -impl.MaxCurvature, -impl.MaxCurvature}, {33333, -66666, -66666, -99999}, {-15, -2, -2, -3},
		// The squares do not fit.
		{1, 1, 1, 1}, {1, 2, 3, 4}, {0, 0, 0, 1}, {0, 0, 0, -1}, {1, 0, 0, 0}, {0, 1, 1, 1}, {0, 0, 1, 2}, {-1, 2, 2, 4}, {-1, 2, 2, 2}, {1, 2, 2, 3}, {-1, 2, 3, 3}, {-2, 2, 2, 3}, {-1, -2, 2, 3}, {-1, 2, 2, -3}, {2, 3, 15, 37}, {2, 3, 15, 39}, {-1, 1, 0, 0}, {1, 1, -1, -1}, {5, 5, 5, 0}, repeated(impl.MaxCurvature, 4), {impl.MaxCurvature, 0, 0, 0}, {-46356, 99825, 99896, 99928}, {-impl.MaxCurvature, impl.MaxCurvature, impl.MaxCurvature, impl.MaxCurvature}, {-impl.MaxCurvature, 0, 0, impl.MaxCurvature},
		// All fits, but a number is beyond MaxCurvature.
		{0, 0, impl.MaxCurvature + 1, impl.MaxCurvature + 1}, {100001, 32673, 4064, 13344}, {31985, 100001, 14724, 3296}, {100004, 0, 25001, 25001}, {-33334, 66668, 66668, 100002}, {-100001, 200002, 200002, 300003}, {-1000000, 2000000, 2000000, 3000000}, chainAtLine(316), chainInRing(316), {0, 0, 1 << 30, 1 << 30}, {0, 0, 1 << 61, 1 << 61},
		{math.MaxInt, math.MaxInt, math.MaxInt, math.MaxInt}, {math.MaxInt, 2, 2, -1}, {-1, 2, 2, math.MaxInt}, {-1, 2, 2, math.MinInt}, {math.MinInt, 2, 2, 3}, {math.MaxInt, math.MinInt, 0, 0}, {math.MaxInt, math.MinInt, 1, 1}, {-1, 2, math.MinInt, math.MaxInt},
	}...)
}

func notQuadIndices() []int { return []int{-1, 4, 5, -4, 1 << 32, math.MinInt, math.MaxInt} }

func notOuters() []int { return []int{0, -1, -3, 31, 32, 1 << 32, math.MinInt, math.MaxInt} }

func notAskedCurvatures() []int {
	return []int{0, -1, -500, 501, 1000, 1 << 32, math.MinInt, math.MaxInt}
}

// notSwapWords are too long, or have other numbers than indices.
func notSwapWords() [][]int {
	long := func(index, number int) []int {
		word := repeated(0, impl.MaxWays)
		word[index] = number
		return word
	}
	return [][]int{
		repeated(0, impl.MaxWays+1), repeated(3, impl.MaxWays+1), repeated(3, impl.MaxWays+2), repeated(0, 5000),
		{4}, {-1}, {0, 4}, {4, 0}, {-1, 3}, {3, -1}, {0, 5, 0}, {math.MinInt}, {math.MaxInt}, {0, math.MinInt}, {1 << 32}, long(0, 4), long(199, 4), long(199, -1), long(100, math.MaxInt),
	}
}

func TestConstantsOfChapter6(t *testing.T) {
	got := [3]int{impl.MaxCurvature, impl.MaxOuter, impl.MaxWays}
	if got != [3]int{100000, 30, 200} {
		t.Error(got)
	}
}

func TestIsQuad(t *testing.T) {
	for _, list := range quadPool() {
		if !impl.IsQuad(list) || !isQuadExactly(list) {
			t.Errorf("%v is not told as a quad", list)
		}
	}
	for _, list := range notQuads() {
		if impl.IsQuad(list) || isQuadExactly(list) {
			t.Errorf("%v is told as a quad", list)
		}
	}
}

func TestIsQuadBeyondAnInt(t *testing.T) {
	for _, list := range wrappedQuads() {
		if !fitsModuloWords(list) {
			t.Error("this is no test:", list)
		}
		if impl.IsQuad(list) {
			t.Errorf("%v is told as a quad", list)
		}
	}
}

func TestIsQuadOfAllLessNumbers(t *testing.T) {
	for a := -6; a <= 15; a++ {
		for b := -6; b <= 15; b++ {
			for c := -6; c <= 15; c++ {
				for d := -6; d <= 15; d++ {
					list := []int{a, b, c, d}
					sum := a + b + c + d
					want := sum > 0 && 2*(a*a+b*b+c*c+d*d) == sum*sum
					if impl.IsQuad(list) != want {
						t.Errorf("IsQuad%v is %v", list, !want)
					}
				}
			}
		}
	}
}

func TestChapter6RefusesWhatIsNoQuad(t *testing.T) {
	for _, list := range notQuads() {
		name := fmt.Sprint(list)
		for i := range 4 {
			got, ok := impl.SwapAt(list, i)
			wantNoList(t, name, got, ok)
		}
		answer, ok := impl.IsRoot(list)
		wantNoAnswer(t, name, answer, ok)
		number, ok := impl.DownSwap(list)
		wantNoNumber(t, name, number, ok)
		wantNoDown(t, list)
		for _, word := range [][]int{nil, {}, {0}, {3, 2, 1}} {
			got, ok := impl.FollowSwaps(list, word)
			wantNoList(t, name, got, ok)
		}
		number, ok = impl.ScaleOf(list)
		wantNoNumber(t, name, number, ok)
		wantNoCircles(t, list, 1)
		wantNoCircles(t, list, 500)
		got, ok := impl.ResiduesOf(list)
		wantNoList(t, name, got, ok)
	}
}

func wantNoDown(t *testing.T, list []int) {
	t.Helper()
	name := fmt.Sprint(list)
	path, ok := impl.DownPath(list)
	wantNoLists(t, name, path, ok)
	word, ok := impl.DownWord(list)
	wantNoList(t, name, word, ok)
	root, ok := impl.RootQuad(list)
	wantNoList(t, name, root, ok)
}

func wantNoCircles(t *testing.T, list []int, most int) {
	t.Helper()
	name := fmt.Sprint(list, most)
	curvatures, ok := impl.CurvaturesUpTo(list, most)
	wantNoList(t, name, curvatures, ok)
	count, ok := impl.CountUpTo(list, most)
	wantNoNumber(t, name, count, ok)
}

// wantDown has the path and the word of a quad as the document tells them.
func wantDown(t *testing.T, list []int, path [][]int, word []int) {
	t.Helper()
	name := fmt.Sprint(list)
	gotPath, ok := impl.DownPath(list)
	wantLists(t, name, gotPath, ok, path)
	gotWord, ok := impl.DownWord(list)
	wantList(t, name, gotWord, ok, word)
	root, ok := impl.RootQuad(list)
	wantList(t, name, root, ok, inOrder(path[len(path)-1]))
}

func TestSwapAt(t *testing.T) {
	for _, c := range []struct {
		list []int
		i    int
		want []int
	}{
		{[]int{-1, 2, 2, 3}, 0, []int{15, 2, 2, 3}}, {[]int{-1, 2, 2, 3}, 1, []int{-1, 6, 2, 3}}, {[]int{-1, 2, 2, 3}, 2, []int{-1, 2, 6, 3}}, {[]int{-1, 2, 2, 3}, 3, []int{-1, 2, 2, 3}},
		{[]int{2, 3, 15, 38}, 3, []int{2, 3, 15, 2}}, {[]int{2, 3, 15, 2}, 2, []int{2, 3, -1, 2}}, {[]int{2, 3, 15, 38}, 0, []int{110, 3, 15, 38}},
		{[]int{0, 0, 1, 1}, 0, []int{4, 0, 1, 1}}, {[]int{0, 0, 1, 1}, 1, []int{0, 4, 1, 1}}, {[]int{0, 0, 1, 1}, 2, []int{0, 0, 1, 1}}, {[]int{0, 1, 4, 9}, 3, []int{0, 1, 4, 1}}, {[]int{0, 1, 4, 9}, 0, []int{28, 1, 4, 9}},
		{[]int{-2, 4, 4, 6}, 0, []int{30, 4, 4, 6}}, {[]int{0, 0, impl.MaxCurvature, impl.MaxCurvature}, 2, []int{0, 0, impl.MaxCurvature, impl.MaxCurvature}},
	} {
		got, ok := impl.SwapAt(c.list, c.i)
		wantList(t, fmt.Sprint(c.list, c.i), got, ok, c.want)
	}
}

// TestSwapAtMaxCurvature has quads that a swap leads to MaxCurvature, and to one more, at each index.
func TestSwapAtMaxCurvature(t *testing.T) {
	for _, c := range []struct {
		list  []int
		i     int
		to    int
		valid bool
	}{
		{[]int{17493, 48, 2596, 33757}, 2, 100000, true}, {[]int{41404, 67525, 21, 3156}, 0, 100000, true}, {[]int{0, 0, 25000, 25000}, 0, 100000, true}, {[]int{0, 0, 25000, 25000}, 1, 100000, true}, {[]int{46943, 2142, 326, 71003}, 0, 99999, true},
		{[]int{161, 32673, 4064, 13344}, 0, 100001, false}, {[]int{31985, 9, 14724, 3296}, 1, 100001, false}, {[]int{10593, 6212, 33228, 65}, 3, 100001, false}, {[]int{0, 0, 25001, 25001}, 0, 100004, false}, {[]int{0, 0, 100000, 100000}, 1, 400000, false}, {[]int{-46356, 99825, 99896, 99929}, 0, 645656, false},
	} {
		for by := range 4 {
			list, i := rotated(c.list, by), (c.i-by+4)%4
			want := slices.Clone(list)
			want[i] = c.to
			got, ok := impl.SwapAt(list, i)
			if !c.valid {
				wantNoList(t, fmt.Sprint(list, i), got, ok)
				continue
			}
			wantList(t, fmt.Sprint(list, i), got, ok, want)
			back, ok := impl.SwapAt(want, i)
			wantList(t, fmt.Sprint(want, i), back, ok, list)
		}
	}
}

func TestInvalidSwaps(t *testing.T) {
	for _, i := range notQuadIndices() {
		for _, list := range quadPool() {
			got, ok := impl.SwapAt(list, i)
			wantNoList(t, fmt.Sprint(list, i), got, ok)
		}
		m, ok := impl.SwapMatrix(i)
		wantNoMatrix(t, fmt.Sprint(i), m, ok)
	}
}

// TestPromise6SwapsKeepTheFormAndUndoThemselves tries all swaps of all quads with less numbers, and of great ones.
func TestPromise6SwapsKeepTheFormAndUndoThemselves(t *testing.T) {
	form := impl.DescartesForm()
	for _, list := range append(quadsFrom(-12, 30), quadPool()...) {
		value, ok := impl.FormAt(form, list)
		wantNumber(t, fmt.Sprint(list), value, ok, 0)
		for i := range 4 {
			name := fmt.Sprint(list, i)
			got, ok := impl.SwapAt(list, i)
			want := swappedAt(list, i)
			if want[i] > impl.MaxCurvature {
				wantNoList(t, name, got, ok)
				continue
			}
			wantList(t, name, got, ok, want)
			value, ok := impl.FormAt(form, got)
			wantNumber(t, name, value, ok && impl.IsQuad(got), 0)
			back, ok := impl.SwapAt(got, i)
			wantList(t, name, back, ok, list)
			before, _ := impl.ScaleOf(list)
			after, ok := impl.ScaleOf(got)
			wantNumber(t, name, after, ok, before)
		}
	}
}

// isRootByAllSwaps tries all swaps.
func isRootByAllSwaps(list []int) bool {
	for i := range list {
		if sumOf(swappedAt(list, i)) < sumOf(list) {
			return false
		}
	}
	return true
}

func TestIsRoot(t *testing.T) {
	for _, c := range []struct {
		list []int
		want bool
	}{
		{[]int{-1, 2, 2, 3}, true}, {[]int{2, 3, -1, 2}, true}, {[]int{-2, 3, 6, 7}, true}, {[]int{-3, 5, 8, 8}, true}, {[]int{8, -3, 8, 5}, true}, {[]int{0, 0, 1, 1}, true}, {[]int{1, 0, 0, 1}, true}, {[]int{0, 0, impl.MaxCurvature, impl.MaxCurvature}, true}, {[]int{-2, 4, 4, 6}, true}, {[]int{-46356, 99825, 99896, 99929}, true}, {[]int{-4, 8, 9, 9}, true},
		{[]int{15, 2, 2, 3}, false}, {[]int{2, 3, 15, 38}, false}, {[]int{-1, 2, 3, 6}, false}, {[]int{-1, 6, 2, 3}, false}, {[]int{0, 1, 1, 4}, false}, {[]int{4, 0, 1, 1}, false}, {[]int{12, 5, 8, -3}, false}, {[]int{1, 4, 12, 33}, false}, {[]int{30, 4, 4, 6}, false}, {[]int{impl.MaxCurvature, 0, 25000, 25000}, false}, {chainInRing(315), false},
	} {
		got, ok := impl.IsRoot(c.list)
		wantAnswer(t, fmt.Sprint(c.list), got, ok, c.want)
	}
	for _, list := range append(quadsFrom(-12, 30), quadPool()...) {
		got, ok := impl.IsRoot(list)
		wantAnswer(t, fmt.Sprint(list), got, ok, isRootByAllSwaps(list))
	}
}

func TestDownSwap(t *testing.T) {
	for _, c := range []struct {
		list []int
		want int
	}{
		{[]int{2, 3, 15, 38}, 3}, {[]int{2, 3, 15, 2}, 2}, {[]int{15, 2, 2, 3}, 0}, {[]int{-1, 6, 2, 3}, 1}, {[]int{4, 0, 1, 1}, 0}, {[]int{0, 1, 1, 4}, 3}, {[]int{1, 4, 12, 33}, 3}, {[]int{impl.MaxCurvature, 0, 25000, 25000}, 0}, {[]int{17493, 48, impl.MaxCurvature, 33757}, 2}, {chainInRing(315), 3}, {rotated(chainAtLine(315), 1), 2},
	} {
		got, ok := impl.DownSwap(c.list)
		wantNumber(t, fmt.Sprint(c.list), got, ok, c.want)
	}
	equal := 0
	for _, list := range append(quadsFrom(-12, 30), quadPool()...) {
		greatest := slices.Max(list)
		i := slices.Index(list, greatest)
		if slices.Contains(list[i+1:], greatest) {
			// Two equal greatest numbers are not greater than the sum of the others, so that the least index is that of no swap down.
			equal++
		}
		got, ok := impl.DownSwap(list)
		if sumOf(swappedAt(list, i)) >= sumOf(list) {
			wantNoNumber(t, fmt.Sprint(list), got, ok)
			continue
		}
		wantNumber(t, fmt.Sprint(list), got, ok, i)
	}
	if equal < 100 {
		t.Error("this is no test:", equal)
	}
}

func TestDownPaths(t *testing.T) {
	for _, c := range []struct {
		path [][]int
		word []int
	}{
		{[][]int{{2, 3, 15, 38}, {2, 3, 15, 2}, {2, 3, -1, 2}}, []int{3, 2}},
		{[][]int{{-1, 2, 2, 3}}, nil},
		{[][]int{{3, 2, 2, -1}}, nil},
		{[][]int{{8, 5, 8, -3}}, nil},
		{[][]int{{0, 0, 1, 1}}, nil},
		{[][]int{{0, 0, impl.MaxCurvature, impl.MaxCurvature}}, nil},
		{[][]int{{0, 1, 4, 9}, {0, 1, 4, 1}, {0, 1, 0, 1}}, []int{3, 2}},
		{[][]int{{28, 1, 4, 9}, {0, 1, 4, 9}, {0, 1, 4, 1}, {0, 1, 0, 1}}, []int{0, 3, 2}},
		{[][]int{{impl.MaxCurvature, 0, 25000, 25000}, {0, 0, 25000, 25000}}, []int{0}},
		{[][]int{{6, 9, 45, 114}, {6, 9, 45, 6}, {6, 9, -3, 6}}, []int{3, 2}},
		{[][]int{{1, 4, 12, 33}, {1, 4, 12, 1}, {1, 4, 0, 1}, {1, 0, 0, 1}}, []int{3, 2, 1}},
	} {
		wantDown(t, c.path[0], c.path, c.word)
	}
	for _, list := range append(quadsFrom(-12, 30), append(someQuads(), greatQuads()...)...) {
		path, word := downFrom(list)
		wantDown(t, list, path, word)
	}
}

func TestPathsOfMaxWays(t *testing.T) {
	for _, chain := range []func(n int) []int{chainAtLine, chainInRing} {
		for n := range 316 {
			for by := range 4 {
				list := rotated(chain(n), by)
				path, word := downFrom(list)
				if len(path) != n+1 || len(word) != n || !impl.IsQuad(list) {
					t.Fatal("this is no test:", list, len(path))
				}
				if len(path) > impl.MaxWays {
					wantNoDown(t, list)
					continue
				}
				wantDown(t, list, path, word)
			}
		}
	}
	for _, list := range longChains() {
		if path, _ := downFrom(list); len(path) <= impl.MaxWays {
			t.Error("this is no test:", list)
		}
		wantNoDown(t, list)
	}
}

func TestFollowSwaps(t *testing.T) {
	for _, c := range []struct {
		list, word, want []int
	}{
		{[]int{2, 3, 15, 38}, []int{3, 2}, []int{2, 3, -1, 2}}, {[]int{2, 3, -1, 2}, []int{2, 3}, []int{2, 3, 15, 38}}, {[]int{2, 3, -1, 2}, []int{3, 2}, []int{2, 3, 23, 6}},
		{[]int{2, 3, 15, 38}, nil, []int{2, 3, 15, 38}}, {[]int{3, 2, 2, -1}, []int{}, []int{3, 2, 2, -1}}, {[]int{0, 0, 1, 1}, []int{3, 2, 3, 2}, []int{0, 0, 1, 1}}, {[]int{0, 0, 1, 1}, []int{0, 1, 2, 3}, []int{4, 12, 33, 97}},
		{[]int{-1, 2, 2, 3}, repeated(0, impl.MaxWays), []int{-1, 2, 2, 3}}, {[]int{-1, 2, 2, 3}, repeated(0, impl.MaxWays-1), []int{15, 2, 2, 3}}, {[]int{-1, 2, 2, 3}, append(repeated(0, impl.MaxWays-1), 1), []int{15, 38, 2, 3}},
		{[]int{0, 0, 25000, 25000}, []int{0, 0}, []int{0, 0, 25000, 25000}}, {[]int{0, 0, 25000, 25000}, []int{0, 0, 1}, []int{0, impl.MaxCurvature, 25000, 25000}}, {[]int{41404, 67525, 21, 3156}, []int{0, 0, 0}, []int{100000, 67525, 21, 3156}},
		{chainInRing(199), []int{3, 3, 2, 2}, chainInRing(199)},
	} {
		got, ok := impl.FollowSwaps(c.list, c.word)
		wantList(t, fmt.Sprint(c.list, c.word), got, ok, c.want)
	}
}

// TestFollowSwapsUpLongChains has words of MaxWays swaps, of one more, and all shorter ones.
func TestFollowSwapsUpLongChains(t *testing.T) {
	for _, chain := range []func(n int) []int{chainAtLine, chainInRing} {
		for n := range 230 {
			path, word := downFrom(chain(n))
			root := path[len(path)-1]
			slices.Reverse(word)
			up, ok := impl.FollowSwaps(root, word)
			down, okDown := impl.FollowSwaps(chain(n), reversed(word))
			name := fmt.Sprint(chain(n), len(word))
			if n > impl.MaxWays {
				wantNoList(t, name, up, ok)
				wantNoList(t, name, down, okDown)
				continue
			}
			wantList(t, name, up, ok, chain(n))
			wantList(t, name, down, okDown, root)
		}
	}
}

func TestSwapsThatCannotBeFollowed(t *testing.T) {
	around := slices.Repeat([]int{0, 1, 2, 3}, impl.MaxWays/4)
	for _, c := range []struct{ list, word []int }{
		// A number is too great on the way, too.
		{[]int{0, 0, 25001, 25001}, []int{0}}, {[]int{0, 0, 25001, 25001}, []int{0, 0}}, {[]int{0, 0, 25001, 25001}, []int{2, 3, 1, 1, 0}}, {[]int{161, 32673, 4064, 13344}, []int{0}}, {[]int{161, 32673, 4064, 13344}, []int{0, 0}}, {[]int{31985, 9, 14724, 3296}, []int{1, 1, 1}},
		// The numbers would pass what an int holds.
		{[]int{-1, 2, 2, 3}, around}, {[]int{0, 0, 1, 1}, around}, {[]int{-46356, 99825, 99896, 99929}, around}, {[]int{3, 2, 2, -1}, reversed(around)}, {[]int{-1, 2, 2, 3}, append(slices.Clone(around[:80]), reversed(around[:80])...)},
	} {
		got, ok := impl.FollowSwaps(c.list, c.word)
		wantNoList(t, fmt.Sprint(c.list, c.word), got, ok)
	}
	for _, word := range notSwapWords() {
		for _, list := range [][]int{{-1, 2, 2, 3}, {0, 0, 1, 1}, {-46356, 99825, 99896, 99929}, chainInRing(300)} {
			got, ok := impl.FollowSwaps(list, word)
			wantNoList(t, fmt.Sprint(list, word), got, ok)
		}
	}
}

func divisorOfQuad(list []int) int {
	divisor := divisorOf(divisorOf(list[0], list[1]), divisorOf(list[2], list[3]))
	return max(divisor, -divisor)
}

func TestScaleOf(t *testing.T) {
	for _, c := range []struct {
		list []int
		want int
	}{
		{[]int{-1, 2, 2, 3}, 1}, {[]int{2, 3, 15, 38}, 1}, {[]int{0, 0, 1, 1}, 1}, {[]int{-2, 4, 4, 6}, 2}, {[]int{-2, 3, 6, 7}, 1}, {[]int{0, 0, 7, 7}, 7}, {[]int{7, 0, 7, 0}, 7}, {[]int{6, 9, 45, 114}, 3}, {[]int{-33333, 66666, 66666, 99999}, 33333}, {[]int{0, 0, impl.MaxCurvature, impl.MaxCurvature}, impl.MaxCurvature}, {[]int{impl.MaxCurvature, 0, 25000, 25000}, 25000}, {chainInRing(315), 1}, {inTimes(chainAtLine(200), 2), 2},
	} {
		got, ok := impl.ScaleOf(c.list)
		wantNumber(t, fmt.Sprint(c.list), got, ok, c.want)
	}
	for _, list := range append(quadsFrom(-12, 30), quadPool()...) {
		got, ok := impl.ScaleOf(list)
		wantNumber(t, fmt.Sprint(list), got, ok, divisorOfQuad(list))
	}
}

// rootsByTrying has no rule but the equation: it tries all numbers that do not fall up to a bound.
func rootsByTrying(outer, most int) [][]int {
	var roots [][]int
	for b := -outer; b <= most; b++ {
		for c := b; c <= most; c++ {
			for d := c; d <= most; d++ {
				list := []int{-outer, b, c, d}
				sum := sumOf(list)
				if sum > 0 && 2*(outer*outer+b*b+c*c+d*d) == sum*sum && isRootByAllSwaps(list) && divisorOfQuad(list) == 1 {
					roots = append(roots, list)
				}
			}
		}
	}
	return roots
}

// rootsByDivisors has all products d e that are n n + m m with 2 m <= d <= e: each of them tells one root.
func rootsByDivisors(n int) [][]int {
	var roots [][]int
	for m := 0; 3*m*m <= n*n; m++ {
		product := n*n + m*m
		for d := max(1, 2*m); d*d <= product; d++ {
			e := product / d
			list := []int{-n, n + d, n + e, n + d + e - 2*m}
			if product%d == 0 && divisorOfQuad(list) == 1 {
				roots = append(roots, list)
			}
		}
	}
	slices.SortFunc(roots, slices.Compare[[]int])
	return roots
}

func TestRootsWith(t *testing.T) {
	for outer, want := range map[int][][]int{
		1: {{-1, 2, 2, 3}},
		2: {{-2, 3, 6, 7}},
		3: {{-3, 4, 12, 13}, {-3, 5, 8, 8}},
		4: {{-4, 5, 20, 21}, {-4, 8, 9, 9}},
		5: {{-5, 6, 30, 31}, {-5, 7, 18, 18}},
		6: {{-6, 7, 42, 43}, {-6, 10, 15, 19}, {-6, 11, 14, 15}},
	} {
		got, ok := impl.RootsWith(outer)
		wantLists(t, fmt.Sprint(outer), got, ok, want)
	}
	for outer := 1; outer <= 8; outer++ {
		got, ok := impl.RootsWith(outer)
		wantLists(t, fmt.Sprint(outer), got, ok, rootsByTrying(outer, outer*outer+outer+5))
	}
	for outer := 1; outer <= impl.MaxOuter; outer++ {
		got, ok := impl.RootsWith(outer)
		wantLists(t, fmt.Sprint(outer), got, ok, rootsByDivisors(outer))
	}
}

// TestCountsOfRoots holds the number of roots against that of classes of forms with the discriminant -4 n n.
func TestCountsOfRoots(t *testing.T) {
	for outer := 2; outer <= impl.MaxOuter; outer++ {
		classes, power := outer, 2
		for p := 2; p <= outer; p++ {
			if outer%p != 0 || len(primesOf(p)) != 1 {
				continue
			}
			// An odd prime number that leaves 1 by 4 counts less, one that leaves 3 more.
			classes = classes / p * (p - (2-p%4)%2)
			power *= 2
		}
		if outer%4 == 2 {
			power /= 2
		}
		got, ok := impl.RootsWith(outer)
		wantNumber(t, fmt.Sprint(outer), 4*len(got), ok, classes+power)
	}
}

// primesOf returns the prime numbers that make a number as their product.
func primesOf(n int) []int {
	var primes []int
	for p := 2; n > 1; p++ {
		for n%p == 0 {
			primes = append(primes, p)
			n /= p
		}
	}
	return primes
}

func TestAllRootsUpTo(t *testing.T) {
	var all [][]int
	for outer := 1; outer <= impl.MaxOuter; outer++ {
		all = append(all, rootsByDivisors(outer)...)
		got, ok := impl.AllRootsUpTo(outer)
		wantLists(t, fmt.Sprint(outer), got, ok, all)
	}
	if len(all) != 163 || !slices.Equal(all[0], []int{-1, 2, 2, 3}) || all[162][0] != -30 {
		t.Error("this is no test:", len(all))
	}
}

func TestInvalidOuters(t *testing.T) {
	for _, outer := range notOuters() {
		got, ok := impl.RootsWith(outer)
		wantNoLists(t, fmt.Sprint(outer), got, ok)
		got, ok = impl.AllRootsUpTo(outer)
		wantNoLists(t, fmt.Sprint(outer), got, ok)
	}
}

// fourCircles tells each circle by how many of each of the four circles of the root it is made of by swaps: circles that are made so in the same way are the same, and others are not.
type fourCircles [4][4]int

// curvaturesByCircles returns a curvature for each circle of the packing that has one up to most. It goes through all configurations whose circles have curvatures of at most beyond more, by all swaps, back ones too.
func curvaturesByCircles(root []int, most, beyond int) []int {
	curvature := func(circle [4]int) int {
		return root[0]*circle[0] + root[1]*circle[1] + root[2]*circle[2] + root[3]*circle[3]
	}
	start := fourCircles{{1, 0, 0, 0}, {0, 1, 0, 0}, {0, 0, 1, 0}, {0, 0, 0, 1}}
	circles := map[[4]int]bool{start[0]: true, start[1]: true, start[2]: true, start[3]: true}
	met := map[fourCircles]bool{start: true}
	waiting := []fourCircles{start}
	for next := 0; next < len(waiting); next++ {
		for i := range 4 {
			four := waiting[next]
			for j := range 4 {
				column := four[0][j] + four[1][j] + four[2][j] + four[3][j]
				four[i][j] = 2*column - 3*four[i][j]
			}
			if curvature(four[i]) <= most+beyond && !met[four] {
				met[four], circles[four[i]] = true, true
				waiting = append(waiting, four)
			}
		}
	}
	var curvatures []int
	for circle := range circles {
		if curvature(circle) <= most {
			curvatures = append(curvatures, curvature(circle))
		}
	}
	slices.Sort(curvatures)
	return curvatures
}

func wantCircles(t *testing.T, list []int, most int, want []int) {
	t.Helper()
	name := fmt.Sprint(list, most)
	count, ok := impl.CountUpTo(list, most)
	wantNumber(t, name, count, ok, len(want))
	curvatures, ok := impl.CurvaturesUpTo(list, most)
	wantList(t, name, curvatures, ok, slices.Compact(slices.Clone(want)))
}

func TestCirclesUpTo(t *testing.T) {
	for _, c := range []struct {
		list []int
		most int
		want []int
	}{
		{[]int{-1, 2, 2, 3}, 1, []int{-1}}, {[]int{-1, 2, 2, 3}, 2, []int{-1, 2, 2}}, {[]int{-1, 2, 2, 3}, 3, []int{-1, 2, 2, 3, 3}}, {[]int{-1, 2, 2, 3}, 5, []int{-1, 2, 2, 3, 3}},
		{[]int{-1, 2, 2, 3}, 15, []int{-1, 2, 2, 3, 3, 6, 6, 6, 6, 11, 11, 11, 11, 14, 14, 14, 14, 15, 15}}, {[]int{2, 3, 15, 38}, 6, []int{-1, 2, 2, 3, 3, 6, 6, 6, 6}},
		{[]int{-2, 3, 6, 7}, 1, []int{-2}}, {[]int{-2, 3, 6, 7}, 6, []int{-2, 3, 6}}, {[]int{-2, 3, 6, 7}, 10, []int{-2, 3, 6, 7, 7, 10, 10}}, {[]int{-2, 4, 4, 6}, 1, []int{-2}}, {[]int{-2, 4, 4, 6}, 6, []int{-2, 4, 4, 6, 6}}, {[]int{-2, 4, 4, 6}, 7, []int{-2, 4, 4, 6, 6}},
		{[]int{-30, 60, 60, 90}, 59, []int{-30}}, {[]int{-30, 60, 60, 90}, 60, []int{-30, 60, 60}}, {[]int{-166, 332, 332, 498}, 500, []int{-166, 332, 332, 498, 498}}, {[]int{-250, 500, 500, 750}, 500, []int{-250, 500, 500}}, {[]int{-250, 500, 500, 750}, 499, []int{-250}},
		{[]int{-33333, 66666, 66666, 99999}, 1, []int{-33333}}, {[]int{-33333, 66666, 66666, 99999}, 500, []int{-33333}}, {[]int{99929, 99896, -46356, 99825}, 500, []int{-46356}},
	} {
		wantCircles(t, c.list, c.most, c.want)
	}
}

func TestCirclesOfManyPackings(t *testing.T) {
	var roots [][]int
	for outer := 1; outer <= impl.MaxOuter; outer++ {
		roots = append(roots, rootsByDivisors(outer)...)
	}
	roots = append(roots, []int{-2, 4, 4, 6}, []int{-4, 6, 12, 14}, []int{-9, 15, 24, 24}, []int{-50, 100, 100, 150})
	for _, root := range roots {
		all := curvaturesByCircles(root, 500, 150)
		for most := 1; most <= 500; most++ {
			if most > 40 && most < 495 && most%97 != 0 {
				continue
			}
			end, _ := slices.BinarySearch(all, most+1)
			wantCircles(t, root, most, all[:end])
		}
	}
}

// TestPromise6CirclesBelongToThePacking asks with other quads of the same packing, also such as are more than MaxWays quads above the root.
func TestPromise6CirclesBelongToThePacking(t *testing.T) {
	for _, list := range slices.Concat(someQuads(), greatQuads(), longChains(), quadsFrom(-8, 24)) {
		path, _ := downFrom(list)
		root := inOrder(path[len(path)-1])
		if root[0] >= 0 {
			wantNoCircles(t, list, 1)
			wantNoCircles(t, list, 60)
			wantNoCircles(t, list, 500)
			continue
		}
		for _, most := range []int{1, 7, 60} {
			wantCircles(t, list, most, curvaturesByCircles(root, most, 0))
		}
	}
}

func TestInvalidCurvatures(t *testing.T) {
	for _, most := range notAskedCurvatures() {
		for _, list := range [][]int{{-1, 2, 2, 3}, {2, 3, 15, 38}, {0, 0, 1, 1}, {-33333, 66666, 66666, 99999}, nil} {
			wantNoCircles(t, list, most)
		}
	}
}

// kindsOfResidues are all that there are.
func kindsOfResidues() [][]int {
	return [][]int{
		{0, 1, 4, 9, 12, 16}, {0, 5, 8, 12, 20, 21}, {0, 4, 12, 13, 16, 21}, {0, 8, 9, 12, 17, 20},
		{3, 6, 7, 10, 15, 18, 19, 22}, {2, 3, 6, 11, 14, 15, 18, 23},
	}
}

// residuesByTree goes up from a quad by swaps, without a bound for the numbers.
func residuesByTree(list []int, swaps int) []int {
	met := map[int]bool{}
	var visit func(list []int, last, swaps int)
	visit = func(list []int, last, swaps int) {
		for i, number := range list {
			met[(number%24+24)%24] = true
			if i != last && swaps > 0 {
				visit(swappedAt(list, i), i, swaps-1)
			}
		}
	}
	visit(list, -1, swaps)
	var residues []int
	for residue := range 24 {
		if met[residue] {
			residues = append(residues, residue)
		}
	}
	return residues
}

func TestResiduesOf(t *testing.T) {
	for i, lists := range [][][]int{
		{{0, 0, 1, 1}, {0, 1, 4, 9}, {28, 1, 4, 9}, chainAtLine(315)},
		{{-3, 5, 8, 8}, {8, 45, 5, 8}, {-4, 5, 20, 21}},
		{{-3, 4, 12, 13}, {12, 13, 4, -3}, {17493, 48, impl.MaxCurvature, 33757}},
		{{-4, 8, 9, 9}, {-7, 8, 56, 57}, {161, 32673, 4064, 13344}},
		{{-2, 3, 6, 7}, {-5, 6, 30, 31}, {-5, 7, 18, 18}},
		{{-1, 2, 2, 3}, {2, 3, 15, 38}, {-6, 11, 14, 15}, chainInRing(315), {-9, 11, 50, 50}},
	} {
		for _, list := range lists {
			got, ok := impl.ResiduesOf(list)
			wantList(t, fmt.Sprint(list), got, ok, kindsOfResidues()[i])
		}
	}
	for _, list := range slices.Concat(someQuads(), greatQuads(), longChains(), rootsByDivisors(29), rootsByDivisors(30), quadsFrom(-4, 16)) {
		got, ok := impl.ResiduesOf(list)
		if divisorOfQuad(list) != 1 {
			wantNoList(t, fmt.Sprint(list), got, ok)
			continue
		}
		wantList(t, fmt.Sprint(list), got, ok, residuesByTree(list, 6))
	}
}

func TestResiduesAreOfSixKinds(t *testing.T) {
	found := make([]int, 6)
	for outer := 1; outer <= impl.MaxOuter; outer++ {
		for _, root := range rootsByDivisors(outer) {
			got, ok := impl.ResiduesOf(root)
			kind := slices.IndexFunc(kindsOfResidues(), func(want []int) bool { return slices.Equal(got, want) })
			if !ok || kind < 0 {
				t.Errorf("%v: %v %v", root, got, ok)
				continue
			}
			found[kind]++
		}
	}
	// The first kind is, among others, that of two lines with circles between them.
	if slices.Contains(found[1:], 0) || sumOf(found) != 163 {
		t.Error("this is no test:", found)
	}
}

func TestSwapMatrix(t *testing.T) {
	for i, want := range []impl.Matrix{
		matrix([]int{-1, 2, 2, 2}, []int{0, 1, 0, 0}, []int{0, 0, 1, 0}, []int{0, 0, 0, 1}),
		matrix([]int{1, 0, 0, 0}, []int{2, -1, 2, 2}, []int{0, 0, 1, 0}, []int{0, 0, 0, 1}),
		matrix([]int{1, 0, 0, 0}, []int{0, 1, 0, 0}, []int{2, 2, -1, 2}, []int{0, 0, 0, 1}),
		matrix([]int{1, 0, 0, 0}, []int{0, 1, 0, 0}, []int{0, 0, 1, 0}, []int{2, 2, 2, -1}),
	} {
		got, ok := impl.SwapMatrix(i)
		wantMatrix(t, fmt.Sprint(i), got, ok, want)
	}
}

func TestDescartesForm(t *testing.T) {
	want := matrix([]int{-1, 1, 1, 1}, []int{1, -1, 1, 1}, []int{1, 1, -1, 1}, []int{1, 1, 1, -1})
	wantMatrix(t, "form", impl.DescartesForm(), true, want)
	for _, v := range [][]int{{0, 0, 0, 0}, {1, 0, 0, 0}, {1, 2, 3, 4}, {-5, 3, 0, 7}, {1000000, -1000000, 999999, 5}, {1, 1, 1, 1}, {-1, 2, 2, 4}} {
		squares := v[0]*v[0] + v[1]*v[1] + v[2]*v[2] + v[3]*v[3]
		got, ok := impl.FormAt(impl.DescartesForm(), v)
		wantNumber(t, fmt.Sprint(v), got, ok, sumOf(v)*sumOf(v)-2*squares)
	}
}

func TestPromise6MatricesKeepTheFormOfDescartes(t *testing.T) {
	form := impl.DescartesForm()
	var generators []impl.Matrix
	for i := range 4 {
		m, _ := impl.SwapMatrix(i)
		generators = append(generators, m)
		keeps, ok := impl.KeepsForm(m, form)
		wantAnswer(t, fmt.Sprint(i), keeps, ok, true)
		square, ok := impl.MultiplyMatrices(m, m)
		wantMatrix(t, fmt.Sprint(i), square, ok, unit(4))
		for _, list := range append(quadPool(), quadsFrom(-8, 24)...) {
			image, isVector := impl.ApplyMatrix(m, list)
			got, ok := impl.SwapAt(list, i)
			if !isVector || isQuadExactly(image) != ok {
				t.Errorf("%v %d: %v %v but %v %v", list, i, image, isVector, got, ok)
			}
			if ok {
				wantList(t, fmt.Sprint(list, i), image, isVector, got)
			}
		}
	}
	for _, word := range [][]int{{}, {0, 1}, {3, 2, 1, 0}, {0, 1, 2, 3, 0, 1}, {2, 0, 2, 0, 2, 0, 2, 0}, {1, 3, 0, 2, 1}} {
		// The first swap stands last, as it is applied first.
		product, ok := impl.WordMatrix(generators, reversed(word))
		keeps, okKeeps := impl.KeepsForm(product, form)
		wantAnswer(t, fmt.Sprint(word), keeps, ok && okKeeps, true)
		image, ok := impl.ApplyMatrix(product, []int{-1, 2, 2, 3})
		got, _ := impl.FollowSwaps([]int{-1, 2, 2, 3}, word)
		wantList(t, fmt.Sprint(word), image, ok, got)
	}
}

// TestPromise6EachQuadComesToOneRoot goes down and up again.
func TestPromise6EachQuadComesToOneRoot(t *testing.T) {
	for _, list := range slices.Concat(someQuads(), greatQuads(), quadsFrom(-12, 30)) {
		name := fmt.Sprint(list)
		path, ok := impl.DownPath(list)
		if !ok || !slices.Equal(path[0], list) {
			t.Errorf("%s: the path is %v %v", name, path, ok)
			continue
		}
		last := path[len(path)-1]
		isRoot, ok := impl.IsRoot(last)
		wantAnswer(t, name, isRoot, ok, true)
		for step, quad := range path[1:] {
			isRoot, ok := impl.IsRoot(path[step])
			wantAnswer(t, name, isRoot, ok, false)
			if sumOf(quad) >= sumOf(path[step]) {
				t.Errorf("%s: the sum does not fall from %v to %v", name, path[step], quad)
			}
		}
		word, _ := impl.DownWord(list)
		down, ok := impl.FollowSwaps(list, word)
		wantList(t, name, down, ok, last)
		up, ok := impl.FollowSwaps(last, reversed(word))
		wantList(t, name, up, ok, list)
		root, ok := impl.RootQuad(list)
		wantList(t, name, root, ok, inOrder(last))
		again, ok := impl.RootQuad(root)
		wantList(t, name, again, ok, root)
	}
}

// TestPromise6AllQuadsAboveARootComeBackToIt climbs by all words, so that no quad has two roots.
func TestPromise6AllQuadsAboveARootComeBackToIt(t *testing.T) {
	roots := append(rootsByDivisors(1), []int{0, 0, 1, 1}, []int{-2, 4, 4, 6})
	for outer := 2; outer <= 6; outer++ {
		roots = append(roots, rootsByDivisors(outer)...)
	}
	for _, root := range roots {
		quads := [][]int{root}
		for next := 0; next < len(quads); next++ {
			got, ok := impl.RootQuad(quads[next])
			wantList(t, fmt.Sprint(quads[next]), got, ok, root)
			for i := range 4 {
				if up := swappedAt(quads[next], i); up[i] <= 300 && sumOf(up) > sumOf(quads[next]) {
					quads = append(quads, up)
				}
			}
		}
		if len(quads) < 20 {
			t.Error("this is no test:", root, len(quads))
		}
	}
}

func TestPromise11OfQuads(t *testing.T) {
	words := append(notSwapWords(), nil, []int{}, []int{0}, []int{3, 2}, []int{0, 1, 2, 3}, repeated(0, impl.MaxWays), repeated(3, impl.MaxWays), slices.Repeat([]int{0, 1, 2, 3}, 50))
	for _, list := range append(quadPool(), notQuads()...) {
		checkTotal(t, "IsQuad", impl.IsQuad, list)
		checkTotal(t, "IsRoot", impl.IsRoot, list)
		checkTotal(t, "DownSwap", impl.DownSwap, list)
		checkTotal(t, "DownPath", impl.DownPath, list)
		checkTotal(t, "DownWord", impl.DownWord, list)
		checkTotal(t, "RootQuad", impl.RootQuad, list)
		checkTotal(t, "ScaleOf", impl.ScaleOf, list)
		checkTotal(t, "ResiduesOf", impl.ResiduesOf, list)
		for _, i := range append(notQuadIndices(), 0, 1, 2, 3) {
			checkTotal(t, "SwapAt", impl.SwapAt, list, i)
		}
		for _, word := range words {
			checkTotal(t, "FollowSwaps", impl.FollowSwaps, list, word)
		}
		for _, most := range append(notAskedCurvatures(), 1, 2, 60, 500) {
			checkTotal(t, "CurvaturesUpTo", impl.CurvaturesUpTo, list, most)
			checkTotal(t, "CountUpTo", impl.CountUpTo, list, most)
		}
	}
}

func TestPromise11OfQuadNumbers(t *testing.T) {
	for _, number := range slices.Concat(notOuters(), notQuadIndices(), []int{0, 1, 2, 3, 6, 29, 30}) {
		checkTotal(t, "RootsWith", impl.RootsWith, number)
		checkTotal(t, "AllRootsUpTo", impl.AllRootsUpTo, number)
		checkTotal(t, "SwapMatrix", impl.SwapMatrix, number)
	}
	checkTotal(t, "DescartesForm", impl.DescartesForm)
}

// TestPromise11OfQuadAnswers changes answers and looks whether later ones, or the argument, change with them.
func TestPromise11OfQuadAnswers(t *testing.T) {
	root := []int{-1, 2, 2, 3}
	path, _ := impl.DownPath(root)
	path[0][0] = 9
	same, _ := impl.FollowSwaps(root, nil)
	same[1] = 9
	swapped, _ := impl.SwapAt(root, 3)
	swapped[2] = 9
	numbers, _ := impl.RootQuad(root)
	numbers[3] = 9
	curvatures, _ := impl.CurvaturesUpTo(root, 3)
	curvatures[0] = 9
	wantList(t, "argument", root, true, []int{-1, 2, 2, 3})
	curvatures, ok := impl.CurvaturesUpTo(root, 3)
	wantList(t, "curvatures", curvatures, ok, []int{-1, 2, 3})
	residues, _ := impl.ResiduesOf(root)
	residues[0] = 9
	residues, ok = impl.ResiduesOf(root)
	wantList(t, "residues", residues, ok, kindsOfResidues()[5])
	all, _ := impl.AllRootsUpTo(3)
	for _, list := range all {
		list[0] = 9
	}
	if !reflect.DeepEqual(all, [][]int{{9, 2, 2, 3}, {9, 3, 6, 7}, {9, 4, 12, 13}, {9, 5, 8, 8}}) {
		t.Error("memory is shared:", all)
	}
	roots, ok := impl.RootsWith(3)
	wantLists(t, "roots", roots, ok, [][]int{{-3, 4, 12, 13}, {-3, 5, 8, 8}})
	form, m := impl.DescartesForm(), impl.DescartesForm()
	form.Rows[0][0], form.Rows[3][2] = 9, 9
	m.Rows[1], m.Rows[2] = m.Rows[2], m.Rows[1]
	value, ok := impl.FormAt(impl.DescartesForm(), []int{1, 0, 0, 0})
	wantNumber(t, "form", value, ok, -1)
	swap, _ := impl.SwapMatrix(0)
	swap.Rows[0][0], swap.Rows[1][1] = 9, 9
	swap, ok = impl.SwapMatrix(0)
	wantMatrix(t, "swap", swap, ok, diagonalWithRow(0, []int{-1, 2, 2, 2}))
}

// diagonalWithRow is the unit matrix but for one row.
func diagonalWithRow(i int, row []int) impl.Matrix {
	m := unit(len(row))
	m.Rows[i] = row
	return m
}
