package tests

import (
	"fmt"
	"maps"
	"math"
	"math/big"
	"reflect"
	"regexp"
	"slices"
	"strings"
	"testing"

	"loop.example/g01122/impl"
)

// circle takes the numbers in the order of a CircleText.
func circle(co, curvature, x, y int) impl.Circle {
	return impl.Circle{Co: co, Curvature: curvature, X: x, Y: y}
}

// exactTwice has no number that is too great for it.
func exactTwice(c, d impl.Circle) *big.Int {
	product := func(a, b int) *big.Int { return new(big.Int).Mul(big.NewInt(int64(a)), big.NewInt(int64(b))) }
	twice := product(c.X, d.X)
	twice.Add(twice, product(c.Y, d.Y))
	twice.Lsh(twice, 1)
	twice.Sub(twice, product(c.Co, d.Curvature))
	return twice.Sub(twice, product(c.Curvature, d.Co))
}

func areInLimit(numbers ...int) bool {
	return slices.Min(numbers) >= -impl.MaxCircle && slices.Max(numbers) <= impl.MaxCircle
}

func isCircleExactly(c impl.Circle) bool {
	return areInLimit(c.Co, c.Curvature, c.X, c.Y) && exactTwice(c, c).Cmp(big.NewInt(2)) == 0
}

// sumOfCircles adds the numbers of circles, each as often as it is told.
func sumOfCircles(list []impl.Circle, times ...int) impl.Circle {
	var sum impl.Circle
	for i, c := range list {
		sum.Co += times[i] * c.Co
		sum.Curvature += times[i] * c.Curvature
		sum.X += times[i] * c.X
		sum.Y += times[i] * c.Y
	}
	return sum
}

// onesBut has one other number among numbers that are equal.
func onesBut(number, count, i, other int) []int {
	list := repeated(number, count)
	list[i] = other
	return list
}

func circlesSwappedAt(list []impl.Circle, i int) []impl.Circle {
	swapped := slices.Clone(list)
	swapped[i] = sumOfCircles(list, onesBut(2, len(list), i, -1)...)
	return swapped
}

func circlesRotated(list []impl.Circle, by int) []impl.Circle {
	return slices.Concat(list[by:], list[:by])
}

func eachCircle(list []impl.Circle, change func(impl.Circle) impl.Circle) []impl.Circle {
	var changed []impl.Circle
	for _, c := range list {
		changed = append(changed, change(c))
	}
	return changed
}

func turnedInside(c impl.Circle) impl.Circle {
	return circle(-c.Co, -c.Curvature, -c.X, -c.Y)
}

// inverted is the image in the circle with the radius 1 around 0, 0.
func inverted(c impl.Circle) impl.Circle { return circle(c.Curvature, c.Co, c.X, c.Y) }

func turned(c impl.Circle) impl.Circle { return circle(c.Co, c.Curvature, -c.Y, c.X) }

func flipped(c impl.Circle) impl.Circle { return circle(c.Co, c.Curvature, -c.X, c.Y) }

func shiftedBy(x, y int) func(impl.Circle) impl.Circle {
	return func(c impl.Circle) impl.Circle {
		return circle(c.Co+2*(c.X*x+c.Y*y)+c.Curvature*(x*x+y*y), c.Curvature, c.X+c.Curvature*x, c.Y+c.Curvature*y)
	}
}

func curvaturesIn(list []impl.Circle) []int {
	var curvatures []int
	for _, c := range list {
		curvatures = append(curvatures, c.Curvature)
	}
	return curvatures
}

func discs() []impl.Circle {
	return []impl.Circle{circle(1, -1, 0, 0), circle(0, 2, 1, 0), circle(0, 2, -1, 0), circle(1, 3, 0, 2)}
}

func strip() []impl.Circle {
	return []impl.Circle{circle(4, 0, 0, 1), circle(0, 0, 0, -1), circle(0, 1, 0, 1), circle(4, 1, 2, 1)}
}

// highStrip has lines and two neighbours of the circles between them; the neighbour 500 has a Co of just MaxCircle.
func highStrip(n int) []impl.Circle {
	return []impl.Circle{circle(4, 0, 0, 1), circle(0, 0, 0, -1), circle(4*n*n, 1, 2*n, 1), circle(4*(n+1)*(n+1), 1, 2*n+2, 1)}
}

// ringOf has a root with the least curvature -n and the greatest one n n + n + 1.
func ringOf(n int) []impl.Circle {
	return []impl.Circle{circle(0, -n, 1, 0), circle(0, n+1, -1, 0), circle(4, n*n+n, -2*n-1, 0), circle(4, n*n+n+1, -2*n-1, 2)}
}

// edgeSwap has a configuration of which a swap leads to a number just at MaxCircle, or just beyond.
type edgeSwap struct {
	list  []impl.Circle
	i     int
	to    impl.Circle
	valid bool
}

func edgeSwaps() []edgeSwap {
	narrow := []impl.Circle{circle(0, 0, 0, 1), circle(4, 0, 0, -1), circle(249001, 1, 499, -1), circle(251001, 1, 501, -1)}
	high := []impl.Circle{circle(0, 0, 0, 1), circle(4, 0, 0, -1), circle(992016, 1, 996, -1), circle(996004, 1, 998, -1)}
	nine := []impl.Circle{circle(111849, 1, -285, -175), circle(-568, 0, 1, 0), circle(444296, 4, -1137, -696), circle(111153, 1, -285, -173)}
	far := []impl.Circle{circle(-26815, -204, -1431, 1850), circle(54684, 416, 2919, -3772), circle(149940, 1140, 8001, -10340), circle(281969, 2144, 15049, -19444)}
	swaps := []edgeSwap{
		{narrow, 1, circle(1000000, 4, 2000, -1), true},
		{high, 2, circle(1000000, 1, 1000, -1), true},
		{nine, 3, circle(1000001, 9, -2557, -1569), false},
		{far, 0, circle(1000001, 7604, 53369, -68962), false},
	}
	for _, change := range []func(impl.Circle) impl.Circle{inverted, turnedInside, turned} {
		for _, swap := range slices.Clone(swaps) {
			swaps = append(swaps, edgeSwap{eachCircle(swap.list, change), swap.i, change(swap.to), swap.valid})
		}
	}
	return swaps
}

// movedDiscs has configurations with other curvatures, also such as are no quad, and with lines at other places.
func movedDiscs() [][]impl.Circle {
	var lists [][]impl.Circle
	for _, list := range [][]impl.Circle{discs(), strip()} {
		for x := range 4 {
			for y := range 3 {
				shifted := eachCircle(list, shiftedBy(x-1, y))
				lists = append(lists, shifted, eachCircle(shifted, inverted), eachCircle(eachCircle(shifted, inverted), shiftedBy(2, 3-x)), eachCircle(eachCircle(shifted, turned), turnedInside))
			}
		}
	}
	return lists
}

func configPool() [][]impl.Circle {
	lists := append(movedDiscs(), discs(), strip(), highStrip(498), highStrip(499), ringOf(1), ringOf(7), ringOf(315), ringOf(316), ringOf(999), eachCircle(strip(), turnedInside), eachCircle(ringOf(2), turnedInside))
	for _, swap := range edgeSwaps() {
		lists = append(lists, swap.list)
	}
	for by := range 4 {
		lists = append(lists, circlesRotated(discs(), by), circlesRotated(strip(), by))
		lists = append(lists, circlesSwappedAt(discs(), by), circlesSwappedAt(circlesSwappedAt(strip(), by), (by+1)%4))
	}
	return lists
}

func someCircles() []impl.Circle {
	circles := []impl.Circle{
		// Lines.
		circle(4, 0, 0, 1), circle(0, 0, 0, -1), circle(0, 0, 1, 0), circle(0, 0, -1, 0), circle(7, 0, 1, 0), circle(-3, 0, 0, -1), circle(4, 0, -1, 0), circle(-7, 0, -1, 0),
		circle(1, -1, 0, 0), circle(-1, 1, 0, 0), circle(0, 2, 1, 0), circle(0, 2, -1, 0), circle(1, 3, 0, 2), circle(0, 1, 0, 1), circle(4, 1, 2, 1), circle(4, 2, 3, 0), circle(1, 1, 1, 1), circle(3, 5, 4, 0), circle(5, 3, 0, -4), circle(24, 1, 3, 4), circle(2, 12, 4, -3), circle(-1, -3, 0, -2), circle(-15, -15, -15, 1), circle(-12, -14, 5, -12),
	}
	return append(circles, greatCircles()...)
}

// greatCircles have a number at MaxCircle or near to it.
func greatCircles() []impl.Circle {
	const most = impl.MaxCircle
	return []impl.Circle{
		circle(most, 0, 1, 0), circle(-most, 0, 0, 1), circle(0, most, 1, 0), circle(0, -most, 0, -1), circle(999999, 0, 0, -1),
		circle(most, most, most, 1), circle(most, most, -most, 1), circle(most, most, 1, -most), circle(-most, -most, most, -1), circle(-most, -most, -1, -most), circle(most, most, -1, most), circle(-most, -most, -most, 1),
		circle(most, 1, 1000, 1), circle(1, most, 1000, -1), circle(-most, -1, -1, 1000), circle(999999, 1, 1000, 0), circle(998000, 0, 1, 0), circle(999998, most, -999999, 0), circle(most, 4, 2000, -1), circle(996004, 1, 998, 1),
	}
}

// wrappedCircles fit modulo 2 to the power of 64 only.
func wrappedCircles() []impl.Circle {
	return []impl.Circle{
		circle(0, 0, 1<<32, 1), circle(5, 0, 1, 1<<32), circle(1<<32, 1<<32, 1, 0), circle(1<<62, 4, 0, 1), circle(4, 1<<62, -1, 0), circle(math.MinInt, 2, 0, 1), circle(2, math.MinInt, -1, 0), circle(math.MinInt, math.MinInt, 1, 0), circle(math.MinInt, 4, 1, 0), circle(0, 7, math.MinInt, 1), circle(0, 0, math.MaxInt, 0), circle(0, 0, 0, math.MaxInt), circle(9, 0, -math.MaxInt, 0), circle(math.MaxInt, math.MaxInt, 1, 1), circle(1, -1, 1<<32, 1<<32), circle(1, -1, math.MinInt, math.MinInt),
	}
}

// notCircles are invalid wherever a circle is required.
func notCircles() []impl.Circle {
	const beyond = impl.MaxCircle + 1
	circles := []impl.Circle{
		circle(0, 0, 0, 0), circle(0, 0, 1, 1), circle(0, 0, 2, 0), circle(1, 1, 0, 0), circle(2, 0, 1, 1), circle(0, 5, 1, -1), circle(4, 2, 3, 1), circle(4, 2, 2, 0), circle(-1, -1, 0, 0), circle(1, 2, 1, 0), circle(1, -1, 1, 0), circle(1, 3, 2, 2), circle(-1, 3, 0, 2), circle(4, 1, 2, 2), circle(3, 4, 5, 6), circle(0, 0, 0, 2), circle(1, -2, 0, 0), circle(impl.MaxCircle, impl.MaxCircle, impl.MaxCircle, 0), circle(impl.MaxCircle, impl.MaxCircle, impl.MaxCircle, impl.MaxCircle), circle(impl.MaxCircle, 0, 0, 0),
		// All fits, but a number is beyond MaxCircle.
		circle(beyond, 0, 0, 1), circle(-beyond, 0, 1, 0), circle(0, beyond, 1, 0), circle(0, -beyond, 0, -1), circle(beyond, 999999, impl.MaxCircle, 0), circle(999999, beyond, -impl.MaxCircle, 0), circle(beyond, beyond, beyond, 1), circle(beyond, beyond, 1, -beyond), circle(-beyond, -beyond, -1, beyond), circle(1004004, 1, 1002, 1), circle(1, 1004004, 1, 1002), circle(1000001, 9, -2557, -1569), circle(1-1<<62, -1, 1<<31, 0),
		circle(math.MaxInt, 0, 1, 0), circle(math.MinInt, 0, 1, 0), circle(0, math.MaxInt, 1, 0), circle(0, math.MinInt, 0, 1), circle(math.MaxInt, math.MinInt, 0, 0), circle(1, -1, math.MaxInt, math.MinInt), circle(math.MinInt, math.MinInt, math.MinInt, math.MinInt), circle(math.MaxInt, math.MaxInt, math.MaxInt, math.MaxInt),
	}
	return append(circles, wrappedCircles()...)
}

// notFourCircles have another length, or something that is no circle.
func notFourCircles() [][]impl.Circle {
	lists := [][]impl.Circle{nil, {}, discs()[:1], discs()[:2], discs()[:3], strip()[1:], append(discs(), circle(1, 3, 0, -2)), append(strip(), strip()...), slices.Repeat(discs(), 10), make([]impl.Circle, 4)}
	for i := range 4 {
		for _, c := range notCircles() {
			list := discs()
			list[i] = c
			lists = append(lists, list)
		}
	}
	return lists
}

// notTouching are four circles of which two don't touch.
func notTouching() [][]impl.Circle {
	lists := [][]impl.Circle{slices.Repeat(discs()[:1], 4), slices.Repeat(strip()[:2], 2), {circle(4, 0, 0, 1), circle(0, 0, 0, 1), circle(0, 1, 0, 1), circle(4, 1, 2, 1)}, greatCircles()[5:9]}
	for _, list := range [][]impl.Circle{discs(), strip(), ringOf(4)} {
		for i := range 4 {
			for j := range 4 {
				if i == j {
					continue
				}
				// A circle and what a swap puts in its place touch the others, but not each other.
				pair := slices.Clone(list)
				pair[j] = circlesSwappedAt(list, i)[i]
				equal := slices.Clone(list)
				equal[j] = list[i]
				lists = append(lists, pair, equal)
			}
			inside := slices.Clone(list)
			inside[i] = turnedInside(list[i])
			lists = append(lists, inside)
		}
	}
	return lists
}

func notConfigs() [][]impl.Circle { return append(notFourCircles(), notTouching()...) }

func notCircleIndices() []int { return []int{-1, 4, 5, -4, 1 << 32, math.MinInt, math.MaxInt} }

func notShifts() []int {
	return []int{1001, -1001, 1002, -2000, 1 << 32, 1<<32 + 1, -1 << 32, 1 << 62, math.MinInt, math.MaxInt}
}

func notDrawnBounds() []int { return []int{0, -1, -60, 61, 62, 500, 1 << 32, math.MinInt, math.MaxInt} }

// notCircleWords are too long, or have other numbers than indices.
func notCircleWords() [][]int {
	return [][]int{
		repeated(0, 41), repeated(3, 41), repeated(2, 42), repeated(0, 200), repeated(0, 5000),
		{4}, {-1}, {0, 4}, {4, 0}, {-1, 3}, {3, -1}, {0, 5, 0}, {math.MinInt}, {math.MaxInt}, {0, math.MinInt}, {1 << 32}, onesBut(0, 40, 0, 4), onesBut(0, 40, 39, 4), onesBut(0, 40, 39, -1), onesBut(0, 40, 20, math.MaxInt),
	}
}

// notCircleTexts are told as CircleText doesn't tell a circle.
func notCircleTexts() []string {
	texts := []string{
		"", " ", "   ", "    ", "0", "1", "1 -1", "1 -1 0", "1 -1 0 0 0", "1 -1 0 0 1", "1,-1,0,0", "1, -1, 0, 0", "1 -1 0 x", "x -1 0 0", "circle", "1 - 1 0 0", "1 -1 0 -", "- -1 0 0", "1 -1 . 0",
		// Blanks.
		" 1 -1 0 0", "1 -1 0 0 ", "1  -1 0 0", "1 -1  0 0", "1 -1 0  0", " 1 -1 0 0 ", "1 -1 0 0  ", "1\t-1\t0\t0", "1 -1 0\t0", "1 -1 0 0\n", "\n1 -1 0 0", "1 -1 0 0\r\n", "1\n-1\n0\n0", "1 -1 0 0\x00", "1\u00a0-1\u00a00\u00a00", "1 -1 0 \u00a00", "1 -1 0\v0", "1-1 0 0", "1-100",
		// Signs.
		"+1 -1 0 0", "1 -1 +0 0", "1 -1 0 +0", "1 -1 -0 0", "1 -1 0 -0", "1 --1 0 0", "1 +-1 0 0", "--1 -1 0 0", "1 \u22121 0 0", "0 2 +1 0", "-0 2 1 0", "1 -1 0 0-", "1 -1 0 -+0",
		// Zeros and other ways to tell numbers.
		"01 -1 0 0", "1 -01 0 0", "1 -1 00 0", "1 -1 0 00", "1 -1 0 000000000000000000000000", "0 02 1 0", "0x1 -1 0 0", "1 -1 0x0 0", "0b1 -1 0 0", "0o1 -1 0 0", "1.0 -1 0 0", "1e0 -1 0 0", "1 -1 0. 0", "1_0 0 0 1", "1_000 0 0 1", "1 -1 0 0_0", "\uff11 -1 0 0", "1 -1 0 \u0660", "(1 -1 0 0)", "{1 -1 0 0}", "\"1 -1 0 0\"",
		// Numbers of no circle.
		"0 0 0 0", "1 1 0 0", "1 -1 0 1", "0 0 1 1", "4 2 3 1", "1000000 1000000 1000000 0",
		// Numbers beyond MaxCircle, and beyond an int.
		"1000001 0 0 1", "-1000001 0 1 0", "0 1000001 1 0", "1000001 999999 1000000 0", "0 0 4294967296 1", "0 0 9223372036854775807 0", "9223372036854775808 0 1 0", "-9223372036854775808 0 1 0", "-9223372036854775809 0 1 0", "18446744073709551617 -1 0 0", "1 18446744073709551615 0 0", "1 -1 18446744073709551616 0", "100000000000000000000000000 0 0 1", "0 0 0 340282366920938463463374607431768211457",
	}
	return append(texts, strings.Repeat("1 ", 4000), strings.Repeat(" ", 3), strings.Repeat("9", 5000)+" 0 0 1", "0 0 0 "+strings.Repeat("0", 5000)+"1")
}

func wantCircle(t *testing.T, name string, got impl.Circle, ok bool, want impl.Circle) {
	t.Helper()
	if !ok || got != want {
		t.Errorf("%s: got %v, %v, want %v", name, got, ok, want)
	}
}

func wantNoCircle(t *testing.T, name string, got impl.Circle, ok bool) {
	t.Helper()
	if ok || got != (impl.Circle{}) {
		t.Errorf("%s: got %v, %v, want a failure", name, got, ok)
	}
}

// wantCircleIf takes what would be told without a limit; it has to fit into an int.
func wantCircleIf(t *testing.T, name string, got impl.Circle, ok bool, want impl.Circle) {
	t.Helper()
	if !isCircleExactly(want) {
		wantNoCircle(t, name, got, ok)
		return
	}
	wantCircle(t, name, got, ok, want)
}

func wantCircleList(t *testing.T, name string, got []impl.Circle, ok bool, want []impl.Circle) {
	t.Helper()
	if !ok || !slices.Equal(got, want) {
		t.Errorf("%s: got %v, %v, want %v", name, got, ok, want)
	}
}

func wantNoCircleList(t *testing.T, name string, got []impl.Circle, ok bool) {
	t.Helper()
	if ok || len(got) != 0 {
		t.Errorf("%s: got %v, %v, want a failure", name, got, ok)
	}
}

func TestConstantsOfChapter7(t *testing.T) {
	got := [2]int{impl.MaxCircle, impl.MaxDrawn}
	if got != [2]int{1000000, 300} {
		t.Error(got)
	}
}

func TestIsCircle(t *testing.T) {
	for _, c := range someCircles() {
		if !impl.IsCircle(c) || !isCircleExactly(c) {
			t.Errorf("%v is not told as a circle", c)
		}
	}
	for _, c := range notCircles() {
		if impl.IsCircle(c) || isCircleExactly(c) {
			t.Errorf("%v is told as a circle", c)
		}
	}
	for _, c := range wrappedCircles() {
		if c.X*c.X+c.Y*c.Y-c.Co*c.Curvature != 1 {
			t.Error("this is no test:", c)
		}
	}
}

func TestIsCircleOfAllLessNumbers(t *testing.T) {
	for co := -9; co <= 9; co++ {
		for curvature := -9; curvature <= 9; curvature++ {
			for x := -6; x <= 6; x++ {
				for y := -6; y <= 6; y++ {
					c := circle(co, curvature, x, y)
					want := x*x+y*y == co*curvature+1
					if impl.IsCircle(c) != want {
						t.Errorf("IsCircle of %v is %v", c, !want)
					}
				}
			}
		}
	}
}

func TestTwiceProduct(t *testing.T) {
	for _, c := range []struct {
		c, d impl.Circle
		want int
	}{
		{circle(1, -1, 0, 0), circle(0, 2, 1, 0), -2}, {circle(0, 2, 1, 0), circle(0, 2, -1, 0), -2}, {circle(0, 2, 1, 0), circle(1, 3, 0, 2), -2}, {circle(1, -1, 0, 0), circle(1, -1, 0, 0), 2}, {circle(1, -1, 0, 0), circle(-1, 1, 0, 0), -2},
		{circle(1, 3, 0, 2), circle(1, 3, 0, -2), -14}, {circle(1, 1, 1, 1), circle(0, 2, 1, 0), 0}, {circle(4, 0, 0, 1), circle(0, 0, 0, -1), -2}, {circle(4, 0, 0, 1), circle(0, 0, 0, 1), 2}, {circle(4, 0, 0, 1), circle(7, 0, 1, 0), 0}, {circle(4, 0, 0, 1), circle(0, 1, 0, 1), -2}, {circle(4, 0, 0, 1), circle(0, 2, 1, 0), -8},
		// The product itself has no limit.
		{circle(1000000, 1000000, 1000000, 1), circle(1000000, 1000000, -1000000, 1), -3999999999998}, {circle(1000000, 1000000, 1000000, 1), circle(1000000, 1000000, 1000000, 1), 2}, {circle(1000000, 1000000, 1000000, 1), circle(-1000000, -1000000, 1000000, -1), 3999999999998}, {circle(1000000, 0, 1, 0), circle(0, 1000000, 1, 0), -999999999998}, {circle(1000000, 0, 1, 0), circle(0, -1000000, 0, -1), 1000000000000},
	} {
		got, ok := impl.TwiceProduct(c.c, c.d)
		wantNumber(t, fmt.Sprint(c.c, c.d), got, ok, c.want)
		got, ok = impl.TwiceProduct(c.d, c.c)
		wantNumber(t, fmt.Sprint(c.d, c.c), got, ok, c.want)
	}
	for _, c := range someCircles() {
		for _, d := range someCircles() {
			got, ok := impl.TwiceProduct(c, d)
			wantNumber(t, fmt.Sprint(c, d), got, ok, int(exactTwice(c, d).Int64()))
		}
	}
}

func TestDoTouch(t *testing.T) {
	for _, c := range []struct {
		c, d impl.Circle
		want bool
	}{
		{circle(1, -1, 0, 0), circle(0, 2, 1, 0), true}, {circle(1, -1, 0, 0), circle(1, 3, 0, 2), true}, {circle(0, 2, 1, 0), circle(0, 2, -1, 0), true}, {circle(1, 3, 0, 2), circle(1, 3, 0, -2), false}, {circle(1, 3, 0, 2), circle(1, 3, 0, 2), false}, {circle(-1, 1, 0, 0), circle(0, 2, 1, 0), false}, {circle(-1, 1, 0, 0), circle(1, -1, 0, 0), true},
		{circle(4, 0, 0, 1), circle(0, 0, 0, -1), true}, {circle(4, 0, 0, 1), circle(0, 0, 0, 1), false}, {circle(4, 0, 0, 1), circle(4, 0, 0, 1), false}, {circle(4, 0, 0, 1), circle(7, 0, 1, 0), false}, {circle(4, 0, 0, 1), circle(0, 1, 0, 1), true}, {circle(4, 0, 0, 1), circle(4, 1, 2, 1), true}, {circle(0, 0, 0, 1), circle(0, 1, 0, 1), false}, {circle(0, 0, 0, -1), circle(0, 1, 0, 1), true}, {circle(0, 0, 1, 0), circle(0, 1, 0, 1), false},
		{circle(0, 1, 0, 1), circle(4, 1, 2, 1), true}, {circle(0, 1, 0, 1), circle(16, 1, 4, 1), false}, {circle(1, 1, 1, 1), circle(0, 2, 1, 0), false},
	} {
		got, ok := impl.DoTouch(c.c, c.d)
		wantAnswer(t, fmt.Sprint(c.c, c.d), got, ok, c.want)
		got, ok = impl.DoTouch(c.d, c.c)
		wantAnswer(t, fmt.Sprint(c.d, c.c), got, ok, c.want)
	}
}

// TestTouchingCirclesByDistance compares the distance of the centres with the sum of the radii, or with their difference if one stands for what is outside.
func TestTouchingCirclesByDistance(t *testing.T) {
	var circles []impl.Circle
	for curvature := -6; curvature <= 6; curvature++ {
		for x := -6; x <= 6; x++ {
			for y := -6; y <= 6; y++ {
				if curvature != 0 && (x*x+y*y-1)%curvature == 0 {
					circles = append(circles, circle((x*x+y*y-1)/curvature, curvature, x, y))
				}
			}
		}
	}
	touching := 0
	for _, c := range circles {
		for _, d := range circles {
			// All are multiplied by both Curvatures, so that they are whole numbers.
			x, y, radii := c.X*d.Curvature-d.X*c.Curvature, c.Y*d.Curvature-d.Y*c.Curvature, c.Curvature+d.Curvature
			want := x*x+y*y == radii*radii
			got, ok := impl.DoTouch(c, d)
			wantAnswer(t, fmt.Sprint(c, d), got, ok, want)
			if want {
				touching++
			}
		}
	}
	if touching < 500 {
		t.Error("this is no test:", touching, len(circles))
	}
}

func TestChapter7RefusesWhatIsNoCircle(t *testing.T) {
	valid := []impl.Circle{circle(1, -1, 0, 0), circle(4, 0, 0, 1), circle(1000000, 1000000, 1000000, 1)}
	for _, c := range notCircles() {
		name := fmt.Sprint(c)
		for _, d := range append(valid, c, impl.Circle{}) {
			for _, pair := range [][2]impl.Circle{{c, d}, {d, c}} {
				number, ok := impl.TwiceProduct(pair[0], pair[1])
				wantNoNumber(t, name, number, ok)
				answer, ok := impl.DoTouch(pair[0], pair[1])
				wantNoAnswer(t, name, answer, ok)
				image, ok := impl.ReflectCircle(pair[0], pair[1])
				wantNoCircle(t, name, image, ok)
			}
		}
		for _, x := range []int{0, 1, -1000, 1000} {
			image, ok := impl.ShiftCircle(c, x, 0)
			wantNoCircle(t, name, image, ok)
		}
		image, ok := impl.TurnCircle(c)
		wantNoCircle(t, name, image, ok)
		image, ok = impl.FlipCircle(c)
		wantNoCircle(t, name, image, ok)
		text, ok := impl.CircleText(c)
		wantNoText(t, name, text, ok)
		for _, list := range [][]impl.Circle{{c}, {c, valid[0]}, {valid[0], valid[1], c}} {
			pairs, ok := impl.TouchingPairs(list)
			wantNoLists(t, name, pairs, ok)
		}
	}
}

func TestIsConfig(t *testing.T) {
	for _, list := range configPool() {
		for by := range 4 {
			for _, turn := range [][]impl.Circle{circlesRotated(list, by), eachCircle(circlesRotated(list, by), turnedInside), eachCircle(list, flipped)} {
				got, ok := impl.IsConfig(turn)
				wantAnswer(t, fmt.Sprint(turn), got, ok, true)
			}
		}
	}
	for _, list := range notTouching() {
		got, ok := impl.IsConfig(list)
		wantAnswer(t, fmt.Sprint(list), got, ok, false)
	}
	for _, list := range notFourCircles() {
		got, ok := impl.IsConfig(list)
		wantNoAnswer(t, fmt.Sprint(list), got, ok)
	}
}

func TestStartConfig(t *testing.T) {
	got, ok := impl.StartConfig(0)
	wantCircleList(t, "0", got, ok, []impl.Circle{circle(1, -1, 0, 0), circle(0, 2, 1, 0), circle(0, 2, -1, 0), circle(1, 3, 0, 2)})
	got, ok = impl.StartConfig(1)
	wantCircleList(t, "1", got, ok, []impl.Circle{circle(4, 0, 0, 1), circle(0, 0, 0, -1), circle(0, 1, 0, 1), circle(4, 1, 2, 1)})
	for _, kind := range []int{-1, 2, 3, 4, 1 << 32, math.MinInt, math.MaxInt} {
		got, ok := impl.StartConfig(kind)
		wantNoCircleList(t, fmt.Sprint(kind), got, ok)
	}
}

func TestCurvaturesOf(t *testing.T) {
	for _, c := range []struct {
		list   []impl.Circle
		want   []int
		isQuad bool
	}{
		{discs(), []int{-1, 2, 2, 3}, true}, {circlesRotated(discs(), 1), []int{2, 2, 3, -1}, true}, {strip(), []int{0, 0, 1, 1}, true}, {eachCircle(discs(), inverted), []int{1, 0, 0, 1}, true}, {ringOf(3), []int{-3, 4, 12, 13}, true}, {ringOf(315), []int{-315, 316, 99540, 99541}, true},
		// No quads, as the sum is less than 0, or as a number is beyond MaxCurvature.
		{eachCircle(strip(), turnedInside), []int{0, 0, -1, -1}, false}, {eachCircle(discs(), turnedInside), []int{1, -2, -2, -3}, false}, {ringOf(316), []int{-316, 317, 100172, 100173}, false}, {eachCircle(highStrip(499), inverted), []int{4, 0, 996004, 1000000}, false},
	} {
		got, ok := impl.CurvaturesOf(c.list)
		wantList(t, fmt.Sprint(c.list), got, ok, c.want)
		if impl.IsQuad(got) != c.isQuad {
			t.Error("this is no test:", got)
		}
	}
	for _, list := range configPool() {
		got, ok := impl.CurvaturesOf(list)
		wantList(t, fmt.Sprint(list), got, ok, curvaturesIn(list))
		if !fitsModuloWords(got) {
			t.Errorf("%v: twice the sum of squares of %v is not the square of the sum", list, got)
		}
	}
}

func TestChapter7RefusesWhatIsNoConfiguration(t *testing.T) {
	for _, list := range notConfigs() {
		name := fmt.Sprint(list)
		curvatures, ok := impl.CurvaturesOf(list)
		wantNoList(t, name, curvatures, ok)
		for i := range 4 {
			got, ok := impl.SwapCircle(list, i)
			wantNoCircleList(t, name, got, ok)
		}
		for _, word := range [][]int{nil, {}, {0}, {3, 2, 1}} {
			got, ok := impl.FollowCircles(list, word)
			wantNoCircleList(t, name, got, ok)
		}
		for _, most := range []int{1, 60} {
			got, ok := impl.CirclesUpTo(list, most)
			wantNoCircleList(t, name, got, ok)
		}
	}
}

func TestSwapCircle(t *testing.T) {
	for _, c := range []struct {
		list []impl.Circle
		i    int
		want impl.Circle
	}{
		{discs(), 0, circle(1, 15, 0, 4)}, {discs(), 1, circle(4, 6, -3, 4)}, {discs(), 2, circle(4, 6, 3, 4)}, {discs(), 3, circle(1, 3, 0, -2)},
		{strip(), 0, circle(4, 4, 4, 1)}, {strip(), 1, circle(16, 4, 4, 7)}, {strip(), 2, circle(16, 1, 4, 1)}, {strip(), 3, circle(4, 1, -2, 1)},
	} {
		want := slices.Clone(c.list)
		want[c.i] = c.want
		got, ok := impl.SwapCircle(c.list, c.i)
		wantCircleList(t, fmt.Sprint(c.list, c.i), got, ok, want)
	}
	for _, list := range configPool() {
		for _, i := range notCircleIndices() {
			got, ok := impl.SwapCircle(list, i)
			wantNoCircleList(t, fmt.Sprint(list, i), got, ok)
		}
	}
}

func TestSwapsAtMaxCircle(t *testing.T) {
	for _, swap := range edgeSwaps() {
		for by := range 4 {
			list, i := circlesRotated(swap.list, by), (swap.i-by+4)%4
			name := fmt.Sprint(list, i)
			got, ok := impl.SwapCircle(list, i)
			twice, okTwice := impl.FollowCircles(list, []int{i, i})
			if !swap.valid {
				wantNoCircleList(t, name, got, ok)
				wantNoCircleList(t, name, twice, okTwice)
				continue
			}
			want := slices.Clone(list)
			want[i] = swap.to
			wantCircleList(t, name, got, ok, want)
			wantCircleList(t, name, twice, okTwice, list)
			back, ok := impl.SwapCircle(want, i)
			wantCircleList(t, name, back, ok, list)
		}
	}
}

// TestPromise7SwapsKeepConfigurations tries all swaps.
func TestPromise7SwapsKeepConfigurations(t *testing.T) {
	swaps := 0
	for _, list := range configPool() {
		for i := range 4 {
			name := fmt.Sprint(list, i)
			got, ok := impl.SwapCircle(list, i)
			want := circlesSwappedAt(list, i)
			if !isCircleExactly(want[i]) {
				wantNoCircleList(t, name, got, ok)
				continue
			}
			swaps++
			wantCircleList(t, name, got, ok, want)
			is, ok := impl.IsConfig(got)
			wantAnswer(t, name, is, ok, true)
			back, ok := impl.SwapCircle(got, i)
			wantCircleList(t, name, back, ok, list)
			product, ok := impl.TwiceProduct(list[i], got[i])
			wantNumber(t, name, product, ok, -14)
			// Curvatures of circles change as those of quads do.
			if quad, ok := impl.SwapAt(curvaturesIn(list), i); ok {
				curvatures, ok := impl.CurvaturesOf(got)
				wantList(t, name, curvatures, ok, quad)
			}
		}
	}
	if swaps < 400 {
		t.Error("this is no test:", swaps)
	}
}

func TestFollowCircles(t *testing.T) {
	for _, c := range []struct {
		list []impl.Circle
		word []int
		want []impl.Circle
	}{
		{discs(), nil, discs()}, {strip(), []int{}, strip()}, {highStrip(499), nil, highStrip(499)},
		{discs(), []int{0}, []impl.Circle{circle(1, 15, 0, 4), circle(0, 2, 1, 0), circle(0, 2, -1, 0), circle(1, 3, 0, 2)}},
		{discs(), []int{3, 1}, []impl.Circle{circle(1, -1, 0, 0), circle(4, 6, -3, -4), circle(0, 2, -1, 0), circle(1, 3, 0, -2)}},
		{discs(), []int{1, 3}, []impl.Circle{circle(1, -1, 0, 0), circle(4, 6, -3, 4), circle(0, 2, -1, 0), circle(9, 11, -8, 6)}},
		{discs(), []int{2, 2}, discs()}, {discs(), repeated(1, 40), discs()}, {discs(), repeated(1, 39), circlesSwappedAt(discs(), 1)},
		{strip(), []int{2, 3, 2}, []impl.Circle{circle(4, 0, 0, 1), circle(0, 0, 0, -1), circle(64, 1, 8, 1), circle(36, 1, 6, 1)}},
		{strip(), slices.Repeat([]int{2, 3}, 20), []impl.Circle{circle(4, 0, 0, 1), circle(0, 0, 0, -1), circle(6400, 1, 80, 1), circle(6724, 1, 82, 1)}},
		{strip(), slices.Repeat([]int{3, 2}, 20), []impl.Circle{circle(4, 0, 0, 1), circle(0, 0, 0, -1), circle(6400, 1, -80, 1), circle(6084, 1, -78, 1)}},
		{highStrip(498), []int{2}, []impl.Circle{circle(4, 0, 0, 1), circle(0, 0, 0, -1), circle(1000000, 1, 1000, 1), circle(996004, 1, 998, 1)}},
		{highStrip(498), []int{2, 2, 2}, []impl.Circle{circle(4, 0, 0, 1), circle(0, 0, 0, -1), circle(1000000, 1, 1000, 1), circle(996004, 1, 998, 1)}},
	} {
		got, ok := impl.FollowCircles(c.list, c.word)
		wantCircleList(t, fmt.Sprint(c.list, c.word), got, ok, c.want)
	}
}

// TestFollowCirclesStepByStep has words of all lengths up to 41, and fails from the first number on that is too great.
func TestFollowCirclesStepByStep(t *testing.T) {
	for _, list := range configPool() {
		for _, round := range [][]int{{2, 3}, {0, 1}, {3, 3}, {1, 2, 3}, {0, 1, 2, 3}, {0, 1, 1, 0, 2}} {
			want, fits := list, true
			for length := range 42 {
				word := slices.Repeat(round, 21)[:length]
				if length > 0 && fits {
					i := word[length-1]
					want = circlesSwappedAt(want, i)
					fits = isCircleExactly(want[i])
				}
				got, ok := impl.FollowCircles(list, word)
				if !fits || length > 40 {
					wantNoCircleList(t, fmt.Sprint(list, word), got, ok)
					continue
				}
				wantCircleList(t, fmt.Sprint(list, word), got, ok, want)
				back, ok := impl.FollowCircles(got, reversed(word))
				wantCircleList(t, fmt.Sprint(got, reversed(word)), back, ok, list)
			}
		}
	}
}

func TestSwapsOfCirclesThatCannotBeFollowed(t *testing.T) {
	for _, c := range []struct {
		list []impl.Circle
		word []int
	}{
		// A number is too great on the way, too.
		{highStrip(498), []int{2, 3}}, {highStrip(498), []int{2, 3, 3}}, {highStrip(498), []int{2, 3, 3, 2}}, {highStrip(499), []int{2}}, {highStrip(499), []int{2, 2}}, {highStrip(499), []int{3, 3, 2, 2}},
		// The numbers would pass what an int holds.
		{discs(), slices.Repeat([]int{0, 1, 2, 3}, 10)}, {strip(), slices.Repeat([]int{0, 1, 2, 3}, 10)}, {ringOf(999), slices.Repeat([]int{3, 2, 1, 0}, 10)}, {eachCircle(discs(), turnedInside), slices.Repeat([]int{0, 1, 2, 3}, 10)}, {discs(), append(slices.Repeat([]int{0, 1, 2, 3}, 5), slices.Repeat([]int{3, 2, 1, 0}, 5)...)},
	} {
		got, ok := impl.FollowCircles(c.list, c.word)
		wantNoCircleList(t, fmt.Sprint(c.list, c.word), got, ok)
	}
	for _, word := range notCircleWords() {
		for _, list := range [][]impl.Circle{discs(), strip(), ringOf(315), highStrip(499)} {
			got, ok := impl.FollowCircles(list, word)
			wantNoCircleList(t, fmt.Sprint(list, word), got, ok)
		}
	}
}

func TestShiftCircle(t *testing.T) {
	for _, c := range []struct {
		c    impl.Circle
		x, y int
		want impl.Circle
	}{
		{circle(0, 2, 1, 0), 1, 0, circle(4, 2, 3, 0)}, {circle(0, 2, 1, 0), 0, 1, circle(2, 2, 1, 2)}, {circle(0, 2, 1, 0), -1, 0, circle(0, 2, -1, 0)}, {circle(0, 2, 1, 0), 0, 0, circle(0, 2, 1, 0)}, {circle(1, -1, 0, 0), 3, -4, circle(-24, -1, -3, 4)}, {circle(1, 3, 0, 2), -1, 2, circle(24, 3, -3, 8)}, {circle(4, 2, 3, 0), -2, 5, circle(50, 2, -1, 10)},
		// Lines stay parallel.
		{circle(4, 0, 0, 1), 0, 5, circle(14, 0, 0, 1)}, {circle(4, 0, 0, 1), 7, 0, circle(4, 0, 0, 1)}, {circle(0, 0, 0, -1), 3, 4, circle(-8, 0, 0, -1)}, {circle(7, 0, 1, 0), -1000, 1000, circle(-1993, 0, 1, 0)}, {circle(7, 0, -1, 0), 1000, -1000, circle(-1993, 0, -1, 0)},
		// Numbers just at MaxCircle.
		{circle(0, 1, 0, 1), 1000, 0, circle(1000000, 1, 1000, 1)}, {circle(0, 1, 0, 1), -1000, 0, circle(1000000, 1, -1000, 1)}, {circle(0, 1, 1, 0), 0, 1000, circle(1000000, 1, 1, 1000)}, {circle(0, -1, 1, 0), 0, -1000, circle(-1000000, -1, 1, 1000)}, {circle(998000, 0, 1, 0), 1000, 0, circle(1000000, 0, 1, 0)}, {circle(998000, 0, -1, 0), -1000, 0, circle(1000000, 0, -1, 0)}, {circle(-998000, 0, 0, 1), 0, -1000, circle(-1000000, 0, 0, 1)}, {circle(999998, 0, 0, 1), 1000, 1, circle(1000000, 0, 0, 1)}, {circle(0, 1000000, 1, 0), -1, 0, circle(999998, 1000000, -999999, 0)}, {circle(1000000, 1000000, 1000000, 1), -1, 0, circle(0, 1000000, 0, 1)}, {circle(0, 1000000, 0, 1), 1, 0, circle(1000000, 1000000, 1000000, 1)}, {circle(1000000, 1000000, 1000000, 1), -2, 0, circle(1000000, 1000000, -1000000, 1)},
	} {
		got, ok := impl.ShiftCircle(c.c, c.x, c.y)
		wantCircle(t, fmt.Sprint(c.c, c.x, c.y), got, ok, c.want)
		back, ok := impl.ShiftCircle(c.want, -c.x, -c.y)
		wantCircle(t, fmt.Sprint(c.want, -c.x, -c.y), back, ok, c.c)
	}
	for _, c := range []struct {
		c    impl.Circle
		x, y int
	}{
		{circle(998001, 0, 1, 0), 1000, 0}, {circle(-998001, 0, 1, 0), -1000, 0}, {circle(1000000, 0, 0, 1), 0, 1}, {circle(999999, 0, 0, -1), 0, -1}, {circle(0, 1, 0, 1), 1000, 1}, {circle(0, 1, 1, 0), 1000, 0}, {circle(0, 1000000, 1, 0), 1, 0}, {circle(0, 1000000, 0, -1), 0, -1}, {circle(1000000, 1000000, 1000000, 1), 1, 0}, {circle(1000000, 1000000, 1000000, 1), 1000, 1000}, {circle(-1000000, -1000000, -1, -1000000), -1000, -1000},
	} {
		got, ok := impl.ShiftCircle(c.c, c.x, c.y)
		wantNoCircle(t, fmt.Sprint(c.c, c.x, c.y), got, ok)
	}
}

func TestShiftsOfManyCircles(t *testing.T) {
	shifts := []int{0, 1, -1, 2, -3, 17, 31, -100, 999, -999, 1000, -1000}
	shifted := 0
	for _, c := range someCircles() {
		for _, x := range shifts {
			for _, y := range shifts {
				got, ok := impl.ShiftCircle(c, x, y)
				wantCircleIf(t, fmt.Sprint(c, x, y), got, ok, shiftedBy(x, y)(c))
				if ok {
					shifted++
				}
			}
		}
	}
	if shifted < 1000 {
		t.Error("this is no test:", shifted)
	}
}

func TestInvalidShifts(t *testing.T) {
	for _, c := range someCircles() {
		for _, beyond := range notShifts() {
			for _, within := range []int{0, 1000, -1000, beyond} {
				got, ok := impl.ShiftCircle(c, beyond, within)
				wantNoCircle(t, fmt.Sprint(c, beyond, within), got, ok)
				got, ok = impl.ShiftCircle(c, within, beyond)
				wantNoCircle(t, fmt.Sprint(c, within, beyond), got, ok)
			}
		}
	}
}

func TestTurnCircle(t *testing.T) {
	for _, c := range [][2]impl.Circle{
		{circle(0, 2, 1, 0), circle(0, 2, 0, 1)}, {circle(1, 3, 0, 2), circle(1, 3, -2, 0)}, {circle(24, 1, 3, 4), circle(24, 1, -4, 3)}, {circle(1, -1, 0, 0), circle(1, -1, 0, 0)}, {circle(4, 0, 0, 1), circle(4, 0, -1, 0)}, {circle(7, 0, 1, 0), circle(7, 0, 0, 1)}, {circle(0, 0, 0, -1), circle(0, 0, 1, 0)}, {circle(1000000, 1000000, 1000000, 1), circle(1000000, 1000000, -1, 1000000)},
	} {
		got, ok := impl.TurnCircle(c[0])
		wantCircle(t, fmt.Sprint(c[0]), got, ok, c[1])
	}
	for _, c := range someCircles() {
		got := c
		for range 4 {
			next, ok := impl.TurnCircle(got)
			wantCircle(t, fmt.Sprint(got), next, ok, turned(got))
			got = next
		}
		wantCircle(t, "four turns", got, true, c)
	}
}

func TestFlipCircle(t *testing.T) {
	for _, c := range [][2]impl.Circle{
		{circle(0, 2, 1, 0), circle(0, 2, -1, 0)}, {circle(1, 3, 0, 2), circle(1, 3, 0, 2)}, {circle(24, 1, 3, 4), circle(24, 1, -3, 4)}, {circle(4, 0, 0, 1), circle(4, 0, 0, 1)}, {circle(7, 0, 1, 0), circle(7, 0, -1, 0)}, {circle(1000000, 1000000, -1000000, 1), circle(1000000, 1000000, 1000000, 1)},
	} {
		got, ok := impl.FlipCircle(c[0])
		wantCircle(t, fmt.Sprint(c[0]), got, ok, c[1])
	}
	for _, c := range someCircles() {
		got, ok := impl.FlipCircle(c)
		wantCircle(t, fmt.Sprint(c), got, ok, flipped(c))
		back, ok := impl.FlipCircle(got)
		wantCircle(t, fmt.Sprint(got), back, ok, c)
		// The line has the same points from both sides.
		for _, line := range []impl.Circle{circle(0, 0, 1, 0), circle(0, 0, -1, 0)} {
			image, ok := impl.ReflectCircle(c, line)
			wantCircle(t, fmt.Sprint(c, line), image, ok, got)
		}
	}
}

func TestReflectCircle(t *testing.T) {
	for _, c := range [][3]impl.Circle{
		{circle(0, 2, 1, 0), circle(1, -1, 0, 0), circle(2, 0, 1, 0)}, {circle(2, 0, 1, 0), circle(1, -1, 0, 0), circle(0, 2, 1, 0)}, {circle(1, -1, 0, 0), circle(0, 2, 1, 0), circle(1, 3, 2, 0)}, {circle(1, 3, 0, 2), circle(1, 3, 0, 2), circle(-1, -3, 0, -2)}, {circle(1, 3, 0, 2), circle(-1, 1, 0, 0), circle(3, 1, 0, 2)}, {circle(24, 1, 3, 4), circle(-1, 1, 0, 0), circle(1, 24, 3, 4)}, {circle(1, 1, 1, 1), circle(0, 2, 1, 0), circle(1, 1, 1, 1)},
		// Lines, in lines and circles.
		{circle(4, 0, 0, 1), circle(0, 0, 0, 1), circle(4, 0, 0, -1)}, {circle(4, 0, 0, 1), circle(7, 0, 1, 0), circle(4, 0, 0, 1)}, {circle(4, 0, 0, 1), circle(6, 0, 0, 1), circle(-8, 0, 0, -1)}, {circle(4, 0, 0, 1), circle(0, 2, 1, 0), circle(4, 16, 8, 1)}, {circle(0, 1, 1, 0), circle(4, 0, 1, 0), circle(8, 1, 3, 0)},
		// Numbers just at MaxCircle.
		{circle(0, 1, 0, 1), circle(1000, 0, 1, 0), circle(1000000, 1, 1000, 1)}, {circle(0, 0, 0, 1), circle(500000, 0, 0, 1), circle(-1000000, 0, 0, -1)}, {circle(1000000, 0, 0, 1), circle(1000000, 0, 0, 1), circle(-1000000, 0, 0, -1)}, {circle(1, 1000000, 1000, -1), circle(1, -1, 0, 0), circle(1000000, 1, 1000, -1)}, {circle(1000000, 1000000, 1000000, 1), circle(1, -1, 0, 0), circle(1000000, 1000000, 1000000, 1)}, {circle(1000000, 1000000, 1000000, 1), circle(1000000, 1000000, 1000000, 1), circle(-1000000, -1000000, -1000000, -1)},
	} {
		got, ok := impl.ReflectCircle(c[0], c[1])
		wantCircle(t, fmt.Sprint(c[0], c[1]), got, ok, c[2])
		back, ok := impl.ReflectCircle(c[2], c[1])
		wantCircle(t, fmt.Sprint(c[2], c[1]), back, ok, c[0])
	}
	for _, c := range [][2]impl.Circle{
		{circle(-1, 0, 0, 1), circle(500000, 0, 0, 1)}, {circle(1, 0, 0, -1), circle(500000, 0, 0, 1)}, {circle(0, 0, 0, 1), circle(500001, 0, 0, 1)}, {circle(0, 1, 0, 1), circle(1001, 0, 1, 0)}, {circle(4, 0, 0, 1), circle(0, 1000, 1, 0)}, {circle(1000000, 1000000, 1000000, 1), circle(1000000, 1000000, -1000000, 1)}, {circle(1000000, 1000000, 1000000, 1), circle(-1000000, -1000000, 1000000, -1)}, {circle(1000000, 0, 1, 0), circle(0, 1000000, 1, 0)},
	} {
		got, ok := impl.ReflectCircle(c[0], c[1])
		wantNoCircle(t, fmt.Sprint(c[0], c[1]), got, ok)
	}
}

// TestReflectionsOfManyCircles has the products of all great circles, which an int holds.
func TestReflectionsOfManyCircles(t *testing.T) {
	reflected := 0
	for _, c := range someCircles() {
		for _, d := range someCircles() {
			times := int(exactTwice(c, d).Int64())
			want := sumOfCircles([]impl.Circle{c, d}, 1, -times)
			got, ok := impl.ReflectCircle(c, d)
			wantCircleIf(t, fmt.Sprint(c, d), got, ok, want)
			if !ok {
				continue
			}
			reflected++
			back, ok := impl.ReflectCircle(got, d)
			wantCircle(t, fmt.Sprint(got, d), back, ok, c)
			twice, ok := impl.TwiceProduct(got, d)
			wantNumber(t, fmt.Sprint(got, d), twice, ok, -times)
		}
	}
	if reflected < 500 {
		t.Error("this is no test:", reflected)
	}
}

// TestShiftsAreTwoReflections shifts by reflections in parallel lines.
func TestShiftsAreTwoReflections(t *testing.T) {
	for _, c := range someCircles() {
		for _, by := range []int{0, 1, -2, 5, 100, -999, 1000} {
			first, ok := impl.ReflectCircle(c, circle(0, 0, 1, 0))
			second, okSecond := impl.ReflectCircle(first, circle(by, 0, 1, 0))
			got, okShift := impl.ShiftCircle(c, by, 0)
			if !ok || okSecond != okShift || second != got {
				t.Errorf("%v %d: %v %v but %v %v", c, by, second, okSecond, got, okShift)
			}
		}
	}
}

// movements are functions of one circle.
func movements() map[string]func(impl.Circle) (impl.Circle, bool) {
	all := map[string]func(impl.Circle) (impl.Circle, bool){"turn": impl.TurnCircle, "flip": impl.FlipCircle}
	for _, by := range [][2]int{{0, 0}, {1, 0}, {-2, 3}, {7, -50}, {1000, 1000}, {-1000, 999}} {
		all[fmt.Sprint("shift", by)] = func(c impl.Circle) (impl.Circle, bool) { return impl.ShiftCircle(c, by[0], by[1]) }
	}
	for _, d := range someCircles() {
		all[fmt.Sprint("reflection", d)] = func(c impl.Circle) (impl.Circle, bool) { return impl.ReflectCircle(c, d) }
	}
	return all
}

func TestPromise7MovementsKeepAllProducts(t *testing.T) {
	kept := 0
	for name, move := range movements() {
		for _, c := range someCircles() {
			for _, d := range someCircles() {
				first, okFirst := move(c)
				second, okSecond := move(d)
				if !okFirst || !okSecond {
					continue
				}
				before, _ := impl.TwiceProduct(c, d)
				after, ok := impl.TwiceProduct(first, second)
				wantNumber(t, fmt.Sprint(name, c, d), after, ok, before)
				kept++
			}
		}
	}
	if kept < 20000 {
		t.Error("this is no test:", kept)
	}
}

// TestPromise7MovementsKeepConfigurations moves before swaps and after them.
func TestPromise7MovementsKeepConfigurations(t *testing.T) {
	moved := 0
	for name, move := range movements() {
		for _, list := range configPool() {
			image, ok := movedList(list, move)
			if !ok {
				continue
			}
			is, ok := impl.IsConfig(image)
			wantAnswer(t, fmt.Sprint(name, list), is, ok, true)
			for i := range 4 {
				swapped, okSwapped := impl.SwapCircle(image, i)
				first, okFirst := impl.SwapCircle(list, i)
				then, okThen := movedList(first, move)
				if okSwapped && okFirst && okThen {
					wantCircleList(t, fmt.Sprint(name, list, i), swapped, okSwapped, then)
					moved++
				}
			}
		}
	}
	if moved < 1000 {
		t.Error("this is no test:", moved)
	}
}

func movedList(list []impl.Circle, move func(impl.Circle) (impl.Circle, bool)) ([]impl.Circle, bool) {
	var images []impl.Circle
	for _, c := range list {
		image, ok := move(c)
		if !ok {
			return nil, false
		}
		images = append(images, image)
	}
	return images, true
}

// drawnByWords goes through all words without equal neighbours, shorter ones first and equally long ones in lexicographic order.
func drawnByWords(list []impl.Circle, most int) []impl.Circle {
	drawn := slices.DeleteFunc(slices.Clone(list), func(c impl.Circle) bool { return c.Curvature > most })
	for length, before := 1, -1; before < len(drawn); length++ {
		before = len(drawn)
		var visit func(list []impl.Circle, last, left int)
		visit = func(list []impl.Circle, last, left int) {
			for i := range 4 {
				swapped := circlesSwappedAt(list, i)
				if i == last || swapped[i].Curvature > most {
					continue
				}
				if left == 1 {
					drawn = append(drawn, swapped[i])
				} else {
					visit(swapped, i, left-1)
				}
			}
		}
		visit(list, -1, length)
	}
	return drawn
}

// circlesBySearch goes through all configurations whose circles have Curvatures of at most beyond more, by all swaps, back ones too, and keeps each circle once.
func circlesBySearch(list []impl.Circle, most, beyond int) map[impl.Circle]bool {
	start := [4]impl.Circle(list)
	met := map[[4]impl.Circle]bool{start: true}
	waiting := [][4]impl.Circle{start}
	found := map[impl.Circle]bool{}
	for next := 0; next < len(waiting); next++ {
		for i, c := range waiting[next] {
			if c.Curvature <= most {
				found[c] = true
			}
			swapped := [4]impl.Circle(circlesSwappedAt(waiting[next][:], i))
			if swapped[i].Curvature <= most+beyond && !met[swapped] {
				met[swapped] = true
				waiting = append(waiting, swapped)
			}
		}
	}
	return found
}

// loweredConfig makes swaps down, and has the circles in another order.
func loweredConfig(list []impl.Circle, by int) []impl.Circle {
	for {
		curvatures := curvaturesIn(list)
		lower := circlesSwappedAt(list, slices.Index(curvatures, slices.Max(curvatures)))
		if sumOf(curvaturesIn(lower)) >= sumOf(curvatures) {
			return circlesRotated(list, by)
		}
		list = lower
	}
}

// rootConfigs have a circle around the others.
func rootConfigs() [][]impl.Circle {
	lists := [][]impl.Circle{ringOf(1), ringOf(2), ringOf(3), ringOf(6), ringOf(7), ringOf(12), ringOf(29), ringOf(59), ringOf(60), ringOf(315)}
	for _, list := range movedDiscs() {
		for _, other := range [][]impl.Circle{list, eachCircle(eachCircle(list, shiftedBy(1, 2)), inverted)} {
			if sumOf(curvaturesIn(other)) < 0 {
				other = eachCircle(other, turnedInside)
			}
			if root := loweredConfig(other, len(lists)%4); slices.Min(curvaturesIn(root)) < 0 {
				lists = append(lists, root)
			}
		}
	}
	return lists
}

func TestDrawnCircles(t *testing.T) {
	start := discs()
	for _, c := range []struct {
		list []impl.Circle
		most int
		want []impl.Circle
	}{
		{start, 1, start[:1]}, {start, 2, start[:3]},
		{start, 3, append(discs(), circle(1, 3, 0, -2))}, {start, 5, append(discs(), circle(1, 3, 0, -2))},
		{start, 6, append(discs(), circle(4, 6, -3, 4), circle(4, 6, 3, 4), circle(1, 3, 0, -2), circle(4, 6, -3, -4), circle(4, 6, 3, -4))},
		{circlesRotated(start, 2), 3, []impl.Circle{circle(0, 2, -1, 0), circle(1, 3, 0, 2), circle(1, -1, 0, 0), circle(0, 2, 1, 0), circle(1, 3, 0, -2)}},
		{circlesRotated(start, 2), 6, []impl.Circle{circle(0, 2, -1, 0), circle(1, 3, 0, 2), circle(1, -1, 0, 0), circle(0, 2, 1, 0), circle(4, 6, 3, 4), circle(1, 3, 0, -2), circle(4, 6, -3, 4), circle(4, 6, 3, -4), circle(4, 6, -3, -4)}},
		{ringOf(2), 5, ringOf(2)[:2]}, {ringOf(2), 6, ringOf(2)[:3]}, {ringOf(2), 7, append(ringOf(2), circle(4, 7, -5, -2))},
		{ringOf(59), 59, ringOf(59)[:1]}, {ringOf(59), 60, ringOf(59)[:2]}, {ringOf(60), 60, ringOf(60)[:1]}, {ringOf(315), 60, ringOf(315)[:1]}, {ringOf(315), 1, ringOf(315)[:1]},
	} {
		got, ok := impl.CirclesUpTo(c.list, c.most)
		wantCircleList(t, fmt.Sprint(c.list, c.most), got, ok, c.want)
	}
}

// TestDrawnCirclesOfManyPackings holds the lists against their order by words, and against a search that knows neither order nor tree.
func TestDrawnCirclesOfManyPackings(t *testing.T) {
	least := map[int]bool{}
	for _, list := range rootConfigs() {
		curvatures := curvaturesIn(list)
		least[slices.Min(curvatures)] = true
		for most := 1; most <= 60; most++ {
			name := fmt.Sprint(list, most)
			want := drawnByWords(list, most)
			got, ok := impl.CirclesUpTo(list, most)
			wantCircleList(t, name, got, ok, want)
			count, ok := impl.CountUpTo(curvatures, most)
			wantNumber(t, name, len(got), ok, count)
		}
		want := circlesBySearch(list, 60, 100)
		got, ok := impl.CirclesUpTo(list, 60)
		if !ok || len(got) != len(want) || !maps.Equal(want, setOf(got)) {
			t.Errorf("%v: a search finds %d circles, not %d", list, len(want), len(got))
		}
	}
	if len(least) < 30 {
		t.Error("this is no test:", least)
	}
}

func setOf(list []impl.Circle) map[impl.Circle]bool {
	set := map[impl.Circle]bool{}
	for _, c := range list {
		set[c] = true
	}
	return set
}

// TestGreatestDrawing has the packing with the most circles: as it has only 85 of them, no list is near to MaxDrawn.
func TestGreatestDrawing(t *testing.T) {
	got, ok := impl.CirclesUpTo(discs(), 60)
	if !ok || len(got) != 85 || len(setOf(got)) != 85 {
		t.Errorf("%d circles, %v", len(got), ok)
	}
	roots, _ := impl.AllRootsUpTo(impl.MaxOuter)
	for _, root := range roots {
		if count, _ := impl.CountUpTo(root, 60); count > 85 {
			t.Error(root, count)
		}
	}
}

// TestDrawnNumbersAtMaxCircle has packings so far away that a circle up to a bound has a number just at MaxCircle, and one up to another bound has one beyond.
func TestDrawnNumbersAtMaxCircle(t *testing.T) {
	for _, c := range []struct {
		list        []impl.Circle
		x, y        int
		most        int
		beyond      int
		to          impl.Circle
		isAmongThem bool
	}{
		{discs(), 262, 312, 10, 11, circle(1000000, 6, 1575, 1876), true}, {discs(), -262, -312, 10, 11, circle(1000000, 6, -1575, -1876), true},
		{ringOf(1), 263, -312, 10, 11, circle(1000000, 6, 1575, -1876), true}, {ringOf(2), -170, 128, 26, 27, circle(1000000, 22, -3745, 2824), true}, {ringOf(3), 66, 241, 20, 21, circle(1000000, 16, 1049, 3860), true}, {ringOf(3), 56, -148, 47, 48, circle(1000000, 40, 2215, -5924), true},
		{ringOf(2), 179, 186, 14, 15, circle(1000001, 15, 2680, 2796), false}, {ringOf(2), 179, -186, 14, 15, circle(1000001, 15, 2680, -2796), false},
	} {
		list := eachCircle(c.list, shiftedBy(c.x, c.y))
		for most := 1; most <= 60; most++ {
			name := fmt.Sprint(list, most)
			want := drawnByWords(list, most)
			if slices.Contains(want, c.to) != (most >= c.to.Curvature) {
				t.Fatal("this is no test:", name)
			}
			got, ok := impl.CirclesUpTo(list, most)
			if most >= c.beyond {
				wantNoCircleList(t, name, got, ok)
				continue
			}
			wantCircleList(t, name, got, ok, want)
		}
		got, _ := impl.CirclesUpTo(list, c.most)
		if slices.Contains(got, c.to) != c.isAmongThem {
			t.Errorf("%v: %v", list, got)
		}
	}
}

// notRootConfigs are configurations, but have no root or no number less than 0.
func notRootConfigs() [][]impl.Circle {
	lists := [][]impl.Circle{strip(), circlesRotated(strip(), 2), highStrip(300), highStrip(499), circlesSwappedAt(strip(), 2), circlesSwappedAt(strip(), 0), eachCircle(strip(), shiftedBy(3, 5)), eachCircle(discs(), inverted)}
	for i := range 3 {
		lists = append(lists, circlesSwappedAt(discs(), i), circlesSwappedAt(ringOf(5), i), circlesSwappedAt(circlesSwappedAt(discs(), i), (i+1)%3))
	}
	// Curvatures with a sum less than 0, or beyond MaxCurvature, are no quad.
	return append(lists, eachCircle(discs(), turnedInside), eachCircle(strip(), turnedInside), eachCircle(ringOf(9), turnedInside), ringOf(316), ringOf(500), ringOf(999))
}

func TestConfigurationsThatCannotBeDrawn(t *testing.T) {
	for _, list := range notRootConfigs() {
		is, ok := impl.IsConfig(list)
		wantAnswer(t, fmt.Sprint(list), is, ok, true)
		for _, most := range []int{1, 2, 30, 60} {
			got, ok := impl.CirclesUpTo(list, most)
			wantNoCircleList(t, fmt.Sprint(list, most), got, ok)
		}
	}
	for _, most := range notDrawnBounds() {
		for _, list := range append(notRootConfigs(), discs(), ringOf(2), ringOf(315), nil) {
			got, ok := impl.CirclesUpTo(list, most)
			wantNoCircleList(t, fmt.Sprint(list, most), got, ok)
		}
	}
}

// TestPromise7CirclesOfAPackingDoNotCross has no twice product between -2 and 2 but that of touching circles, and no circle around another one but the outer one, whose Curvature is less than 0.
func TestPromise7CirclesOfAPackingDoNotCross(t *testing.T) {
	for _, list := range rootConfigs() {
		drawn, ok := impl.CirclesUpTo(list, 60)
		if !ok {
			t.Errorf("%v cannot be drawn", list)
		}
		for i, c := range drawn {
			for _, d := range drawn[i+1:] {
				if twice, ok := impl.TwiceProduct(c, d); !ok || twice > -2 {
					t.Errorf("%v: %v and %v have the twice product %d, %v", list, c, d, twice, ok)
				}
			}
		}
	}
}

// pairsByProducts asks for each pair of indices alone.
func pairsByProducts(list []impl.Circle) [][]int {
	var pairs [][]int
	for i := range list {
		for j := range list {
			if i < j && exactTwice(list[i], list[j]).Cmp(big.NewInt(-2)) == 0 {
				pairs = append(pairs, []int{i, j})
			}
		}
	}
	return pairs
}

func TestTouchingPairs(t *testing.T) {
	for _, c := range []struct {
		list []impl.Circle
		want [][]int
	}{
		{nil, nil}, {[]impl.Circle{}, nil}, {discs()[:1], nil}, {strip()[:1], nil}, {discs()[:2], [][]int{{0, 1}}}, {strip()[:2], [][]int{{0, 1}}},
		{[]impl.Circle{circle(1, 3, 0, 2), circle(1, 3, 0, 2)}, nil}, {[]impl.Circle{circle(1, 3, 0, 2), circle(1, 3, 0, -2)}, nil}, {[]impl.Circle{circle(1, 3, 0, 2), circle(-1, -3, 0, -2)}, [][]int{{0, 1}}},
		{discs(), [][]int{{0, 1}, {0, 2}, {0, 3}, {1, 2}, {1, 3}, {2, 3}}}, {strip(), [][]int{{0, 1}, {0, 2}, {0, 3}, {1, 2}, {1, 3}, {2, 3}}},
		{append(discs(), circle(1, 3, 0, -2)), [][]int{{0, 1}, {0, 2}, {0, 3}, {0, 4}, {1, 2}, {1, 3}, {1, 4}, {2, 3}, {2, 4}}},
		{[]impl.Circle{circle(0, 2, 1, 0), circle(1, -1, 0, 0), circle(0, 2, 1, 0), circle(1, -1, 0, 0)}, [][]int{{0, 1}, {0, 3}, {1, 2}, {2, 3}}},
		{[]impl.Circle{circle(0, 1, 0, 1), circle(4, 1, 2, 1), circle(16, 1, 4, 1), circle(36, 1, 6, 1)}, [][]int{{0, 1}, {1, 2}, {2, 3}}},
	} {
		got, ok := impl.TouchingPairs(c.list)
		wantLists(t, fmt.Sprint(c.list), got, ok, c.want)
	}
	for _, list := range slices.Concat(configPool(), notTouching(), [][]impl.Circle{someCircles()[:40], greatCircles(), slices.Repeat(discs(), 10)}) {
		got, ok := impl.TouchingPairs(list)
		wantLists(t, fmt.Sprint(list), got, ok, pairsByProducts(list))
	}
}

func TestTouchingPairsOfLongLists(t *testing.T) {
	drawn, _ := impl.CirclesUpTo(discs(), 60)
	for _, all := range [][]impl.Circle{drawn, slices.Repeat(strip(), 15), slices.Repeat(strip()[:1], 60), slices.Repeat(greatCircles(), 3)} {
		for length := range 50 {
			got, ok := impl.TouchingPairs(all[:length])
			if length > 40 {
				wantNoLists(t, fmt.Sprint(all[:length]), got, ok)
				continue
			}
			wantLists(t, fmt.Sprint(all[:length]), got, ok, pairsByProducts(all[:length]))
		}
	}
	for i := range 40 {
		list := slices.Clone(drawn[:40])
		list[i].Co++
		got, ok := impl.TouchingPairs(list)
		wantNoLists(t, fmt.Sprint(list), got, ok)
	}
}

// TestPairsOfAPacking has three more pairs for each circle after the four, as it is put between three that touch.
func TestPairsOfAPacking(t *testing.T) {
	asked := 0
	for _, list := range rootConfigs() {
		for most := slices.Max(curvaturesIn(list)); most <= 60; most++ {
			drawn, _ := impl.CirclesUpTo(list, most)
			if len(drawn) > 40 {
				break
			}
			pairs, ok := impl.TouchingPairs(drawn)
			wantNumber(t, fmt.Sprint(list, most), len(pairs), ok, 3*len(drawn)-6)
			asked++
		}
	}
	if asked < 200 {
		t.Error("this is no test:", asked)
	}
}

func TestCircleText(t *testing.T) {
	for text, c := range map[string]impl.Circle{
		"1 -1 0 0": circle(1, -1, 0, 0), "0 2 1 0": circle(0, 2, 1, 0), "4 2 3 0": circle(4, 2, 3, 0), "1 3 0 -2": circle(1, 3, 0, -2), "4 0 0 1": circle(4, 0, 0, 1), "-3 0 0 -1": circle(-3, 0, 0, -1), "-15 -15 -15 1": circle(-15, -15, -15, 1), "-12 -14 5 -12": circle(-12, -14, 5, -12),
		"1000000 1000000 1000000 1": circle(1000000, 1000000, 1000000, 1), "-1000000 -1000000 -1 -1000000": circle(-1000000, -1000000, -1, -1000000), "999998 1000000 -999999 0": circle(999998, 1000000, -999999, 0), "1000000 0 1 0": circle(1000000, 0, 1, 0),
	} {
		got, ok := impl.CircleText(c)
		wantText(t, fmt.Sprint(c), got, ok, text)
		back, ok := impl.ParseCircle(text)
		wantCircle(t, text, back, ok, c)
	}
	for _, c := range slices.Concat(append(configPool(), someCircles())...) {
		text, ok := impl.CircleText(c)
		wantText(t, fmt.Sprint(c), text, ok, strings.Trim(fmt.Sprint(c), "{}"))
		back, ok := impl.ParseCircle(text)
		wantCircle(t, text, back, ok, c)
	}
}

func TestTextsOfNoCircle(t *testing.T) {
	for _, text := range notCircleTexts() {
		got, ok := impl.ParseCircle(text)
		wantNoCircle(t, fmt.Sprintf("%.60q", text), got, ok)
	}
	for _, c := range notCircles() {
		text := strings.Trim(fmt.Sprint(c), "{}")
		got, ok := impl.ParseCircle(text)
		wantNoCircle(t, text, got, ok)
	}
}

// circleOfText has the grammar of a CircleText.
func circleOfText(text string) impl.Circle {
	grammar := regexp.MustCompile(`\A(0|-?[1-9][0-9]*) (0|-?[1-9][0-9]*) (0|-?[1-9][0-9]*) (0|-?[1-9][0-9]*)\z`)
	var c impl.Circle
	if grammar.MatchString(text) {
		fmt.Sscan(text, &c.Co, &c.Curvature, &c.X, &c.Y)
	}
	return c
}

// TestTextsWithAnotherByte puts each byte into each place of a text, and in place of each byte, and takes each byte away.
func TestTextsWithAnotherByte(t *testing.T) {
	told := 0
	for _, text := range []string{"1 -1 0 0", "1 3 0 -2", "0 2 1 0", "4 0 0 1", "-1000000 0 0 -1", "24 1 3 4"} {
		var others []string
		for place := range len(text) {
			for letter := range 256 {
				others = append(others, text[:place]+string([]byte{byte(letter)})+text[place:], text[:place]+string([]byte{byte(letter)})+text[place+1:], text+string([]byte{byte(letter)}))
			}
			others = append(others, text[:place]+text[place+1:])
		}
		for _, other := range others {
			got, ok := impl.ParseCircle(other)
			wantCircleIf(t, other, got, ok, circleOfText(other))
			if ok {
				told++
			}
		}
	}
	if told < 50 {
		t.Error("this is no test:", told)
	}
}

func TestPromise11OfCircles(t *testing.T) {
	circles := append(someCircles(), notCircles()...)
	for _, c := range circles {
		checkTotal(t, "IsCircle", impl.IsCircle, c)
		checkTotal(t, "TurnCircle", impl.TurnCircle, c)
		checkTotal(t, "FlipCircle", impl.FlipCircle, c)
		checkTotal(t, "CircleText", impl.CircleText, c)
		for _, d := range circles {
			checkTotal(t, "TwiceProduct", impl.TwiceProduct, c, d)
			checkTotal(t, "DoTouch", impl.DoTouch, c, d)
			checkTotal(t, "ReflectCircle", impl.ReflectCircle, c, d)
		}
		for _, x := range append(notShifts(), 0, 1, -1000, 1000) {
			checkTotal(t, "ShiftCircle", impl.ShiftCircle, c, x, 0)
			checkTotal(t, "ShiftCircle", impl.ShiftCircle, c, -1, x)
			checkTotal(t, "ShiftCircle", impl.ShiftCircle, c, x, x)
		}
	}
	for _, text := range append(notCircleTexts(), "1 -1 0 0", "4 0 0 1", "1000000 1000000 1000000 1") {
		checkTotal(t, "ParseCircle", impl.ParseCircle, text)
	}
	for _, kind := range []int{0, 1, -1, 2, 1 << 32, math.MinInt, math.MaxInt} {
		checkTotal(t, "StartConfig", impl.StartConfig, kind)
	}
}

func TestPromise11OfCircleLists(t *testing.T) {
	drawn, _ := impl.CirclesUpTo(discs(), 60)
	words := append(notCircleWords(), nil, []int{}, []int{0}, []int{3, 2}, []int{0, 1, 2, 3}, repeated(0, 40), slices.Repeat([]int{2, 3}, 20), slices.Repeat([]int{0, 1, 2, 3}, 10))
	for _, list := range slices.Concat(configPool(), rootConfigs(), notRootConfigs(), notConfigs(), [][]impl.Circle{drawn[:40], drawn[:41], drawn, notCircles(), someCircles()}) {
		checkTotal(t, "IsConfig", impl.IsConfig, list)
		checkTotal(t, "CurvaturesOf", impl.CurvaturesOf, list)
		checkTotal(t, "TouchingPairs", impl.TouchingPairs, list)
		for _, i := range append(notCircleIndices(), 0, 1, 2, 3) {
			checkTotal(t, "SwapCircle", impl.SwapCircle, list, i)
		}
		for _, word := range words {
			checkTotal(t, "FollowCircles", impl.FollowCircles, list, word)
		}
		for _, most := range append(notDrawnBounds(), 1, 2, 7, 60) {
			checkTotal(t, "CirclesUpTo", impl.CirclesUpTo, list, most)
		}
	}
}

// TestPromise11OfCircleAnswers changes answers and looks whether later ones, or the argument, change with them.
func TestPromise11OfCircleAnswers(t *testing.T) {
	list := discs()
	same, _ := impl.FollowCircles(list, nil)
	same[0].Co = 9
	swapped, _ := impl.SwapCircle(list, 3)
	swapped[1].X = 9
	drawn, _ := impl.CirclesUpTo(list, 3)
	drawn[0], drawn[2].Y = circle(9, 9, 9, 9), 9
	curvatures, _ := impl.CurvaturesOf(list)
	curvatures[3] = 9
	wantCircleList(t, "argument", list, true, discs())
	drawn, ok := impl.CirclesUpTo(list, 3)
	wantCircleList(t, "drawn", drawn, ok, append(discs(), circle(1, 3, 0, -2)))
	for kind, want := range [][]impl.Circle{discs(), strip()} {
		start, _ := impl.StartConfig(kind)
		start[0], start[3].Curvature = circle(9, 9, 9, 9), 9
		start, ok := impl.StartConfig(kind)
		wantCircleList(t, "start", start, ok, want)
	}
	pairs, _ := impl.TouchingPairs(list)
	for _, pair := range pairs {
		pair[0] = 9
	}
	if !reflect.DeepEqual(pairs, [][]int{{9, 1}, {9, 2}, {9, 3}, {9, 2}, {9, 3}, {9, 3}}) {
		t.Error("memory is shared:", pairs)
	}
	pairs, ok = impl.TouchingPairs(list[:2])
	wantLists(t, "pairs", pairs, ok, [][]int{{0, 1}})
}
