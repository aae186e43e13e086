package tests

import (
	"fmt"
	"math"
	"math/big"
	"reflect"
	"slices"
	"testing"

	"loop.example/g01122/impl"
)

// treeOfRights has the functions of one of the two trees, and what the document tells of it.
type treeOfRights struct {
	name      string
	child     func(t []int, k int) ([]int, bool)
	parent    func(t []int) ([]int, int, bool)
	word      func(t []int) ([]int, bool)
	follow    func(word []int) ([]int, bool)
	matrix    func(k int) (impl.Matrix, bool)
	childPair func(m, n, k int) (int, int)
}

func treesOfRights() []treeOfRights {
	return []treeOfRights{
		{"Berg", impl.BergChild, impl.BergParent, impl.BergWord, impl.RightByBerg, impl.BergMatrix, func(m, n, k int) (int, int) {
			switch k {
			case 0:
				return 2*m - n, m
			case 1:
				return 2*m + n, m
			}
			return m + 2*n, n
		}},
		{"Price", impl.PriceChild, impl.PriceParent, impl.PriceWord, impl.RightByPrice, impl.PriceMatrix, func(m, n, k int) (int, int) {
			switch k {
			case 0:
				return m + n, 2 * n
			case 1:
				return 2 * m, m - n
			}
			return 2 * m, m + n
		}},
	}
}

func madeOf(m, n int) []int { return []int{m*m - n*n, 2 * m * n, m*m + n*n} }

func divisorOf(a, b int) int {
	for b != 0 {
		a, b = b, a%b
	}
	return a
}

func isPairOfRight(m, n int) bool {
	return m > n && n >= 1 && (m%2 == 0 || n%2 == 0) && divisorOf(m, n) == 1
}

// isRightExactly has no number that is too great for it, but for the limit itself.
func isRightExactly(list []int) bool {
	if len(list) != 3 || slices.Min(list) < 1 || slices.Max(list) > impl.MaxSide || list[0]%2 == 0 || list[1]%2 == 1 {
		return false
	}
	square := func(n int) *big.Int { return new(big.Int).Mul(big.NewInt(int64(n)), big.NewInt(int64(n))) }
	sum := new(big.Int).Add(square(list[0]), square(list[1]))
	return sum.Cmp(square(list[2])) == 0 && divisorOf(list[0], divisorOf(list[1], list[2])) == 1
}

// rightsUpTo tries all x and y, and orders what it finds by z and then by x.
func rightsUpTo(most int) [][]int {
	var found [][]int
	for x := 1; x < most; x += 2 {
		for y := 2; y < most; y += 2 {
			z := int(math.Sqrt(float64(x*x + y*y)))
			if z <= most && isRightExactly([]int{x, y, z}) {
				found = append(found, []int{x, y, z})
			}
		}
	}
	slices.SortFunc(found, func(t, other []int) int {
		if t[2] != other[2] {
			return t[2] - other[2]
		}
		return t[0] - other[0]
	})
	return found
}

// greatRights have numbers near to MaxSide, and very long words in the first tree.
func greatRights() [][]int {
	pairs := [][2]int{
		// The greatest numbers of all, and of each child of both trees.
		{31620, 419}, {30685, 7644}, {30145, 9554}, {28635, 13418}, {26498, 17277},
		// The longest words: numbers that differ by 1, and a number that is 1.
		{22361, 22360}, {22360, 22359}, {31622, 1}, {31620, 1}, {31621, 2}, {28977, 12544},
		{20000, 1}, {16384, 1}, {16385, 16384}, {27720, 13859}, {27720, 13861}, {25000, 19049}, {17711, 10946},
	}
	var rights [][]int
	for _, p := range pairs {
		if list := madeOf(p[0], p[1]); isPairOfRight(p[0], p[1]) && list[2] <= impl.MaxSide {
			rights = append(rights, list)
		}
	}
	for m := 31622; m > 15000; m -= 997 {
		for n := m - 1; n >= 1; n -= 1 + m/6 {
			if list := madeOf(m, n); isPairOfRight(m, n) && list[2] <= impl.MaxSide {
				rights = append(rights, list)
			}
		}
	}
	return rights
}

// wrappedRights fit modulo 2 to the power of 64 only.
func wrappedRights() [][]int {
	return [][]int{
		{3, 4 + 1<<61, 5}, {3, 4 + 1<<62, 5}, {15, 8 + 1<<60, 17}, {math.MaxInt - 2, 4, 5}, {3, 4, math.MaxInt - 4}, {math.MaxInt - 2, 4, math.MaxInt - 4},
		{math.MinInt + 3, 4, 5}, {3, math.MinInt + 4, 5}, {3, 4, math.MinInt + 5}, {math.MinInt + 3, 4, math.MinInt + 5}, {math.MinInt + 3, math.MinInt + 4, math.MinInt + 5},
		{1, 1 << 32, 1}, {1, 1 << 40, 1}, {1, math.MinInt, 1}, {math.MaxInt, math.MinInt, math.MaxInt}, {1, math.MinInt, math.MaxInt},
	}
}

// notRights are invalid wherever a right triple is required.
func notRights() [][]int {
	return append(wrappedRights(), [][]int{
		nil, {}, {3}, {5}, {3, 4}, {4, 5}, {3, 4, 5, 0}, {0, 3, 4, 5}, {3, 4, 5, 5}, {3, 4, 5, 3, 4, 5}, repeated(1, 50),
		// x and y exchanged, and other orders.
		{4, 3, 5}, {12, 5, 13}, {8, 15, 17}, {3, 5, 4}, {5, 3, 4}, {5, 4, 3}, {4, 5, 3}, {17, 8, 15},
		// Common divisors; the pair of 8 6 10 is 3 and 1, of which none is even.
		{6, 8, 10}, {8, 6, 10}, {9, 12, 15}, {15, 20, 25}, {21, 28, 35}, {45, 24, 51}, {75, 40, 85}, {12, 16, 20}, {16, 12, 20}, {24, 10, 26}, {333333333, 444444444, 555555555}, {600000000, 800000000, impl.MaxSide}, {800000000, 600000000, impl.MaxSide},
		// Numbers less than 1.
		{0, 0, 0}, {1, 0, 1}, {0, 1, 1}, {0, 4, 4}, {-1, 0, 1}, {-3, 4, 5}, {3, -4, 5}, {3, 4, -5}, {-3, -4, 5}, {-3, -4, -5}, {-3, 4, -5},
		// The squares do not fit.
		{1, 1, 1}, {2, 2, 2}, {1, 2, 3}, {1, 2, 2}, {3, 4, 4}, {3, 4, 6}, {3, 2, 5}, {3, 6, 5}, {1, 4, 5}, {5, 4, 5}, {15, 6, 17}, {7, 24, 26}, {3, 4, 7}, {33, 16, 65}, {63, 56, 65},
		{999648839, 26497560, 999999960}, {999648839, 26497562, 999999961}, {999648841, 26497560, 999999961}, {999648837, 26497560, 999999963}, {impl.MaxSide - 1, impl.MaxSide, impl.MaxSide - 1}, repeated(impl.MaxSide, 3),
		// All fits, but a number is beyond MaxSide.
		madeOf(31400, 3747), madeOf(31614, 745), madeOf(31623, 2), madeOf(22362, 22361), madeOf(23596, 21053), madeOf(100000, 1), madeOf(1<<30, 1), madeOf(1<<30, 1<<30-1),
		{math.MaxInt, math.MaxInt, math.MaxInt}, {math.MinInt, math.MinInt, math.MinInt}, {math.MaxInt, 4, 5}, {3, math.MaxInt, 5}, {3, 4, math.MaxInt}, {3, 4, math.MinInt}, {math.MinInt, 4, 5}, {1 << 32, 1 << 32, 1 << 32}, {1<<32 + 1, 1 << 32, 1<<32 + 1}, {math.MaxInt, math.MinInt, 1},
	}...)
}

// notPairsOfRights are no pairs, or make a number beyond MaxSide.
func notPairsOfRights() [][2]int {
	return [][2]int{
		{0, 0}, {1, 0}, {2, 0}, {0, 1}, {1, 1}, {1, 2}, {2, 2}, {2, 3}, {7, 8}, {2, -1}, {3, -2}, {-1, -2}, {-2, -1}, {-2, 1}, {-1, 2}, {1, -2}, {-4, -1},
		{3, 1}, {5, 3}, {31621, 1}, {9, 7}, {4, 2}, {6, 3}, {6, 2}, {9, 6}, {12, 3}, {15, 10}, {35, 14}, {31620, 15}, {21, 14}, {1000, 999 * 2},
		{31400, 3747}, {31614, 745}, {31623, 2}, {31623, 31622}, {22362, 22361}, {40000, 1}, {100000, 99999}, {impl.MaxSide, 1}, {impl.MaxSide, impl.MaxSide - 1}, {impl.MaxSide + 1, impl.MaxSide},
		// Their squares, products and sums pass what an int holds, and some of them come back to what fits.
		{1 << 32, 1}, {1 << 32, 3}, {1 << 33, 5}, {1 << 40, 999}, {1<<62 + 2, 1}, {1<<61 + 2, 1}, {1<<60 + 4, 3}, {3037000500, 1}, {4294967298, 1}, {math.MaxInt, 2}, {math.MaxInt - 1, 1}, {math.MaxInt, math.MaxInt - 1}, {math.MaxInt - 2, 2}, {math.MaxInt, math.MinInt}, {math.MinInt, math.MaxInt}, {math.MinInt, math.MinInt}, {2, math.MinInt}, {math.MinInt, 1}, {1, math.MaxInt}, {2, math.MinInt + 1},
	}
}

func notChildren() []int { return []int{-1, 3, 4, -3, 1 << 32, math.MinInt, math.MaxInt} }

// notWordsOfRights are too long, or have other numbers than those of children.
func notWordsOfRights() [][]int {
	long := func(index, number int) []int {
		word := repeated(0, impl.MaxWord)
		word[index] = number
		return word
	}
	return [][]int{
		repeated(0, impl.MaxWord+1), repeated(1, impl.MaxWord+1), repeated(2, impl.MaxWord+1), repeated(0, 100), repeated(2, 5000),
		{3}, {-1}, {0, 3}, {3, 0}, {2, -1}, {-1, 2}, {1, 4, 1}, {math.MinInt}, {math.MaxInt}, {0, math.MinInt}, {1 << 32}, long(0, 3), long(39, 3), long(39, -1), long(20, math.MaxInt),
	}
}

func wantNoParent(t *testing.T, name string, got []int, k int, ok bool) {
	t.Helper()
	if ok || len(got) != 0 || k != 0 {
		t.Errorf("%s: %v %v %v instead of a failure", name, got, k, ok)
	}
}

func wantParent(t *testing.T, name string, got []int, k int, ok bool, want []int, wantK int) {
	t.Helper()
	if !ok || !slices.Equal(got, want) || k != wantK {
		t.Errorf("%s: %v %v %v instead of %v %v", name, got, k, ok, want, wantK)
	}
}

func TestConstantsOfChapter5(t *testing.T) {
	got := [2]int{impl.MaxSide, impl.MaxLeast}
	if got != [2]int{1000000000, 5000} {
		t.Error(got)
	}
}

func TestIsRight(t *testing.T) {
	known := [][]int{{3, 4, 5}, {5, 12, 13}, {15, 8, 17}, {7, 24, 25}, {21, 20, 29}, {35, 12, 37}, {63, 16, 65}, {33, 56, 65}, {999648839, 26497560, 999999961}, {883138489, 469112280, 999999961}, {44721, 999983920, 999983921}}
	for _, list := range append(known, greatRights()...) {
		if !impl.IsRight(list) || !isRightExactly(list) {
			t.Errorf("%v is not told as a right triple", list)
		}
	}
	for _, list := range notRights() {
		if impl.IsRight(list) || isRightExactly(list) {
			t.Errorf("%v is told as a right triple", list)
		}
	}
}

func TestIsRightBeyondAnInt(t *testing.T) {
	for _, list := range wrappedRights() {
		if list[0]*list[0]+list[1]*list[1] != list[2]*list[2] {
			t.Error("this is no test:", list)
		}
		if impl.IsRight(list) {
			t.Errorf("%v is told as a right triple", list)
		}
	}
}

func TestIsRightOfAllLessNumbers(t *testing.T) {
	for x := -5; x <= 66; x++ {
		for y := -5; y <= 66; y++ {
			for z := -5; z <= 66; z++ {
				list := []int{x, y, z}
				if impl.IsRight(list) != isRightExactly(list) {
					t.Errorf("IsRight%v is %v", list, impl.IsRight(list))
				}
			}
		}
	}
}

func TestRightOfPair(t *testing.T) {
	for _, c := range []struct {
		m, n int
		want []int
	}{
		{2, 1, []int{3, 4, 5}}, {4, 1, []int{15, 8, 17}}, {3, 2, []int{5, 12, 13}}, {4, 3, []int{7, 24, 25}}, {5, 2, []int{21, 20, 29}}, {7, 4, []int{33, 56, 65}}, {15, 14, []int{29, 420, 421}},
		{31620, 419, []int{999648839, 26497560, 999999961}}, {30685, 7644, []int{883138489, 469112280, 999999961}}, {22361, 22360, []int{44721, 999983920, 999983921}}, {31622, 1, []int{999950883, 63244, 999950885}},
	} {
		got, ok := impl.RightOfPair(c.m, c.n)
		wantList(t, fmt.Sprint(c.m, c.n), got, ok, c.want)
	}
	for _, p := range notPairsOfRights() {
		got, ok := impl.RightOfPair(p[0], p[1])
		wantNoList(t, fmt.Sprint(p), got, ok)
	}
	for m := -3; m <= 80; m++ {
		for n := -3; n <= 80; n++ {
			got, ok := impl.RightOfPair(m, n)
			if !isPairOfRight(m, n) {
				wantNoList(t, fmt.Sprint(m, n), got, ok)
				continue
			}
			wantList(t, fmt.Sprint(m, n), got, ok, madeOf(m, n))
		}
	}
}

// TestRightOfPairAtMaxSide has for each m the greatest n whose z is at most MaxSide, and the least beyond.
func TestRightOfPairAtMaxSide(t *testing.T) {
	for m := 22000; m <= 31700; m += 3 {
		last := int(math.Sqrt(float64(max(impl.MaxSide-m*m, 0))))
		for n := max(last-3, 1); n <= last+4; n++ {
			got, ok := impl.RightOfPair(m, n)
			if !isPairOfRight(m, n) || m*m+n*n > impl.MaxSide {
				wantNoList(t, fmt.Sprint(m, n), got, ok)
				continue
			}
			wantList(t, fmt.Sprint(m, n), got, ok, madeOf(m, n))
		}
	}
}

func TestPairOfRight(t *testing.T) {
	for _, c := range []struct {
		list []int
		m, n int
	}{
		{[]int{3, 4, 5}, 2, 1}, {[]int{15, 8, 17}, 4, 1}, {[]int{5, 12, 13}, 3, 2}, {[]int{63, 16, 65}, 8, 1}, {[]int{33, 56, 65}, 7, 4},
		{[]int{999648839, 26497560, 999999961}, 31620, 419}, {[]int{44721, 999983920, 999983921}, 22361, 22360}, {[]int{999950883, 63244, 999950885}, 31622, 1},
	} {
		m, n, ok := impl.PairOfRight(c.list)
		if !ok || m != c.m || n != c.n {
			t.Errorf("%v: %v %v %v", c.list, m, n, ok)
		}
	}
	for _, list := range notRights() {
		m, n, ok := impl.PairOfRight(list)
		if ok || m != 0 || n != 0 {
			t.Errorf("%v has the pair %v %v", list, m, n)
		}
	}
}

func TestPromise5EachTripleHasOnePair(t *testing.T) {
	for _, list := range append(rightsUpTo(impl.MaxLeast), greatRights()...) {
		m, n, ok := impl.PairOfRight(list)
		if !ok || !isPairOfRight(m, n) || !slices.Equal(madeOf(m, n), list) {
			t.Errorf("%v has the pair %v %v %v", list, m, n, ok)
		}
		made, ok := impl.RightOfPair(m, n)
		wantList(t, fmt.Sprint(m, n), made, ok, list)
	}
}

func TestChildrenOfRights(t *testing.T) {
	for _, c := range []struct {
		list []int
		want [2][3][]int
	}{
		{[]int{3, 4, 5}, [2][3][]int{
			{{5, 12, 13}, {21, 20, 29}, {15, 8, 17}},
			{{5, 12, 13}, {15, 8, 17}, {7, 24, 25}},
		}},
		{[]int{5, 12, 13}, [2][3][]int{
			{{7, 24, 25}, {55, 48, 73}, {45, 28, 53}},
			{{9, 40, 41}, {35, 12, 37}, {11, 60, 61}},
		}},
		{[]int{15, 8, 17}, [2][3][]int{
			{{33, 56, 65}, {65, 72, 97}, {35, 12, 37}},
			{{21, 20, 29}, {55, 48, 73}, {39, 80, 89}},
		}},
	} {
		for i, tree := range treesOfRights() {
			for k, want := range c.want[i] {
				got, ok := tree.child(c.list, k)
				wantList(t, fmt.Sprint(tree.name, c.list, k), got, ok, want)
			}
		}
	}
}

// edgesOfRights have for each tree and each number of a child one of the greatest within MaxSide, with its parent, and a parent whose child is one of the least beyond.
func edgesOfRights() [2][3]struct{ last, parent, beyond []int } {
	return [2][3]struct{ last, parent, beyond []int }{
		{
			{[]int{255405891, 966833860, 999999941}, []int{189073729, 522354240, 555520321}, []int{100608709, 779382060, 785848909}},
			{[]int{637064259, 770810620, 999999941}, []int{178685617, 44939256, 184250065}, []int{183275895, 36431512, 186861737}},
			{[]int{999648839, 26497560, 999999961}, []int{947355963, 25795316, 947707085}, []int{557456827, 179151564, 585536845}},
		},
		{
			{[]int{883138489, 469112280, 999999961}, []int{707013085, 205340772, 736228453}, []int{426577821, 295818980, 519112229}},
			{[]int{999648839, 26497560, 999999961}, []int{13073219, 486663420, 486838981}, []int{103615791, 375324200, 389364209}},
			{[]int{255405891, 966833860, 999999941}, []int{111119905, 169565472, 202731553}, []int{53537779, 218380980, 224847829}},
		},
	}
}

func TestChildrenAtMaxSide(t *testing.T) {
	for i, tree := range treesOfRights() {
		for k, edge := range edgesOfRights()[i] {
			name := fmt.Sprint(tree.name, edge)
			child, ok := tree.child(edge.parent, k)
			wantList(t, name, child, ok, edge.last)
			parent, number, ok := tree.parent(edge.last)
			wantParent(t, name, parent, number, ok, edge.parent, k)
			if !isRightExactly(edge.beyond) {
				t.Error("this is no test:", edge)
			}
			child, ok = tree.child(edge.beyond, k)
			wantNoList(t, name, child, ok)
		}
	}
}

func TestChildrenOfGreatRights(t *testing.T) {
	tooGreat := 0
	for _, tree := range treesOfRights() {
		for _, list := range append(greatRights(), rightsUpTo(500)...) {
			m, n, _ := impl.PairOfRight(list)
			for k := range 3 {
				got, ok := tree.child(list, k)
				want := madeOf(tree.childPair(m, n, k))
				if want[2] > impl.MaxSide {
					tooGreat++
					wantNoList(t, fmt.Sprint(tree.name, list, k), got, ok)
					continue
				}
				wantList(t, fmt.Sprint(tree.name, list, k), got, ok, want)
			}
		}
	}
	if tooGreat < 50 {
		t.Error("this is no test:", tooGreat)
	}
}

func TestInvalidChildren(t *testing.T) {
	for _, tree := range treesOfRights() {
		for _, k := range notChildren() {
			for _, list := range [][]int{{3, 4, 5}, {15, 8, 17}, {999648839, 26497560, 999999961}, nil, {4, 3, 5}} {
				got, ok := tree.child(list, k)
				wantNoList(t, fmt.Sprint(tree.name, list, k), got, ok)
			}
			m, ok := tree.matrix(k)
			wantNoMatrix(t, fmt.Sprint(tree.name, k), m, ok)
		}
		for _, list := range notRights() {
			for k := range 3 {
				got, ok := tree.child(list, k)
				wantNoList(t, fmt.Sprint(tree.name, list, k), got, ok)
			}
			parent, k, ok := tree.parent(list)
			wantNoParent(t, fmt.Sprint(tree.name, list), parent, k, ok)
			word, ok := tree.word(list)
			wantNoList(t, fmt.Sprint(tree.name, list), word, ok)
		}
	}
}

func TestParentsAndWords(t *testing.T) {
	type place struct {
		parent, word []int
	}
	for _, c := range []struct {
		list   []int
		places [2]place
	}{
		{[]int{5, 12, 13}, [2]place{{[]int{3, 4, 5}, []int{0}}, {[]int{3, 4, 5}, []int{0}}}},
		{[]int{15, 8, 17}, [2]place{{[]int{3, 4, 5}, []int{2}}, {[]int{3, 4, 5}, []int{1}}}},
		{[]int{7, 24, 25}, [2]place{{[]int{5, 12, 13}, []int{0, 0}}, {[]int{3, 4, 5}, []int{2}}}},
		{[]int{21, 20, 29}, [2]place{{[]int{3, 4, 5}, []int{1}}, {[]int{15, 8, 17}, []int{1, 0}}}},
		{[]int{35, 12, 37}, [2]place{{[]int{15, 8, 17}, []int{2, 2}}, {[]int{5, 12, 13}, []int{0, 1}}}},
		{[]int{33, 56, 65}, [2]place{{[]int{15, 8, 17}, []int{2, 0}}, {[]int{21, 20, 29}, []int{1, 0, 0}}}},
		{[]int{55, 48, 73}, [2]place{{[]int{5, 12, 13}, []int{0, 1}}, {[]int{15, 8, 17}, []int{1, 1}}}},
		{[]int{39, 80, 89}, [2]place{{[]int{21, 20, 29}, []int{1, 0}}, {[]int{15, 8, 17}, []int{1, 2}}}},
		{[]int{119, 120, 169}, [2]place{{[]int{21, 20, 29}, []int{1, 1}}, {[]int{35, 12, 37}, []int{0, 1, 1}}}},
	} {
		for i, tree := range treesOfRights() {
			name := fmt.Sprint(tree.name, c.list)
			want := c.places[i]
			parent, k, ok := tree.parent(c.list)
			wantParent(t, name, parent, k, ok, want.parent, want.word[len(want.word)-1])
			word, ok := tree.word(c.list)
			wantList(t, name, word, ok, want.word)
			list, ok := tree.follow(want.word)
			wantList(t, name, list, ok, c.list)
		}
	}
}

func TestRootOfBothTrees(t *testing.T) {
	for _, tree := range treesOfRights() {
		parent, k, ok := tree.parent([]int{3, 4, 5})
		wantNoParent(t, tree.name, parent, k, ok)
		word, ok := tree.word([]int{3, 4, 5})
		wantList(t, tree.name, word, ok, nil)
		for _, empty := range [][]int{nil, {}} {
			list, ok := tree.follow(empty)
			wantList(t, tree.name, list, ok, []int{3, 4, 5})
		}
	}
}

func TestWordsOfTheGreatestLength(t *testing.T) {
	berg, price := treesOfRights()[0], treesOfRights()[1]
	mixed := append(append([]int{2, 1}, repeated(0, 20)...), repeated(2, 18)...)
	for _, c := range []struct {
		word []int
		m, n int
	}{
		{repeated(0, impl.MaxWord), 42, 41}, {repeated(2, impl.MaxWord), 82, 1}, {append(repeated(2, 39), 0), 159, 80}, {append(repeated(2, 39), 1), 161, 80}, {append([]int{1}, repeated(2, 39)...), 161, 2}, {append([]int{1}, repeated(0, 39)...), 122, 119},
	} {
		got, ok := berg.follow(c.word)
		wantList(t, fmt.Sprint(c.word), got, ok, madeOf(c.m, c.n))
		word, ok := berg.word(got)
		wantList(t, fmt.Sprint(got), word, ok, c.word)
	}
	got, ok := berg.follow(mixed)
	if m, n, _ := impl.PairOfRight(got); !ok || len(mixed) != impl.MaxWord || m != 109+36*104 || n != 104 {
		t.Error(mixed, got, m, n, ok)
	}
	// These make numbers far beyond an int. In the second tree, no word of more than 27 numbers stays within MaxSide.
	for k := range 3 {
		for _, tree := range []treeOfRights{berg, price} {
			if tree.name == "Berg" && k != 1 {
				continue
			}
			for _, word := range [][]int{repeated(k, impl.MaxWord), append(repeated(k, 39), 0), append(repeated(k, 39), 2), append([]int{0}, repeated(k, 39)...)} {
				got, ok := tree.follow(word)
				wantNoList(t, fmt.Sprint(tree.name, word), got, ok)
			}
		}
	}
	longest, ok := price.word(madeOf(28977, 12544))
	if !ok || len(longest) != 27 {
		t.Error(longest, ok)
	}
	list, ok := price.follow(longest)
	wantList(t, "the longest", list, ok, madeOf(28977, 12544))
	for k := range 3 {
		list, ok := price.follow(append(slices.Clone(longest), k))
		wantNoList(t, fmt.Sprint(longest, k), list, ok)
	}
}

func TestWordsBeyondTheGreatestLength(t *testing.T) {
	for _, c := range []struct{ m, n, k, length int }{
		{42, 41, 0, 40}, {43, 42, 0, 41}, {82, 1, 2, 40}, {84, 1, 2, 41}, {1001, 1000, 0, 999}, {22361, 22360, 0, 22359}, {31622, 1, 2, 15810},
	} {
		word, ok := impl.BergWord(madeOf(c.m, c.n))
		wantList(t, fmt.Sprint(c.m, c.n), word, ok, repeated(c.k, c.length))
		list, ok := impl.RightByBerg(word)
		if c.length <= impl.MaxWord {
			wantList(t, fmt.Sprint(c.m, c.n), list, ok, madeOf(c.m, c.n))
		} else {
			wantNoList(t, fmt.Sprint(c.m, c.n), list, ok)
		}
	}
	for _, tree := range treesOfRights() {
		for _, word := range notWordsOfRights() {
			list, ok := tree.follow(word)
			wantNoList(t, fmt.Sprint(tree.name, word), list, ok)
		}
	}
}

// TestWordsAtMaxSide goes down from the last triples within MaxSide and follows their words, and the words of parents whose child is beyond.
func TestWordsAtMaxSide(t *testing.T) {
	for i, tree := range treesOfRights() {
		for k, edge := range edgesOfRights()[i] {
			name := fmt.Sprint(tree.name, edge)
			word, ok := tree.word(edge.last)
			if !ok || word[len(word)-1] != k {
				t.Error(name, word, ok)
			}
			if len(word) <= impl.MaxWord {
				list, ok := tree.follow(word)
				wantList(t, name, list, ok, edge.last)
			}
			word, ok = tree.word(edge.beyond)
			if !ok {
				t.Error(name)
			}
			list, ok := tree.follow(append(word, k))
			wantNoList(t, name, list, ok)
		}
	}
}

func TestRightUpTo(t *testing.T) {
	got, ok := impl.RightUpTo(20)
	wantLists(t, "20", got, ok, [][]int{{3, 4, 5}, {5, 12, 13}, {15, 8, 17}})
	// 65 and 85 have two triples each.
	got, ok = impl.RightUpTo(85)
	wantLists(t, "85", got[6:], ok, [][]int{{9, 40, 41}, {45, 28, 53}, {11, 60, 61}, {33, 56, 65}, {63, 16, 65}, {55, 48, 73}, {13, 84, 85}, {77, 36, 85}})
	all := rightsUpTo(impl.MaxLeast)
	for most := 0; most <= impl.MaxLeast; most++ {
		if most > 200 && most < 4980 && most%41 != 0 {
			continue
		}
		count := 0
		for count < len(all) && all[count][2] <= most {
			count++
		}
		got, ok := impl.RightUpTo(most)
		wantLists(t, fmt.Sprint(most), got, ok, all[:count])
		number, ok := impl.CountRight(most)
		wantNumber(t, fmt.Sprint(most), number, ok, count)
	}
	if len(all) != 792 || all[len(all)-1][2] != 4993 {
		t.Error("this is no test:", len(all), all[len(all)-1])
	}
	for _, most := range []int{-1, -5, impl.MaxLeast + 1, 1 << 32, math.MinInt, math.MaxInt} {
		got, ok := impl.RightUpTo(most)
		wantNoLists(t, fmt.Sprint(most), got, ok)
		number, ok := impl.CountRight(most)
		wantNoNumber(t, fmt.Sprint(most), number, ok)
	}
}

func TestInnerRadius(t *testing.T) {
	for _, c := range []struct {
		list []int
		want int
	}{
		{[]int{3, 4, 5}, 1}, {[]int{5, 12, 13}, 2}, {[]int{15, 8, 17}, 3}, {[]int{21, 20, 29}, 6}, {[]int{7, 24, 25}, 3}, {[]int{999648839, 26497560, 999999961}, 419 * (31620 - 419)},
	} {
		got, ok := impl.InnerRadius(c.list)
		wantNumber(t, fmt.Sprint(c.list), got, ok, c.want)
	}
	for _, list := range append(rightsUpTo(1000), greatRights()...) {
		got, ok := impl.InnerRadius(list)
		// The area is the radius times half of the sum of the sides.
		if x, y, z := list[0], list[1], list[2]; !ok || got*(x+y+z) != x*y {
			t.Errorf("%v: %v %v", list, got, ok)
		}
	}
	for _, list := range notRights() {
		got, ok := impl.InnerRadius(list)
		wantNoNumber(t, fmt.Sprint(list), got, ok)
	}
}

func TestMatricesOfChildren(t *testing.T) {
	want := [2][3]impl.Matrix{
		{
			matrix([]int{1, -2, 2}, []int{2, -1, 2}, []int{2, -2, 3}),
			matrix([]int{1, 2, 2}, []int{2, 1, 2}, []int{2, 2, 3}),
			matrix([]int{-1, 2, 2}, []int{-2, 1, 2}, []int{-2, 2, 3}),
		},
		{
			matrix([]int{2, 1, -1}, []int{-2, 2, 2}, []int{-2, 1, 3}),
			matrix([]int{2, 1, 1}, []int{2, -2, 2}, []int{2, -1, 3}),
			matrix([]int{2, -1, 1}, []int{2, 2, 2}, []int{2, 1, 3}),
		},
	}
	for i, tree := range treesOfRights() {
		for k := range 3 {
			got, ok := tree.matrix(k)
			wantMatrix(t, fmt.Sprint(tree.name, k), got, ok, want[i][k])
		}
	}
}

func TestPromise5MatricesTakeTriplesToChildren(t *testing.T) {
	rights := append(rightsUpTo(1500), madeOf(400, 1), madeOf(280, 279), madeOf(340, 171))
	for _, tree := range treesOfRights() {
		for k := range 3 {
			m, _ := tree.matrix(k)
			for _, list := range rights {
				image, ok := impl.ApplyMatrix(m, list)
				child, _ := tree.child(list, k)
				wantList(t, fmt.Sprint(tree.name, list, k), image, ok, child)
			}
		}
	}
}

func TestPromise5MatricesAndTheForm(t *testing.T) {
	form := diagonal(1, 1, -1)
	for k := range 3 {
		berg, _ := impl.BergMatrix(k)
		keeps, ok := impl.KeepsForm(berg, form)
		wantAnswer(t, fmt.Sprint(k), keeps, ok, true)
		price, _ := impl.PriceMatrix(k)
		for _, v := range [][]int{{1, 0, 0}, {0, 1, 0}, {0, 0, 1}, {3, 4, 5}, {1, 2, 3}, {-7, 11, 2}, {100, -99, 1000}, {5, 5, 5}, {-1, -1, -1}, {0, 0, 0}} {
			image, _ := impl.ApplyMatrix(price, v)
			before, _ := impl.FormAt(form, v)
			after, ok := impl.FormAt(form, image)
			wantNumber(t, fmt.Sprint(k, v), after, ok, 4*before)
		}
	}
}

func TestPromise5WordMatricesTellTriples(t *testing.T) {
	for _, tree := range treesOfRights() {
		var generators []impl.Matrix
		for k := range 3 {
			m, _ := tree.matrix(k)
			generators = append(generators, m)
		}
		for _, word := range wordsOfRightsUpTo(5) {
			// The first move stands last, as it is applied first.
			turned := slices.Clone(word)
			slices.Reverse(turned)
			product, ok := impl.WordMatrix(generators, turned)
			if !ok {
				t.Fatal(tree.name, word)
			}
			image, ok := impl.ApplyMatrix(product, []int{3, 4, 5})
			list, _ := tree.follow(word)
			wantList(t, fmt.Sprint(tree.name, word), image, ok, list)
		}
	}
}

// wordsOfRightsUpTo returns all words up to a length, shorter ones first, and equally long ones in lexicographic order.
func wordsOfRightsUpTo(length int) [][]int {
	words := [][]int{{}}
	for next := 0; len(words[next]) < length; next++ {
		for k := range 3 {
			words = append(words, append(slices.Clone(words[next]), k))
		}
	}
	return words
}

func TestRanksOfWords(t *testing.T) {
	for want, word := range wordsOfRightsUpTo(7) {
		rank, ok := impl.RankOfWord(word)
		wantNumber(t, fmt.Sprint(word), rank, ok, want)
		back, ok := impl.WordOfRank(want)
		wantList(t, fmt.Sprint(want), back, ok, word)
	}
	// There are 1 + 3 + 9 + .. words that are shorter.
	shorter, power := 0, 1
	for length := range 19 {
		for _, c := range []struct {
			word []int
			rank int
		}{
			{repeated(0, length), shorter}, {repeated(2, length), shorter + power - 1}, {repeated(1, length), shorter + (power-1)/2},
		} {
			rank, ok := impl.RankOfWord(c.word)
			wantNumber(t, fmt.Sprint(c.word), rank, ok, c.rank)
			word, ok := impl.WordOfRank(c.rank)
			wantList(t, fmt.Sprint(c.rank), word, ok, c.word)
		}
		shorter, power = shorter+power, 3*power
	}
	if shorter != 581130733 {
		t.Error("this is no test:", shorter)
	}
}

func TestRanksThatThereAreNot(t *testing.T) {
	last, ok := impl.RankOfWord(repeated(2, 18))
	wantNumber(t, "the last word", last, ok, 581130732)
	word, ok := impl.WordOfRank(581130732)
	wantList(t, "the last word", word, ok, repeated(2, 18))
	for _, rank := range []int{581130733, 581130734, 581130733 + 581130733, 1 << 40, math.MaxInt, -1, -2, -3, -4, -581130732, math.MinInt, math.MinInt + 1} {
		word, ok := impl.WordOfRank(rank)
		wantNoList(t, fmt.Sprint(rank), word, ok)
	}
	for _, word := range append(notWordsOfRights(), repeated(0, 19), repeated(1, 19), repeated(2, 19), repeated(2, 40), append(repeated(0, 17), 3), append(repeated(1, 17), -1)) {
		rank, ok := impl.RankOfWord(word)
		wantNoNumber(t, fmt.Sprint(word), rank, ok)
	}
}

// TestPromise5EachTripleStandsOnce goes up from the root by all children, and compares with all triples that there are.
func TestPromise5EachTripleStandsOnce(t *testing.T) {
	all := rightsUpTo(impl.MaxLeast)
	for _, tree := range treesOfRights() {
		type place struct{ list, word []int }
		met := map[[3]int]bool{{3, 4, 5}: true}
		reached := []place{{[]int{3, 4, 5}, nil}}
		for next := 0; next < len(reached); next++ {
			here := reached[next]
			word, ok := tree.word(here.list)
			wantList(t, fmt.Sprint(tree.name, here.list), word, ok, here.word)
			for k := range 3 {
				child, ok := tree.child(here.list, k)
				if !ok || child[2] <= here.list[2] {
					t.Errorf("%s: the child %d of %v is %v %v", tree.name, k, here.list, child, ok)
				}
				parent, number, ok := tree.parent(child)
				wantParent(t, fmt.Sprint(tree.name, child), parent, number, ok, here.list, k)
				if child[2] > impl.MaxLeast {
					continue
				}
				if met[[3]int(child)] {
					t.Errorf("%s: %v stands twice", tree.name, child)
				}
				met[[3]int(child)] = true
				reached = append(reached, place{child, append(slices.Clone(here.word), k)})
			}
		}
		for _, list := range all {
			if !met[[3]int(list)] {
				t.Errorf("%s: %v does not stand in the tree", tree.name, list)
			}
		}
		if len(met) != len(all) {
			t.Errorf("%s: %d triples instead of %d", tree.name, len(met), len(all))
		}
	}
}

// climbed goes up from the root by the children of a word of any length.
func (tree treeOfRights) climbed(word []int) []int {
	m, n := 2, 1
	for _, k := range word {
		m, n = tree.childPair(m, n, k)
	}
	return madeOf(m, n)
}

func TestPromise5WordsAndTriplesUndoEachOther(t *testing.T) {
	for _, tree := range treesOfRights() {
		long := 0
		for _, list := range append(rightsUpTo(3000), greatRights()...) {
			name := fmt.Sprint(tree.name, list)
			word, ok := tree.word(list)
			if !ok || !slices.Equal(tree.climbed(word), list) {
				t.Errorf("%s: the word is %v %v", name, word, ok)
			}
			back, ok := tree.follow(word)
			if len(word) > impl.MaxWord {
				long++
				wantNoList(t, name, back, ok)
				continue
			}
			wantList(t, name, back, ok, list)
		}
		if tree.name == "Berg" && long < 10 || tree.name == "Price" && long > 0 {
			t.Error("this is no test:", tree.name, long)
		}
		for _, word := range wordsOfRightsUpTo(8) {
			list, ok := tree.follow(word)
			wantList(t, fmt.Sprint(tree.name, word), list, ok, tree.climbed(word))
			back, ok := tree.word(list)
			wantList(t, fmt.Sprint(tree.name, list), back, ok, word)
		}
	}
}

func TestPromise11OfRights(t *testing.T) {
	lists := append(notRights(), []int{3, 4, 5}, []int{15, 8, 17}, []int{5, 12, 13}, madeOf(42, 41), madeOf(84, 1), madeOf(22361, 22360), madeOf(31620, 419), madeOf(28977, 12544))
	for _, edges := range edgesOfRights() {
		for _, edge := range edges {
			lists = append(lists, edge.last, edge.parent, edge.beyond)
		}
	}
	for _, list := range lists {
		checkTotal(t, "IsRight", impl.IsRight, list)
		checkTotal(t, "PairOfRight", impl.PairOfRight, list)
		checkTotal(t, "InnerRadius", impl.InnerRadius, list)
		for _, tree := range treesOfRights() {
			checkTotal(t, tree.name+"Parent", tree.parent, list)
			checkTotal(t, tree.name+"Word", tree.word, list)
			for _, k := range append(notChildren(), 0, 1, 2) {
				checkTotal(t, tree.name+"Child", tree.child, list, k)
			}
		}
	}
}

func TestPromise11OfRightNumbersAndWords(t *testing.T) {
	for _, p := range append(notPairsOfRights(), [2]int{2, 1}, [2]int{4, 1}, [2]int{31620, 419}, [2]int{22361, 22360}) {
		checkTotal(t, "RightOfPair", impl.RightOfPair, p[0], p[1])
	}
	for _, number := range append(notChildren(), 0, 1, 2, 5, 20, 65, impl.MaxLeast, impl.MaxLeast+1, 581130732, 581130733) {
		checkTotal(t, "RightUpTo", impl.RightUpTo, number)
		checkTotal(t, "CountRight", impl.CountRight, number)
		checkTotal(t, "BergMatrix", impl.BergMatrix, number)
		checkTotal(t, "PriceMatrix", impl.PriceMatrix, number)
		checkTotal(t, "WordOfRank", impl.WordOfRank, number)
	}
	words := append(notWordsOfRights(), nil, []int{}, []int{0}, []int{1, 0}, []int{2, 1, 0}, repeated(1, 18), repeated(2, 18), repeated(2, 19), repeated(0, impl.MaxWord), repeated(1, impl.MaxWord), repeated(2, impl.MaxWord))
	for _, word := range words {
		checkTotal(t, "RightByBerg", impl.RightByBerg, word)
		checkTotal(t, "RightByPrice", impl.RightByPrice, word)
		checkTotal(t, "RankOfWord", impl.RankOfWord, word)
	}
}

// TestPromise11OfRightAnswers changes answers and looks whether later ones, or the argument, change with them.
func TestPromise11OfRightAnswers(t *testing.T) {
	for _, tree := range treesOfRights() {
		given := []int{15, 8, 17}
		child, _ := tree.child(given, 0)
		child[0] = 9
		parent, _, _ := tree.parent(given)
		parent[1] = 9
		word, _ := tree.word(given)
		word[0] = 9
		wantList(t, "argument", given, true, []int{15, 8, 17})
		root, _ := tree.follow(nil)
		root[0] = 9
		root, ok := tree.follow(nil)
		wantList(t, "root", root, ok, []int{3, 4, 5})
		m, _ := tree.matrix(1)
		want, _ := tree.matrix(1)
		kept := reflect.DeepEqual(m, want)
		m.Rows[0][0], m.Rows[1][1], m.Rows[2][2] = 9, 9, 9
		again, ok := tree.matrix(1)
		wantMatrix(t, "matrix", again, ok && kept, want)
	}
	made, _ := impl.RightOfPair(2, 1)
	made[2] = 9
	made, ok := impl.RightOfPair(2, 1)
	wantList(t, "2 1", made, ok, []int{3, 4, 5})
	found, _ := impl.RightUpTo(13)
	found[0][0], found[1][0] = 9, 8
	if !reflect.DeepEqual(found, [][]int{{9, 4, 5}, {8, 12, 13}}) {
		t.Error("memory is shared:", found)
	}
	found, ok = impl.RightUpTo(13)
	wantLists(t, "13", found, ok, [][]int{{3, 4, 5}, {5, 12, 13}})
	word, _ := impl.WordOfRank(7)
	word[0] = 9
	word, ok = impl.WordOfRank(7)
	wantList(t, "7", word, ok, []int{1, 0})
}
