package tests

import (
	"fmt"
	"math"
	"math/big"
	"reflect"
	"slices"
	"testing"

	"loop.example/g01122/impl"
)

// hurwitz is a list with the factor and the rest for which it is, or is not, a solution.
type hurwitz struct {
	list []int
	a, b int
}

// solvesExactly has no limits and no order, and no number that is too great for it.
func solvesExactly(list []int, a, b int) bool {
	squares, product := big.NewInt(0), big.NewInt(int64(a))
	for _, number := range list {
		n := big.NewInt(int64(number))
		product.Mul(product, n)
		squares.Add(squares, new(big.Int).Mul(n, n))
	}
	return squares.Cmp(product.Add(product, big.NewInt(int64(b)))) == 0
}

func solvesModuloWords(list []int, a, b int) bool {
	squares, product := 0, a
	for _, number := range list {
		product *= number
		squares += number * number
	}
	return squares == product+b
}

// hurwitzUpTo returns all solutions of so many parts, found by trying all numbers, in lexicographic order of the lists.
func hurwitzUpTo(parts, most int) []hurwitz {
	var all []hurwitz
	try := func(list ...int) {
		squares, product := 0, 1
		for _, number := range list {
			squares += number * number
			product *= number
		}
		for a := 1; a <= impl.MaxFactor; a++ {
			if b := squares - a*product; b >= -impl.MaxRest && b <= impl.MaxRest {
				all = append(all, hurwitz{list, a, b})
			}
		}
	}
	for x := 1; x <= most; x++ {
		for y := 1; y <= x; y++ {
			for z := 1; z <= y; z++ {
				if parts == 3 {
					try(x, y, z)
					continue
				}
				for w := 1; w <= z; w++ {
					try(x, y, z, w)
				}
			}
		}
	}
	return all
}

// listsFor returns the lists among them that are solutions for one equation, with numbers up to most.
func listsFor(all []hurwitz, a, b, most int) [][]int {
	var lists [][]int
	for _, s := range all {
		if s.a == a && s.b == b && s.list[0] <= most {
			lists = append(lists, s.list)
		}
	}
	return lists
}

func otherRoot(s hurwitz, i int) int {
	product := s.a
	for j, number := range s.list {
		if j != i {
			product *= number
		}
	}
	return product - s.list[i]
}

func (s hurwitz) jumped(i int) ([]int, bool) {
	root := otherRoot(s, i)
	if root < 1 || root > impl.MaxSolution {
		return nil, false
	}
	list := slices.Clone(s.list)
	list[i] = root
	slices.Sort(list)
	slices.Reverse(list)
	return list, true
}

// branches returns what jumps lead to with a greater number in place of another one, in order and each once.
func (s hurwitz) branches() [][]int {
	var lists [][]int
	for i := range s.list {
		if list, ok := s.jumped(i); ok && otherRoot(s, i) > s.list[i] {
			lists = append(lists, list)
		}
	}
	slices.SortFunc(lists, slices.Compare[[]int])
	return slices.CompactFunc(lists, slices.Equal[[]int])
}

// line has the other number 2 for the factor 1 and the rest 5: each of them jumps at 0 to the one with a number less by one.
func line(greatest int) hurwitz { return hurwitz{[]int{greatest, greatest - 1, 2}, 1, 5} }

// notEquations have lists for which the sums fit, but a factor or a rest that is beyond its limits.
func notEquations() []hurwitz {
	return []hurwitz{
		{[]int{1, 1, 1}, 0, 3}, {[]int{1, 1, 1}, -1, 4}, {[]int{1, 1, 1}, 21, -18}, {[]int{1, 1, 1, 1}, 0, 4}, {[]int{1, 1, 1, 1}, 21, -17},
		{[]int{4, 2, 1}, 9, -51}, {[]int{4, 4, 3, 2}, 1, -51}, {[]int{7, 7, 1, 1}, 1, 51}, {[]int{3, 1, 1, 1}, 21, -51},
		{[]int{1, 1, 1}, math.MinInt, math.MinInt + 3}, {[]int{1, 1, 1}, math.MaxInt, math.MinInt + 4}, {[]int{1, 1, 1}, math.MinInt + 3, math.MinInt},
		{[]int{1, 1, 1}, -math.MaxInt + 3, math.MaxInt}, {[]int{2, 2, 2}, 1 << 61, 12}, {[]int{2, 2, 2}, 1<<61 + 1, 4},
	}
}

// wrappedHurwitz are lists whose numbers are all allowed; but both sides of the equation are equal modulo 2 to the power of 64 only.
func wrappedHurwitz() []hurwitz {
	return []hurwitz{
		{[]int{99925, 79516, 73254, 67913}, 7, 6},
		{[]int{99800, 84474, 78521, 43790}, 7, -7},
		{[]int{99737, 90364, 77616, 32963}, 20, 10},
		{[]int{99729, 94949, 86674, 44952}, 6, -34},
		{[]int{99680, 39467, 17415, 14171}, 19, -29},
		{[]int{99319, 77830, 67695, 7554}, 14, 50},
		{[]int{97872, 79948, 51752, 22777}, 20, 1},
		{[]int{97025, 65949, 47550, 42440}, 20, -50},
	}
}

// notSolutions have factors and rests within their limits, but no solutions.
func notSolutions() []hurwitz {
	return append(wrappedHurwitz(), []hurwitz{
		// Other lengths, also those that fit: the product of no numbers is 1.
		{nil, 3, -3}, {[]int{}, 1, -1}, {[]int{1}, 1, 0}, {[]int{5}, 5, 0}, {[]int{1, 1}, 2, 0}, {[]int{2, 1}, 3, -1}, {[]int{1, 1, 1, 1, 1}, 5, 0}, {[]int{2, 1, 1, 1, 1}, 4, 0}, {repeated(1, 20), 20, 0}, {repeated(1, 50), 20, 30},
		// Numbers that rise.
		{[]int{1, 1, 2}, 3, 0}, {[]int{1, 2, 1}, 3, 0}, {[]int{1, 2, 5}, 3, 0}, {[]int{2, 1, 5}, 3, 0}, {[]int{2, 5, 1}, 3, 0}, {[]int{1, 5, 2}, 3, 0}, {[]int{5, 1, 2}, 3, 0},
		{[]int{1, 1, 1, 3}, 4, 0}, {[]int{3, 1, 11, 1}, 4, 0}, {[]int{11, 1, 3, 1}, 4, 0}, {[]int{11, 1, 1, 3}, 4, 0},
		// Numbers less than 1.
		{[]int{0, 0, 0}, 3, 0}, {[]int{0, 0, 0, 0}, 4, 0}, {[]int{1, 0, 0}, 5, 1}, {[]int{5, 5, 0}, 3, 50}, {[]int{5, 4, 3, 0}, 7, 50}, {[]int{1, -1, -1}, 3, 0}, {[]int{5, -1, -2}, 3, 0}, {[]int{-1, -1, 1}, 3, 0}, {[]int{-1, -1, -1}, 3, 6}, {[]int{-1, -1, -1, -1}, 4, 0}, {[]int{1, 1, -1, -1}, 4, 0},
		// With a 0 behind it, a solution of 3 parts is none of 4 parts.
		{[]int{5, 2, 1, 0}, 3, 0}, {[]int{1, 1, 1, 0}, 3, 0},
		// Numbers beyond MaxSolution, and squares and products beyond an int.
		line(impl.MaxSolution + 1), line(impl.MaxNumber), {[]int{impl.MaxSolution + 1, impl.MaxSolution, 2, 1}, 1, 6}, {[]int{1 << 32, 1 << 32, 1 << 32}, 1, 0}, {[]int{1 << 32, 1 << 32, 1 << 32, 1 << 32}, 20, 0}, {[]int{1 << 62, 1 << 32, 1 << 32}, 3, 0}, {[]int{1 << 33, 1 << 32, 5, 5}, 7, 50},
		{repeated(math.MinInt, 3), 3, 0}, {repeated(math.MinInt, 4), 4, 0}, {repeated(math.MaxInt, 3), 3, 0}, {repeated(math.MaxInt, 3), 4, -1}, {repeated(math.MaxInt, 4), 4, 0}, {[]int{math.MaxInt, 1, 1}, 3, 0}, {[]int{1, 1, math.MinInt}, 3, 0}, {[]int{math.MaxInt, 1, math.MinInt}, 3, 0},
		// The sums do not fit.
		{[]int{5, 2, 1}, 3, 1}, {[]int{5, 2, 1}, 3, -1}, {[]int{5, 2, 1}, 4, 0}, {[]int{5, 2, 1}, 2, 0}, {[]int{6, 2, 1}, 3, 0}, {[]int{5, 2, 1, 1}, 3, 0}, {[]int{1, 1, 1}, 4, 0}, {[]int{1, 1, 1, 1}, 3, 0}, {[]int{1, 1, 1}, 1, 50}, {[]int{1, 1, 1}, 20, 50}, {[]int{5, 4, 3}, 1, 50},
		{repeated(impl.MaxSolution, 3), 1, 0}, {repeated(impl.MaxSolution, 4), 1, 0}, {repeated(impl.MaxSolution, 4), impl.MaxFactor, -impl.MaxRest}, {[]int{impl.MaxSolution, 1, 1}, 20, 0},
	}...)
}

// someSolutions have each edge that the chapter names.
func someSolutions() []hurwitz {
	return []hurwitz{
		// These are fundamental: their other root for 0 is less than 0, 0, equal to the number, and greater.
		{[]int{8, 5, 1}, 1, 50}, {[]int{8, 3, 1}, 1, 50}, {[]int{3, 1, 1}, 3, 2}, {[]int{2, 2, 1}, 1, 5}, {[]int{2, 2, 2}, 1, 4}, {[]int{2, 1, 1, 1}, 4, -1}, {[]int{1, 1, 1}, 3, 0}, {[]int{1, 1, 1}, 20, -17}, {[]int{1, 1, 1, 1}, 4, 0}, {[]int{1, 1, 1, 1}, 20, -16},
		// These are not.
		{[]int{2, 1, 1}, 3, 0}, {[]int{5, 2, 1}, 3, 0}, {[]int{29, 5, 2}, 3, 0}, {[]int{3, 2, 2}, 1, 5}, {[]int{3, 1, 1, 1}, 4, 0}, {[]int{131, 11, 3, 1}, 4, 0}, {[]int{17, 1, 1}, 20, -49}, {[]int{39, 15, 3}, 1, 0}, {[]int{23, 8, 3}, 1, 50}, {[]int{15, 8, 1}, 2, 50}, {[]int{20, 5, 5}, 1, -50}, {[]int{12, 3, 3, 2}, 1, -50}, {[]int{31, 8, 4, 1}, 1, 50},
		line(20), line(impl.MaxSolution - 1), line(impl.MaxSolution), {[]int{impl.MaxSolution, impl.MaxSolution - 1, 2, 1}, 1, 6},
	}
}

func wantNoPath(t *testing.T, s hurwitz) {
	t.Helper()
	name := fmt.Sprint(s)
	for i := range 4 {
		number, ok := impl.OtherRootAt(s.list, s.a, s.b, i)
		wantNoNumber(t, name, number, ok)
		list, ok := impl.JumpAt(s.list, s.a, s.b, i)
		wantNoList(t, name, list, ok)
		list, ok = impl.ClimbHurwitz(s.list, s.a, s.b, []int{i})
		wantNoList(t, name, list, ok)
	}
	is, ok := impl.IsFundamental(s.list, s.a, s.b)
	wantNoAnswer(t, name, is, ok)
	lists, ok := impl.WayDown(s.list, s.a, s.b)
	wantNoLists(t, name, lists, ok)
	list, ok := impl.FundamentalOf(s.list, s.a, s.b)
	wantNoList(t, name, list, ok)
	list, ok = impl.WordUp(s.list, s.a, s.b)
	wantNoList(t, name, list, ok)
	list, ok = impl.ClimbHurwitz(s.list, s.a, s.b, nil)
	wantNoList(t, name, list, ok)
	lists, ok = impl.BranchesOf(s.list, s.a, s.b)
	wantNoLists(t, name, lists, ok)
	for _, most := range []int{1, 40, impl.MaxSolution} {
		lists, ok = impl.TreeUpTo(s.list, s.a, s.b, most)
		wantNoLists(t, name, lists, ok)
	}
}

func TestConstantsOfChapter4(t *testing.T) {
	got := [5]int{impl.MaxSolution, impl.MaxFactor, impl.MaxRest, impl.MaxTried, impl.MaxFound}
	if got != [5]int{100000, 20, 50, 40, 500} {
		t.Error(got)
	}
}

func TestIsHurwitz(t *testing.T) {
	for _, s := range someSolutions() {
		got, ok := impl.IsHurwitz(s.list, s.a, s.b)
		wantAnswer(t, fmt.Sprint(s), got, ok, true)
	}
	for _, s := range notSolutions() {
		got, ok := impl.IsHurwitz(s.list, s.a, s.b)
		wantAnswer(t, fmt.Sprint(s), got, ok, false)
	}
	for _, s := range notEquations() {
		if !solvesModuloWords(s.list, s.a, s.b) {
			t.Error("this is no test:", s)
		}
		got, ok := impl.IsHurwitz(s.list, s.a, s.b)
		wantNoAnswer(t, fmt.Sprint(s), got, ok)
	}
}

func TestIsHurwitzBeyondAnInt(t *testing.T) {
	for _, s := range wrappedHurwitz() {
		if solvesExactly(s.list, s.a, s.b) || !solvesModuloWords(s.list, s.a, s.b) {
			t.Error("this is no test:", s)
		}
		got, ok := impl.IsHurwitz(s.list, s.a, s.b)
		wantAnswer(t, fmt.Sprint(s), got, ok, false)
	}
}

func TestIsHurwitzOfAllLessNumbers(t *testing.T) {
	check := func(list ...int) {
		falls := slices.IsSortedFunc(list, func(m, n int) int { return n - m })
		for a := 1; a <= impl.MaxFactor; a++ {
			for _, b := range []int{-50, -49, -17, -16, -2, -1, 0, 1, 2, 5, 14, 49, 50} {
				got, ok := impl.IsHurwitz(list, a, b)
				wantAnswer(t, fmt.Sprint(list, a, b), got, ok, falls && list[len(list)-1] >= 1 && solvesModuloWords(list, a, b))
			}
		}
	}
	for x := -1; x <= 9; x++ {
		for y := -1; y <= 9; y++ {
			for z := -1; z <= 9; z++ {
				check(x, y, z)
				for w := -1; w <= 3; w++ {
					check(x, y, z, w)
				}
			}
		}
	}
}

func TestChapter4RefusesWhatIsNoSolution(t *testing.T) {
	for _, s := range append(notSolutions(), notEquations()...) {
		wantNoPath(t, s)
	}
}

func TestOtherRootAt(t *testing.T) {
	for _, c := range []struct {
		s    hurwitz
		want []int
	}{
		{hurwitz{[]int{5, 2, 1}, 3, 0}, []int{1, 13, 29}},
		{hurwitz{[]int{1, 1, 1}, 3, 0}, []int{2, 2, 2}},
		{hurwitz{[]int{1, 1, 1, 1}, 4, 0}, []int{3, 3, 3, 3}},
		{hurwitz{[]int{11, 3, 1, 1}, 4, 0}, []int{1, 41, 131, 131}},
		{hurwitz{[]int{8, 5, 1}, 1, 50}, []int{-3, 3, 39}},
		{hurwitz{[]int{3, 1, 1}, 3, 2}, []int{0, 8, 8}},
		{hurwitz{[]int{2, 2, 2}, 1, 4}, []int{2, 2, 2}},
		{line(impl.MaxSolution), []int{99998, 100001, 9999899998}},
		{hurwitz{[]int{impl.MaxSolution, impl.MaxSolution - 1, 2, 1}, 1, 6}, []int{99998, 100001, 99999*100000 - 2, 2*99999*100000 - 1}},
	} {
		for i, want := range c.want {
			got, ok := impl.OtherRootAt(c.s.list, c.s.a, c.s.b, i)
			wantNumber(t, fmt.Sprint(c.s, i), got, ok, want)
		}
	}
	for _, s := range someSolutions() {
		for _, i := range []int{len(s.list), -1, -2, 5, 1 << 32, math.MinInt, math.MaxInt} {
			got, ok := impl.OtherRootAt(s.list, s.a, s.b, i)
			wantNoNumber(t, fmt.Sprint(s, i), got, ok)
		}
	}
}

func TestJumpAt(t *testing.T) {
	for _, c := range []struct {
		s    hurwitz
		i    int
		want []int
	}{
		{hurwitz{[]int{5, 2, 1}, 3, 0}, 0, []int{2, 1, 1}},
		{hurwitz{[]int{5, 2, 1}, 3, 0}, 1, []int{13, 5, 1}},
		{hurwitz{[]int{5, 2, 1}, 3, 0}, 2, []int{29, 5, 2}},
		{hurwitz{[]int{2, 2, 2}, 1, 4}, 1, []int{2, 2, 2}},
		{hurwitz{[]int{8, 5, 1}, 1, 50}, 1, []int{8, 3, 1}},
		{hurwitz{[]int{8, 3, 1}, 1, 50}, 1, []int{8, 5, 1}},
		{hurwitz{[]int{11, 3, 1, 1}, 4, 0}, 3, []int{131, 11, 3, 1}},
		{line(impl.MaxSolution - 1), 1, line(impl.MaxSolution).list},
		{line(impl.MaxSolution), 0, line(impl.MaxSolution - 1).list},
	} {
		got, ok := impl.JumpAt(c.s.list, c.s.a, c.s.b, c.i)
		wantList(t, fmt.Sprint(c.s, c.i), got, ok, c.want)
	}
	for _, c := range []struct {
		s hurwitz
		i int
	}{
		// The other roots are -3, 0, 100001 and 9999899998.
		{hurwitz{[]int{8, 5, 1}, 1, 50}, 0},
		{hurwitz{[]int{3, 1, 1}, 3, 2}, 0},
		{line(impl.MaxSolution), 1},
		{line(impl.MaxSolution), 2},
	} {
		got, ok := impl.JumpAt(c.s.list, c.s.a, c.s.b, c.i)
		wantNoList(t, fmt.Sprint(c.s, c.i), got, ok)
	}
	for _, s := range someSolutions() {
		for _, i := range []int{len(s.list), -1, -2, 5, 1 << 32, math.MinInt, math.MaxInt} {
			got, ok := impl.JumpAt(s.list, s.a, s.b, i)
			wantNoList(t, fmt.Sprint(s, i), got, ok)
		}
	}
}

func TestJumpsOfAllLessSolutions(t *testing.T) {
	all := append(hurwitzUpTo(3, 40), hurwitzUpTo(4, 20)...)
	cannot := 0
	for _, s := range all {
		for i := range s.list {
			root, ok := impl.OtherRootAt(s.list, s.a, s.b, i)
			wantNumber(t, fmt.Sprint(s, i), root, ok, otherRoot(s, i))
			got, ok := impl.JumpAt(s.list, s.a, s.b, i)
			want, can := s.jumped(i)
			if !can {
				cannot++
				wantNoList(t, fmt.Sprint(s, i), got, ok)
				continue
			}
			wantList(t, fmt.Sprint(s, i), got, ok, want)
			is, ok := impl.IsHurwitz(got, s.a, s.b)
			wantAnswer(t, fmt.Sprint(got, s.a, s.b), is, ok, true)
			if !solvesExactly(got, s.a, s.b) {
				t.Errorf("%v jumps at %d to %v, which is no solution", s, i, got)
			}
		}
		branches, ok := impl.BranchesOf(s.list, s.a, s.b)
		wantLists(t, fmt.Sprint("BranchesOf ", s), branches, ok, s.branches())
	}
	if len(all) < 2000 || cannot < 100 {
		t.Error("this is no test:", len(all), cannot)
	}
}

func TestIsFundamental(t *testing.T) {
	for i, s := range someSolutions() {
		got, ok := impl.IsFundamental(s.list, s.a, s.b)
		wantAnswer(t, fmt.Sprint(s), got, ok, i < 10)
	}
	roots := map[int]int{}
	for _, s := range append(hurwitzUpTo(3, 40), hurwitzUpTo(4, 20)...) {
		root := otherRoot(s, 0)
		got, ok := impl.IsFundamental(s.list, s.a, s.b)
		wantAnswer(t, fmt.Sprint(s), got, ok, root < 1 || root >= s.list[0])
		roots[root-s.list[0]]++
		roots[1000+min(root, 2)]++
	}
	if roots[-1] == 0 || roots[0] == 0 || roots[1] == 0 || roots[1000] == 0 || roots[1001] == 0 {
		t.Error("this is no test:", roots)
	}
}

func TestWaysDown(t *testing.T) {
	for _, c := range []struct {
		s    hurwitz
		way  [][]int
		word []int
	}{
		{hurwitz{[]int{5, 2, 1}, 3, 0}, [][]int{{5, 2, 1}, {2, 1, 1}, {1, 1, 1}}, []int{0, 1}},
		{hurwitz{[]int{29, 5, 2}, 3, 0}, [][]int{{29, 5, 2}, {5, 2, 1}, {2, 1, 1}, {1, 1, 1}}, []int{0, 1, 2}},
		{hurwitz{[]int{1, 1, 1}, 3, 0}, [][]int{{1, 1, 1}}, nil},
		{hurwitz{[]int{131, 11, 3, 1}, 4, 0}, [][]int{{131, 11, 3, 1}, {11, 3, 1, 1}, {3, 1, 1, 1}, {1, 1, 1, 1}}, []int{0, 1, 2}},
		{hurwitz{[]int{39, 15, 3}, 1, 0}, [][]int{{39, 15, 3}, {15, 6, 3}, {6, 3, 3}, {3, 3, 3}}, []int{0, 1, 1}},
		{hurwitz{[]int{4, 3, 2}, 1, 5}, [][]int{{4, 3, 2}, {3, 2, 2}, {2, 2, 1}}, []int{2, 1}},
		// The other root is the number, 0, and less than 0: nothing is less.
		{hurwitz{[]int{2, 2, 2}, 1, 4}, [][]int{{2, 2, 2}}, nil},
		{hurwitz{[]int{3, 1, 1}, 3, 2}, [][]int{{3, 1, 1}}, nil},
		{hurwitz{[]int{8, 5, 1}, 1, 50}, [][]int{{8, 5, 1}}, nil},
	} {
		name := fmt.Sprint(c.s)
		way, ok := impl.WayDown(c.s.list, c.s.a, c.s.b)
		wantLists(t, name, way, ok, c.way)
		last, ok := impl.FundamentalOf(c.s.list, c.s.a, c.s.b)
		wantList(t, name, last, ok, c.way[len(c.way)-1])
		word, ok := impl.WordUp(c.s.list, c.s.a, c.s.b)
		wantList(t, name, word, ok, c.word)
	}
}

// TestTheLongestWayDown has a way and a word of more than MaxWord indices: only words that are given have this limit.
func TestTheLongestWayDown(t *testing.T) {
	s := line(impl.MaxSolution)
	way, ok := impl.WayDown(s.list, s.a, s.b)
	if !ok || len(way) != 99999 {
		t.Fatal("the way has", len(way), ok)
	}
	word, ok := impl.WordUp(s.list, s.a, s.b)
	if !ok || len(word) != 99998 {
		t.Fatal("the word has", len(word), ok)
	}
	for i := range 99998 {
		want := 1
		if i == 0 {
			want = 2
		}
		if !slices.Equal(way[i], line(impl.MaxSolution-i).list) || word[i] != want {
			t.Fatal(i, way[i], word[i])
		}
	}
	wantList(t, "the end", way[99998], ok, []int{2, 2, 1})
	last, ok := impl.FundamentalOf(s.list, s.a, s.b)
	wantList(t, "the last one", last, ok, []int{2, 2, 1})
}

func TestClimbHurwitz(t *testing.T) {
	longest := repeated(1, impl.MaxWord)
	for _, c := range []struct {
		s          hurwitz
		word, want []int
	}{
		{hurwitz{[]int{5, 2, 1}, 3, 0}, nil, []int{5, 2, 1}},
		{hurwitz{[]int{5, 2, 1}, 3, 0}, []int{}, []int{5, 2, 1}},
		{hurwitz{[]int{1, 1, 1}, 3, 0}, []int{0, 1, 2}, []int{29, 5, 2}},
		{hurwitz{[]int{1, 1, 1}, 3, 0}, []int{2, 2}, []int{5, 2, 1}},
		{hurwitz{[]int{29, 5, 2}, 3, 0}, []int{0, 0, 0}, []int{1, 1, 1}},
		{hurwitz{[]int{1, 1, 1, 1}, 4, 0}, []int{3, 3, 3}, []int{131, 11, 3, 1}},
		{hurwitz{[]int{2, 2, 2}, 1, 4}, repeated(2, impl.MaxWord), []int{2, 2, 2}},
		{hurwitz{[]int{5, 2, 1}, 3, 0}, repeated(0, 1), []int{2, 1, 1}},
		{line(20), longest, line(60).list},
		{line(impl.MaxSolution - impl.MaxWord), longest, line(impl.MaxSolution).list},
		{line(impl.MaxSolution), repeated(0, impl.MaxWord), line(impl.MaxSolution - impl.MaxWord).list},
	} {
		got, ok := impl.ClimbHurwitz(c.s.list, c.s.a, c.s.b, c.word)
		wantList(t, fmt.Sprint(c.s, c.word), got, ok, c.want)
	}
	for _, c := range []struct {
		s    hurwitz
		word []int
	}{
		// Indices that are none, also behind others.
		{hurwitz{[]int{5, 2, 1}, 3, 0}, []int{3}}, {hurwitz{[]int{5, 2, 1}, 3, 0}, []int{-1}}, {hurwitz{[]int{5, 2, 1}, 3, 0}, []int{0, 3}}, {hurwitz{[]int{5, 2, 1}, 3, 0}, []int{1, 0, math.MinInt}}, {hurwitz{[]int{5, 2, 1}, 3, 0}, []int{math.MaxInt, 0}}, {hurwitz{[]int{1, 1, 1, 1}, 4, 0}, []int{0, 4}},
		// Words that are too long, also if each jump can be done.
		{line(20), repeated(1, impl.MaxWord+1)}, {hurwitz{[]int{2, 2, 2}, 1, 4}, repeated(0, impl.MaxWord+1)}, {hurwitz{[]int{2, 2, 2}, 1, 4}, repeated(0, 1000)},
		// Jumps that cannot be done, at first, on the way and at the end; on the way, later ones would lead back.
		{hurwitz{[]int{8, 5, 1}, 1, 50}, []int{0}}, {hurwitz{[]int{8, 5, 1}, 1, 50}, []int{0, 0}}, {hurwitz{[]int{8, 5, 1}, 1, 50}, []int{1, 0, 1}}, {line(impl.MaxSolution), []int{1, 0}}, {line(impl.MaxSolution - impl.MaxWord + 1), longest}, {hurwitz{[]int{4, 3, 2}, 1, 5}, []int{0, 0, 0}},
	} {
		got, ok := impl.ClimbHurwitz(c.s.list, c.s.a, c.s.b, c.word)
		wantNoList(t, fmt.Sprint(c.s, c.word), got, ok)
	}
}

// notTried are invalid bounds of SolutionsUpTo and FactorsFor, and parts invalid wherever parts are required.
func notTried() (bounds []int, parts []int) {
	bounds = []int{0, -1, impl.MaxTried + 1, 100, impl.MaxSolution, 1 << 32, math.MinInt, math.MaxInt}
	return bounds, []int{0, 1, 2, 5, -3, -4, 1<<32 + 3, math.MinInt, math.MaxInt}
}

// wantSolutions checks SolutionsUpTo and FundamentalsUpTo together.
func wantSolutions(t *testing.T, parts, a, b, most int, want [][]int) {
	t.Helper()
	name := fmt.Sprint(parts, a, b, most)
	got, ok := impl.SolutionsUpTo(parts, a, b, most)
	wantLists(t, name, got, ok, want)
	fundamentals := slices.DeleteFunc(slices.Clone(want), func(list []int) bool {
		root := otherRoot(hurwitz{list, a, b}, 0)
		return root >= 1 && root < list[0]
	})
	got, ok = impl.FundamentalsUpTo(parts, a, b, most)
	wantLists(t, name, got, ok, fundamentals)
}

func TestSolutionsUpTo(t *testing.T) {
	wantSolutions(t, 3, 3, 0, 5, [][]int{{1, 1, 1}, {2, 1, 1}, {5, 2, 1}})
	wantSolutions(t, 3, 3, 0, 1, [][]int{{1, 1, 1}})
	wantSolutions(t, 3, 1, 50, 8, [][]int{{7, 7, 1}, {8, 3, 1}, {8, 5, 1}})
	wantSolutions(t, 3, 1, 50, 6, nil)
	wantSolutions(t, 3, 20, -17, 1, [][]int{{1, 1, 1}})
	wantSolutions(t, 4, 20, -16, 1, [][]int{{1, 1, 1, 1}})
	wantSolutions(t, 4, 4, 0, 40, [][]int{{1, 1, 1, 1}, {3, 1, 1, 1}, {11, 3, 1, 1}})
	wantSolutions(t, 4, 1, -50, 40, [][]int{{6, 3, 3, 2}, {12, 3, 3, 2}, {33, 6, 3, 2}})
	wantSolutions(t, 3, 2, 0, impl.MaxTried, nil)
	threes, fours := hurwitzUpTo(3, impl.MaxTried), hurwitzUpTo(4, 9)
	for a := 1; a <= impl.MaxFactor; a++ {
		for b := -impl.MaxRest; b <= impl.MaxRest; b++ {
			wantSolutions(t, 3, a, b, impl.MaxTried, listsFor(threes, a, b, impl.MaxTried))
			wantSolutions(t, 3, a, b, 7, listsFor(threes, a, b, 7))
			wantSolutions(t, 4, a, b, 9, listsFor(fours, a, b, 9))
		}
	}
}

// TestAllSolutionsOfFourParts has the equations with the most solutions that can be asked for, 45 and 49: no list comes near to MaxFound.
func TestAllSolutionsOfFourParts(t *testing.T) {
	all := hurwitzUpTo(4, impl.MaxTried)
	for _, e := range [][2]int{{1, 5}, {1, 6}, {1, 0}, {1, 14}, {2, 3}, {4, 0}, {7, 7}, {20, -50}, {20, 50}, {13, -21}} {
		for _, most := range []int{39, impl.MaxTried} {
			wantSolutions(t, 4, e[0], e[1], most, listsFor(all, e[0], e[1], most))
		}
	}
	if n := len(listsFor(all, 1, 5, impl.MaxTried)); n != 49 {
		t.Error("this is no test:", n)
	}
	if n := len(listsFor(hurwitzUpTo(3, impl.MaxTried), 1, 4, impl.MaxTried)); n != 45 {
		t.Error("this is no test:", n)
	}
}

func TestInvalidNumbersOfSolutions(t *testing.T) {
	check := func(parts, a, b, most int) {
		name := fmt.Sprint(parts, a, b, most)
		got, ok := impl.SolutionsUpTo(parts, a, b, most)
		wantNoLists(t, name, got, ok)
		got, ok = impl.FundamentalsUpTo(parts, a, b, most)
		wantNoLists(t, name, got, ok)
	}
	bounds, parts := notTried()
	for _, most := range bounds {
		check(3, 3, 0, most)
		check(4, 4, 0, most)
		factors, ok := impl.FactorsFor(3, 0, most)
		wantNoList(t, fmt.Sprint(most), factors, ok)
		factors, ok = impl.FactorsFor(4, 0, most)
		wantNoList(t, fmt.Sprint(most), factors, ok)
	}
	for _, count := range parts {
		check(count, 3, 0, 5)
		factors, ok := impl.FactorsFor(count, 0, 5)
		wantNoList(t, fmt.Sprint(count), factors, ok)
	}
	for _, s := range notEquations() {
		check(len(s.list), s.a, s.b, 7)
	}
	for _, b := range []int{-impl.MaxRest - 1, impl.MaxRest + 1, 1 << 32, math.MinInt, math.MaxInt} {
		for _, count := range []int{3, 4} {
			factors, ok := impl.FactorsFor(count, b, impl.MaxTried)
			wantNoList(t, fmt.Sprint(count, b), factors, ok)
		}
	}
}

func TestBranchesOf(t *testing.T) {
	for _, c := range []struct {
		s    hurwitz
		want [][]int
	}{
		{hurwitz{[]int{1, 1, 1}, 3, 0}, [][]int{{2, 1, 1}}},
		{hurwitz{[]int{2, 1, 1}, 3, 0}, [][]int{{5, 2, 1}}},
		{hurwitz{[]int{5, 2, 1}, 3, 0}, [][]int{{13, 5, 1}, {29, 5, 2}}},
		{hurwitz{[]int{1, 1, 1, 1}, 4, 0}, [][]int{{3, 1, 1, 1}}},
		{hurwitz{[]int{11, 3, 1, 1}, 4, 0}, [][]int{{41, 11, 1, 1}, {131, 11, 3, 1}}},
		// One of the branches is fundamental, too, and begins with the same number.
		{hurwitz{[]int{8, 3, 1}, 1, 50}, [][]int{{8, 5, 1}, {23, 8, 3}}},
		// A jump at each index leads to the same sum.
		{hurwitz{[]int{2, 2, 2}, 1, 4}, nil},
		// The only greater root, and the only two, are beyond MaxSolution; the greatest one is just inside.
		{line(impl.MaxSolution), nil},
		{hurwitz{[]int{impl.MaxSolution, impl.MaxSolution - 1, 2, 1}, 1, 6}, nil},
		{line(impl.MaxSolution - 1), [][]int{line(impl.MaxSolution).list}},
	} {
		got, ok := impl.BranchesOf(c.s.list, c.s.a, c.s.b)
		wantLists(t, fmt.Sprint(c.s), got, ok, c.want)
	}
}

// grown goes up from a solution by all branches within a bound.
func grown(s hurwitz, most int) [][]int {
	met := map[string]bool{fmt.Sprint(s.list): true}
	tree := [][]int{s.list}
	for next := 0; next < len(tree); next++ {
		for _, branch := range (hurwitz{tree[next], s.a, s.b}).branches() {
			if name := fmt.Sprint(branch); branch[0] <= most && !met[name] {
				met[name] = true
				tree = append(tree, branch)
			}
		}
	}
	slices.SortFunc(tree, slices.Compare[[]int])
	return tree
}

func TestTreeUpTo(t *testing.T) {
	for _, c := range []struct {
		s    hurwitz
		most int
		want [][]int
	}{
		{hurwitz{[]int{1, 1, 1}, 3, 0}, 1, [][]int{{1, 1, 1}}},
		{hurwitz{[]int{1, 1, 1}, 3, 0}, 5, [][]int{{1, 1, 1}, {2, 1, 1}, {5, 2, 1}}},
		{hurwitz{[]int{1, 1, 1}, 3, 0}, 34, [][]int{{1, 1, 1}, {2, 1, 1}, {5, 2, 1}, {13, 5, 1}, {29, 5, 2}, {34, 13, 1}}},
		{hurwitz{[]int{1, 1, 1}, 3, 0}, 33, [][]int{{1, 1, 1}, {2, 1, 1}, {5, 2, 1}, {13, 5, 1}, {29, 5, 2}}},
		{hurwitz{[]int{5, 2, 1}, 3, 0}, 5, [][]int{{5, 2, 1}}},
		{hurwitz{[]int{5, 2, 1}, 3, 0}, 29, [][]int{{5, 2, 1}, {13, 5, 1}, {29, 5, 2}}},
		{hurwitz{[]int{3, 1, 1, 1}, 4, 0}, 100, [][]int{{3, 1, 1, 1}, {11, 3, 1, 1}, {41, 11, 1, 1}}},
		{hurwitz{[]int{2, 2, 2}, 1, 4}, impl.MaxSolution, [][]int{{2, 2, 2}}},
		{hurwitz{[]int{8, 3, 1}, 1, 50}, 8, [][]int{{8, 3, 1}, {8, 5, 1}}},
		{line(impl.MaxSolution), impl.MaxSolution, [][]int{line(impl.MaxSolution).list}},
		{line(impl.MaxSolution - 1), impl.MaxSolution, [][]int{line(impl.MaxSolution - 1).list, line(impl.MaxSolution).list}},
		{line(impl.MaxSolution - 1), impl.MaxSolution - 1, [][]int{line(impl.MaxSolution - 1).list}},
	} {
		got, ok := impl.TreeUpTo(c.s.list, c.s.a, c.s.b, c.most)
		wantLists(t, fmt.Sprint(c.s, c.most), got, ok, c.want)
	}
	got, ok := impl.TreeUpTo([]int{1, 1, 1}, 3, 0, impl.MaxSolution)
	wantLists(t, "MaxSolution", got, ok, grown(hurwitz{[]int{1, 1, 1}, 3, 0}, impl.MaxSolution))
	for _, s := range someSolutions() {
		for _, most := range []int{s.list[0] - 1, 0, -1, impl.MaxSolution + 1, 1 << 40, math.MinInt, math.MaxInt} {
			got, ok := impl.TreeUpTo(s.list, s.a, s.b, most)
			wantNoLists(t, fmt.Sprint(s, most), got, ok)
		}
	}
}

func TestTreeUpToMaxFound(t *testing.T) {
	for _, c := range []struct {
		s             hurwitz
		last, tooMuch int
	}{
		{hurwitz{[]int{2, 2, 1}, 1, 5}, 465, 466},
		{hurwitz{[]int{2, 1, 1}, 2, 2}, 479, 480},
		{hurwitz{[]int{2, 2, 1, 1}, 1, 6}, 442, 443},
		{hurwitz{[]int{4, 2, 1, 1}, 1, 14}, 1411, 1414},
	} {
		if len(grown(c.s, c.tooMuch)) <= impl.MaxFound {
			t.Error("this is no test:", c)
		}
		got, ok := impl.TreeUpTo(c.s.list, c.s.a, c.s.b, c.last)
		if len(got) != impl.MaxFound {
			t.Errorf("%v: %d solutions", c, len(got))
		}
		wantLists(t, fmt.Sprint(c.s, c.last), got, ok, grown(c.s, c.last))
		for _, most := range []int{c.tooMuch, 2 * c.tooMuch, impl.MaxSolution} {
			got, ok = impl.TreeUpTo(c.s.list, c.s.a, c.s.b, most)
			wantNoLists(t, fmt.Sprint(c.s, most), got, ok)
		}
	}
}

func TestTreesOfAllLessSolutions(t *testing.T) {
	for _, s := range append(hurwitzUpTo(3, 16), hurwitzUpTo(4, 8)...) {
		for _, most := range []int{s.list[0], 30, 100} {
			got, ok := impl.TreeUpTo(s.list, s.a, s.b, most)
			wantLists(t, fmt.Sprint(s, most), got, ok, grown(s, most))
		}
	}
}

func TestFactorsFor(t *testing.T) {
	for _, c := range []struct {
		parts, b, most int
		want           []int
	}{
		{3, 0, 10, []int{1, 3}}, {3, 0, 2, []int{3}}, {3, 0, impl.MaxTried, []int{1, 3}}, {4, 0, 1, []int{4}}, {4, 0, impl.MaxTried, []int{1, 4}},
		// The factor is just inside its limits, and just beyond.
		{3, 2, 1, []int{1}}, {3, 3, 1, nil}, {3, 4, 1, nil}, {3, -17, 1, []int{20}}, {3, -18, 1, nil}, {4, 3, 1, []int{1}}, {4, 4, 1, nil}, {4, -16, 1, []int{20}}, {4, -17, 1, nil},
		{3, 50, 6, nil}, {3, 50, 7, []int{1}},
	} {
		got, ok := impl.FactorsFor(c.parts, c.b, c.most)
		wantList(t, fmt.Sprint(c.parts, c.b, c.most), got, ok, c.want)
	}
	for _, parts := range []int{3, 4} {
		all := hurwitzUpTo(parts, impl.MaxTried)
		for b := -impl.MaxRest; b <= impl.MaxRest; b++ {
			for _, most := range []int{1, 2, 7, impl.MaxTried} {
				// Lists of four parts up to MaxTried take their time.
				if parts == 4 && most == impl.MaxTried && b%7 != 1 {
					continue
				}
				var want []int
				for a := 1; a <= impl.MaxFactor; a++ {
					if len(listsFor(all, a, b, most)) > 0 {
						want = append(want, a)
					}
				}
				got, ok := impl.FactorsFor(parts, b, most)
				wantList(t, fmt.Sprint(parts, b, most), got, ok, want)
			}
		}
	}
}

func TestPromise4NoFactorIsGreaterThanTheParts(t *testing.T) {
	for _, parts := range []int{3, 4} {
		for most := 1; most <= impl.MaxTried; most++ {
			factors, ok := impl.FactorsFor(parts, 0, most)
			if !ok || len(factors) == 0 || factors[len(factors)-1] > parts {
				t.Error(parts, most, factors, ok)
			}
		}
	}
}

func sumOf(list []int) int {
	sum := 0
	for _, number := range list {
		sum += number
	}
	return sum
}

// checkWay checks the one way down of a solution, and the word back.
func checkWay(t *testing.T, s hurwitz) {
	t.Helper()
	way, ok := impl.WayDown(s.list, s.a, s.b)
	if !ok || !slices.Equal(way[0], s.list) {
		t.Fatal(s, way, ok)
	}
	word, ok := impl.WordUp(s.list, s.a, s.b)
	if !ok || len(word) != len(way)-1 {
		t.Fatal(s, way, word, ok)
	}
	for i, list := range way {
		here := hurwitz{list, s.a, s.b}
		isLast, ok := impl.IsFundamental(list, s.a, s.b)
		wantAnswer(t, fmt.Sprint(here), isLast, ok, i == len(way)-1)
		if isLast {
			last, ok := impl.FundamentalOf(s.list, s.a, s.b)
			wantList(t, fmt.Sprint(s), last, ok, list)
			continue
		}
		want, _ := here.jumped(0)
		wantList(t, fmt.Sprint(here), way[i+1], sumOf(want) < sumOf(list), want)
		// The word is told from the end on.
		index := word[len(word)-1-i]
		below := hurwitz{way[i+1], s.a, s.b}
		for other := 0; other <= index; other++ {
			up, _ := below.jumped(other)
			if slices.Equal(up, list) != (other == index) {
				t.Errorf("%v jumps at %d to %v, but is told to jump at %d to %v", below, other, up, index, list)
			}
		}
	}
	checkWordBack(t, s, way[len(way)-1], word)
}

func checkWordBack(t *testing.T, s hurwitz, fundamental, word []int) {
	t.Helper()
	last, ok := fundamental, true
	for piece := range slices.Chunk(word, impl.MaxWord) {
		if last, ok = impl.ClimbHurwitz(last, s.a, s.b, piece); !ok {
			t.Fatalf("%v cannot be reached by %v", s, word)
		}
	}
	wantList(t, fmt.Sprint(s), last, ok, s.list)
}

func TestPromise4EachSolutionHasItsWay(t *testing.T) {
	for _, s := range append(hurwitzUpTo(3, impl.MaxTried), hurwitzUpTo(4, 20)...) {
		checkWay(t, s)
	}
	for _, s := range someSolutions() {
		if s.list[0] < impl.MaxSolution-1 {
			checkWay(t, s)
		}
	}
	// A way of just as many jumps as a word may have, one of one more, and one of many more.
	for _, greatest := range []int{impl.MaxWord + 2, impl.MaxWord + 3, 3000} {
		checkWay(t, line(greatest))
	}
}

func TestPromise4GreatSolutionsHaveTheirWay(t *testing.T) {
	checked := 0
	for _, s := range append(hurwitzUpTo(3, 6), hurwitzUpTo(4, 4)...) {
		for _, most := range []int{impl.MaxSolution, 300} {
			tree, ok := impl.TreeUpTo(s.list, s.a, s.b, most)
			if !ok {
				continue
			}
			for i, list := range tree {
				if i > 0 && slices.Compare(tree[i-1], list) >= 0 || !solvesExactly(list, s.a, s.b) || list[0] > most {
					t.Errorf("%v has %v in its tree", s, list)
				}
				checkWay(t, hurwitz{list, s.a, s.b})
				checked++
			}
			break
		}
	}
	if checked < 3000 {
		t.Error("this is no test:", checked)
	}
}

// TestPromise4TreesHoldAllSolutions joins the trees of the fundamental solutions.
func TestPromise4TreesHoldAllSolutions(t *testing.T) {
	for _, parts := range []int{3, 4} {
		for a := 1; a <= impl.MaxFactor; a++ {
			for b := -impl.MaxRest; b <= impl.MaxRest; b += 3 {
				all, _ := impl.SolutionsUpTo(parts, a, b, 12)
				fundamentals, _ := impl.FundamentalsUpTo(parts, a, b, 12)
				var joined [][]int
				for _, list := range fundamentals {
					tree, _ := impl.TreeUpTo(list, a, b, 12)
					joined = append(joined, tree...)
				}
				slices.SortFunc(joined, slices.Compare[[]int])
				joined = slices.CompactFunc(joined, slices.Equal[[]int])
				wantLists(t, fmt.Sprint(parts, a, b), joined, true, all)
			}
		}
	}
}

func TestPromise11OfHurwitzSolutions(t *testing.T) {
	words := [][]int{nil, {}, {0}, {1, 0}, {2, 1}, {3}, {-1}, {math.MinInt}, {math.MaxInt}, repeated(0, impl.MaxWord), repeated(1, impl.MaxWord), repeated(0, impl.MaxWord+1)}
	for _, s := range slices.Concat(someSolutions(), notSolutions(), notEquations()) {
		checkTotal(t, "IsHurwitz", impl.IsHurwitz, s.list, s.a, s.b)
		checkTotal(t, "IsFundamental", impl.IsFundamental, s.list, s.a, s.b)
		checkTotal(t, "BranchesOf", impl.BranchesOf, s.list, s.a, s.b)
		for _, i := range []int{math.MinInt, -1, 0, 1, 2, 3, 4, math.MaxInt} {
			checkTotal(t, "OtherRootAt", impl.OtherRootAt, s.list, s.a, s.b, i)
			checkTotal(t, "JumpAt", impl.JumpAt, s.list, s.a, s.b, i)
		}
		for _, word := range words {
			checkTotal(t, "ClimbHurwitz", impl.ClimbHurwitz, s.list, s.a, s.b, word)
		}
		for _, most := range []int{math.MinInt, 0, 1, 40, 465, 466, impl.MaxSolution, impl.MaxSolution + 1, math.MaxInt} {
			checkTotal(t, "TreeUpTo", impl.TreeUpTo, s.list, s.a, s.b, most)
		}
		checkTotal(t, "WayDown", impl.WayDown, s.list, s.a, s.b)
		checkTotal(t, "FundamentalOf", impl.FundamentalOf, s.list, s.a, s.b)
		checkTotal(t, "WordUp", impl.WordUp, s.list, s.a, s.b)
	}
}

func TestPromise11OfHurwitzNumbers(t *testing.T) {
	bounds, parts := notTried()
	factors := []int{math.MinInt, -1, 0, 1, 3, 20, 21, math.MaxInt}
	rests := []int{math.MinInt, -51, -50, 0, 5, 50, 51, math.MaxInt}
	for _, count := range append(parts, 3, 4) {
		for _, most := range append(bounds, 1, 2, 10) {
			for _, b := range rests {
				checkTotal(t, "FactorsFor", impl.FactorsFor, count, b, most)
				for _, a := range factors {
					checkTotal(t, "SolutionsUpTo", impl.SolutionsUpTo, count, a, b, most)
					checkTotal(t, "FundamentalsUpTo", impl.FundamentalsUpTo, count, a, b, most)
				}
			}
		}
	}
	for _, a := range factors {
		for _, b := range rests {
			checkTotal(t, "IsHurwitz", impl.IsHurwitz, []int{1, 1, 1}, a, b)
			checkTotal(t, "WayDown", impl.WayDown, []int{3, 2, 2}, a, b)
		}
	}
}

// TestPromise11OfHurwitzAnswers changes answers and looks whether later ones, or the argument, change with them.
func TestPromise11OfHurwitzAnswers(t *testing.T) {
	root := []int{1, 1, 1}
	way, _ := impl.WayDown(root, 3, 0)
	way[0][0] = 9
	last, _ := impl.FundamentalOf(root, 3, 0)
	last[1] = 9
	same, _ := impl.ClimbHurwitz(root, 3, 0, nil)
	same[2] = 9
	tree, _ := impl.TreeUpTo(root, 3, 0, 5)
	for _, list := range tree {
		list[0] = 9
	}
	if !reflect.DeepEqual(tree, [][]int{{9, 1, 1}, {9, 1, 1}, {9, 2, 1}}) {
		t.Error("memory is shared:", tree)
	}
	wantList(t, "argument", root, true, []int{1, 1, 1})
	factors, _ := impl.FactorsFor(3, 0, 10)
	factors[0] = 9
	factors, ok := impl.FactorsFor(3, 0, 10)
	wantList(t, "factors", factors, ok, []int{1, 3})
	found, _ := impl.SolutionsUpTo(3, 3, 0, 2)
	found[0][0] = 9
	found, ok = impl.SolutionsUpTo(3, 3, 0, 2)
	wantLists(t, "solutions", found, ok, [][]int{{1, 1, 1}, {2, 1, 1}})
}
