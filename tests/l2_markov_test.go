package tests

import (
	"fmt"
	"math"
	"reflect"
	"slices"
	"sort"
	"strings"
	"testing"

	"loop.example/g01122/impl"
)

// notThreeCounts are invalid wherever three numbers in 1..MaxNumber are required.
func notThreeCounts() [][]int {
	return [][]int{
		nil, {}, {1}, {1, 1}, {1, 1, 1, 1}, {1, 2, 5, 29}, repeated(1, 50),
		{0, 0, 0}, {0, 1, 1}, {1, 0, 1}, {1, 1, 0}, {-1, 1, 1}, {1, -1, 1}, {1, 1, -2}, {-1, -1, 1}, {-1, -2, 5},
		{impl.MaxNumber + 1, 1, 1}, {1, impl.MaxNumber + 1, 1}, {1, 1, impl.MaxNumber + 1},
		{1, 433494437, 1134903170},
		{math.MaxInt, 1, 1}, {1, 1, math.MaxInt}, {math.MinInt, 1, 1}, {1, 1, math.MinInt}, repeated(math.MaxInt, 3), repeated(math.MinInt, 3),
		{1 << 32, 1 << 32, 1 << 32},
	}
}

// wrapped do not solve Markov's equation, but both of its sides are equal modulo 2 to the power of 64.
func wrapped() [][]int {
	return [][]int{
		{1901753, 662058590, 900000587},
		{2073845, 138148009, 900025173},
		{2321075, 88055455, 900030437},
	}
}

// notMarkovs are invalid wherever a Markov triple is required.
func notMarkovs() [][]int {
	made := append(notThreeCounts(), wrapped()...)
	return append(made,
		[]int{1, 1, 3}, []int{1, 2, 2}, []int{1, 2, 3}, []int{1, 2, 6}, []int{2, 2, 2}, []int{5, 13, 193}, []int{3, 3, 3},
		[]int{2, 1, 1}, []int{1, 2, 1}, []int{1, 5, 2}, []int{2, 1, 5}, []int{2, 5, 1}, []int{5, 1, 2}, []int{5, 2, 1}, []int{194, 13, 5},
		[]int{1, 1, impl.MaxNumber}, repeated(impl.MaxNumber, 3),
	)
}

func wantLists(t *testing.T, name string, got [][]int, ok bool, want [][]int) {
	t.Helper()
	if !ok || !slices.EqualFunc(got, want, slices.Equal[[]int]) {
		t.Errorf("%s: %v %v instead of %v", name, got, ok, want)
	}
}

func wantNoLists(t *testing.T, name string, got [][]int, ok bool) {
	t.Helper()
	if ok || len(got) != 0 {
		t.Errorf("%s: %v %v instead of a failure", name, got, ok)
	}
}

func wantText(t *testing.T, name string, got string, ok bool, want string) {
	t.Helper()
	if !ok || got != want {
		t.Errorf("%s: %q %v instead of %q", name, got, ok, want)
	}
}

func wantNoText(t *testing.T, name string, got string, ok bool) {
	t.Helper()
	if ok || got != "" {
		t.Errorf("%s: %q %v instead of a failure", name, got, ok)
	}
}

func TestConstantsOfChapter2(t *testing.T) {
	if impl.MaxPrime != 13 {
		t.Error(impl.MaxPrime)
	}
}

func TestSolvesMarkov(t *testing.T) {
	for _, c := range []struct {
		list []int
		want bool
	}{
		{[]int{1, 1, 1}, true}, {[]int{1, 1, 2}, true}, {[]int{1, 2, 1}, true}, {[]int{2, 1, 1}, true},
		{[]int{1, 2, 5}, true}, {[]int{5, 1, 2}, true}, {[]int{2, 5, 1}, true}, {[]int{194, 5, 13}, true}, {[]int{13, 194, 5}, true},
		{[]int{1, 165580141, 433494437}, true}, {[]int{981277621, 194, 1686049}, true},
		{[]int{1, 2, 3}, false}, {[]int{1, 1, 3}, false}, {[]int{2, 2, 2}, false}, {[]int{3, 3, 3}, false}, {[]int{5, 13, 195}, false},
		{[]int{1, 1, impl.MaxNumber}, false}, {[]int{impl.MaxNumber, impl.MaxNumber, impl.MaxNumber}, false},
		{[]int{impl.MaxNumber, 1, impl.MaxNumber}, false},
		{[]int{1 << 29, 1 << 29, 1 << 29}, false},
	} {
		got, ok := impl.SolvesMarkov(c.list)
		wantAnswer(t, fmt.Sprint(c.list), got, ok, c.want)
	}
	for _, list := range notThreeCounts() {
		got, ok := impl.SolvesMarkov(list)
		wantNoAnswer(t, fmt.Sprint(list), got, ok)
	}
}

func TestSolvesMarkovBeyondAnInt(t *testing.T) {
	for _, w := range wrapped() {
		x, y, z := w[0], w[1], w[2]
		if x*x+y*y+z*z != 3*x*y*z {
			t.Fatal("this is no test:", w)
		}
		for _, list := range [][]int{{x, y, z}, {x, z, y}, {y, x, z}, {y, z, x}, {z, x, y}, {z, y, x}} {
			got, ok := impl.SolvesMarkov(list)
			wantAnswer(t, fmt.Sprint(list), got, ok, false)
		}
	}
}

func TestSolvesMarkovOfAllLessNumbers(t *testing.T) {
	for x := 1; x <= 60; x++ {
		for y := 1; y <= 60; y++ {
			for z := 1; z <= 60; z++ {
				list := []int{x, y, z}
				want := x*x+y*y+z*z == 3*x*y*z
				got, ok := impl.SolvesMarkov(list)
				wantAnswer(t, fmt.Sprint(list), got, ok, want)
				if impl.IsMarkov(list) != (want && x <= y && y <= z) {
					t.Errorf("IsMarkov%v is %v", list, impl.IsMarkov(list))
				}
			}
		}
	}
}

func TestIsMarkov(t *testing.T) {
	for _, list := range [][]int{{1, 1, 1}, {1, 1, 2}, {1, 2, 5}, {1, 5, 13}, {2, 5, 29}, {5, 13, 194}, {1, 165580141, 433494437}, {194, 1686049, 981277621}} {
		if !impl.IsMarkov(list) {
			t.Errorf("%v is not told as a triple", list)
		}
	}
	for _, list := range notMarkovs() {
		if impl.IsMarkov(list) {
			t.Errorf("%v is told as a triple", list)
		}
	}
}

func TestMarkovMove(t *testing.T) {
	for _, c := range []struct {
		t    []int
		i    int
		want []int
	}{
		{[]int{1, 1, 1}, 0, []int{1, 1, 2}}, {[]int{1, 1, 1}, 1, []int{1, 1, 2}}, {[]int{1, 1, 1}, 2, []int{1, 1, 2}},
		{[]int{1, 1, 2}, 0, []int{1, 2, 5}}, {[]int{1, 1, 2}, 1, []int{1, 2, 5}}, {[]int{1, 1, 2}, 2, []int{1, 1, 1}},
		{[]int{1, 2, 5}, 0, []int{2, 5, 29}}, {[]int{1, 2, 5}, 1, []int{1, 5, 13}}, {[]int{1, 2, 5}, 2, []int{1, 1, 2}},
		{[]int{1, 5, 13}, 0, []int{5, 13, 194}}, {[]int{1, 5, 13}, 1, []int{1, 13, 34}}, {[]int{1, 5, 13}, 2, []int{1, 2, 5}},
		{[]int{5, 13, 194}, 2, []int{1, 5, 13}},
		// Numbers on the way are greater than MaxNumber.
		{[]int{5741, 33461, 576298801}, 2, []int{2, 5741, 33461}},
		{[]int{1, 63245986, 165580141}, 1, []int{1, 165580141, 433494437}},
		{[]int{1, 165580141, 433494437}, 2, []int{1, 63245986, 165580141}},
	} {
		got, ok := impl.MarkovMove(c.t, c.i)
		wantList(t, fmt.Sprint(c.t, c.i), got, ok, c.want)
	}
	for _, c := range []struct {
		t []int
		i int
	}{
		{[]int{1, 2, 5}, -1}, {[]int{1, 2, 5}, 3}, {[]int{1, 2, 5}, math.MinInt}, {[]int{1, 2, 5}, math.MaxInt},
		// The number would be 1134903170 and more.
		{[]int{1, 165580141, 433494437}, 1}, {[]int{1, 165580141, 433494437}, 0},
		{[]int{194, 1686049, 981277621}, 0}, {[]int{194, 1686049, 981277621}, 1},
	} {
		got, ok := impl.MarkovMove(c.t, c.i)
		wantNoList(t, fmt.Sprint(c.t, c.i), got, ok)
	}
	for _, list := range notMarkovs() {
		for i := -1; i <= 3; i++ {
			got, ok := impl.MarkovMove(list, i)
			wantNoList(t, fmt.Sprint(list, i), got, ok)
		}
	}
}

func TestMarkovDown(t *testing.T) {
	for _, c := range [][2][]int{
		{{1, 1, 2}, {1, 1, 1}},
		{{1, 2, 5}, {1, 1, 2}},
		{{1, 5, 13}, {1, 2, 5}},
		{{2, 5, 29}, {1, 2, 5}},
		{{5, 13, 194}, {1, 5, 13}},
		{{5741, 33461, 576298801}, {2, 5741, 33461}},
		{{194, 1686049, 981277621}, {194, 2897, 1686049}},
	} {
		got, ok := impl.MarkovDown(c[0])
		wantList(t, fmt.Sprint(c[0]), got, ok, c[1])
	}
	got, ok := impl.MarkovDown([]int{1, 1, 1})
	wantNoList(t, "the root", got, ok)
	for _, list := range notMarkovs() {
		got, ok := impl.MarkovDown(list)
		wantNoList(t, fmt.Sprint(list), got, ok)
	}
}

func TestMarkovUp(t *testing.T) {
	for _, c := range []struct {
		t    []int
		want [][]int
	}{
		{[]int{1, 1, 1}, [][]int{{1, 1, 2}}},
		{[]int{1, 1, 2}, [][]int{{1, 2, 5}}},
		{[]int{1, 2, 5}, [][]int{{1, 5, 13}, {2, 5, 29}}},
		{[]int{1, 5, 13}, [][]int{{1, 13, 34}, {5, 13, 194}}},
		{[]int{2, 5, 29}, [][]int{{2, 29, 169}, {5, 29, 433}}},
		// Only the first one is within MaxNumber, or none is.
		{[]int{1, 63245986, 165580141}, [][]int{{1, 165580141, 433494437}}},
		{[]int{1, 165580141, 433494437}, nil},
		{[]int{194, 1686049, 981277621}, nil},
	} {
		got, ok := impl.MarkovUp(c.t)
		wantLists(t, fmt.Sprint(c.t), got, ok, c.want)
	}
	for _, list := range notMarkovs() {
		got, ok := impl.MarkovUp(list)
		wantNoLists(t, fmt.Sprint(list), got, ok)
	}
}

func TestMarkovPath(t *testing.T) {
	for _, want := range [][][]int{
		{{1, 1, 1}},
		{{1, 1, 2}, {1, 1, 1}},
		{{1, 2, 5}, {1, 1, 2}, {1, 1, 1}},
		{{5, 13, 194}, {1, 5, 13}, {1, 2, 5}, {1, 1, 2}, {1, 1, 1}},
		{{29, 169, 14701}, {2, 29, 169}, {2, 5, 29}, {1, 2, 5}, {1, 1, 2}, {1, 1, 1}},
	} {
		got, ok := impl.MarkovPath(want[0])
		wantLists(t, fmt.Sprint(want[0]), got, ok, want)
	}
	for _, list := range notMarkovs() {
		got, ok := impl.MarkovPath(list)
		wantNoLists(t, fmt.Sprint(list), got, ok)
	}
}

// wordsAndTriples belong to each other.
func wordsAndTriples() map[string][]int {
	return map[string][]int{
		"":    {1, 2, 5},
		"l":   {1, 5, 13},
		"r":   {2, 5, 29},
		"ll":  {1, 13, 34},
		"lr":  {5, 13, 194},
		"rl":  {2, 29, 169},
		"rr":  {5, 29, 433},
		"llr": {13, 34, 1325},
		"lrl": {5, 194, 2897},
		"lrr": {13, 194, 7561},
		"rrl": {5, 433, 6466},
		// The longest of all words whose triple has no number beyond MaxNumber.
		strings.Repeat("l", 19): {1, 165580141, 433494437},
	}
}

func TestMarkovWord(t *testing.T) {
	for word, list := range wordsAndTriples() {
		got, ok := impl.MarkovWord(list)
		wantText(t, fmt.Sprint(list), got, ok, word)
	}
	for _, list := range append(notMarkovs(), []int{1, 1, 1}, []int{1, 1, 2}) {
		got, ok := impl.MarkovWord(list)
		wantNoText(t, fmt.Sprint(list), got, ok)
	}
}

// notMarkovWords are texts that are no words, or whose triple would have a number beyond MaxNumber.
func notMarkovWords() []string {
	return []string{
		"x", "L", "R", "lx", "xl", "lxr", "l r", " ", " l", "l ", "l\n", "a", "ab", "0", "\x00", "l\x00", "\xff", "\xffl", "lé", "ľ", "🙂",
		strings.Repeat("l", 20), strings.Repeat("r", 20), strings.Repeat("lr", 10),
		strings.Repeat("l", impl.MaxWord), strings.Repeat("r", impl.MaxWord),
		strings.Repeat("l", impl.MaxWord+1), strings.Repeat("r", impl.MaxWord+1), strings.Repeat("lr", 5000),
		strings.Repeat("l", 20) + "x", strings.Repeat("x", impl.MaxWord),
	}
}

func TestMarkovOfWord(t *testing.T) {
	for word, list := range wordsAndTriples() {
		got, ok := impl.MarkovOfWord(word)
		wantList(t, word, got, ok, list)
	}
	for _, word := range notMarkovWords() {
		got, ok := impl.MarkovOfWord(word)
		wantNoList(t, word, got, ok)
	}
}

// searched returns all triples whose greatest number is at most most, in the order of the document, by another way: for each two numbers, the third one is a root of x x - 3 y z x + y y + z z.
func searched(most int) [][]int {
	var found [][]int
	for x := 1; ; x++ {
		for y := x; ; y++ {
			square := 9*x*x*y*y - 4*x*x - 4*y*y
			root := int(math.Sqrt(float64(square)))
			// The greater root is at least this, so that no greater y has one that is at most most.
			if (3*x*y+root)/2 > most {
				if y == x {
					return append([][]int{{1, 1, 1}}, sortedByGreatest(found)...)
				}
				break
			}
			if root*root == square {
				found = append(found, []int{x, y, (3*x*y + root) / 2})
			}
		}
	}
}

func sortedByGreatest(lists [][]int) [][]int {
	sort.Slice(lists, func(i, j int) bool {
		if lists[i][2] != lists[j][2] {
			return lists[i][2] < lists[j][2]
		}
		return slices.Compare(lists[i], lists[j]) < 0
	})
	return lists
}

func TestMarkovUpToFindsWhatASearchFinds(t *testing.T) {
	all := searched(1000000)
	if len(all) < 40 {
		t.Fatal("too few triples:", all)
	}
	bounds := []int{1000000, 999999, 500000}
	for _, list := range all {
		bounds = append(bounds, list[2], list[2]+1)
		if list[2] > 1 {
			bounds = append(bounds, list[2]-1)
		}
	}
	for most := 1; most <= 200; most++ {
		bounds = append(bounds, most)
	}
	for _, most := range bounds {
		most = min(most, 1000000)
		var want, last [][]int
		var numbers []int
		for _, list := range all {
			if list[2] <= most {
				want = append(want, list)
				numbers = append(numbers, list[2])
			}
			if list[2] == most {
				last = append(last, list)
			}
		}
		got, ok := impl.MarkovUpTo(most)
		wantLists(t, fmt.Sprint("MarkovUpTo ", most), got, ok, want)
		told, ok := impl.MarkovNumbersUpTo(most)
		wantList(t, fmt.Sprint("MarkovNumbersUpTo ", most), told, ok, slices.Compact(numbers))
		with, ok := impl.TriplesWith(most)
		wantLists(t, fmt.Sprint("TriplesWith ", most), with, ok, last)
		is, ok := impl.IsMarkovNumber(most)
		wantAnswer(t, fmt.Sprint("IsMarkovNumber ", most), is, ok, len(last) > 0)
	}
}

// lastTriples are those with a greatest number of more than 640000000, as a search through all pairs of two numbers has found them.
func lastTriples() [][]int {
	return [][]int{{89, 2423525, 647072098}, {610, 426389, 780291637}, {10946, 28657, 941038565}, {194, 1686049, 981277621}}
}

func TestMarkovUpToTheGreatestBound(t *testing.T) {
	all, ok := impl.MarkovUpTo(impl.MaxNumber)
	if !ok || len(all) != 88 {
		t.Fatal("triples:", len(all), ok)
	}
	wantLists(t, "the last ones", all[84:], ok, lastTriples())
	numbers, ok := impl.MarkovNumbersUpTo(impl.MaxNumber)
	if !ok || len(numbers) != 88 {
		t.Fatal("numbers:", len(numbers), ok)
	}
	for i, list := range all {
		if !impl.IsMarkov(list) || numbers[i] != list[2] || i > 0 && numbers[i-1] >= numbers[i] {
			t.Error(i, list, numbers[i])
		}
		with, ok := impl.TriplesWith(list[2])
		wantLists(t, fmt.Sprint(list[2]), with, ok, [][]int{list})
		is, ok := impl.IsMarkovNumber(list[2])
		wantAnswer(t, fmt.Sprint(list[2]), is, ok, true)
	}
	for _, n := range []int{impl.MaxNumber, impl.MaxNumber - 1, 981277620, 981277622} {
		with, ok := impl.TriplesWith(n)
		wantLists(t, fmt.Sprint(n), with, ok, nil)
		is, ok := impl.IsMarkovNumber(n)
		wantAnswer(t, fmt.Sprint(n), is, ok, false)
	}
}

func TestMarkovNumbers(t *testing.T) {
	lists, ok := impl.MarkovUpTo(1)
	wantLists(t, "1", lists, ok, [][]int{{1, 1, 1}})
	lists, ok = impl.MarkovUpTo(4)
	wantLists(t, "4", lists, ok, [][]int{{1, 1, 1}, {1, 1, 2}})
	lists, ok = impl.MarkovUpTo(34)
	wantLists(t, "34", lists, ok, [][]int{{1, 1, 1}, {1, 1, 2}, {1, 2, 5}, {1, 5, 13}, {2, 5, 29}, {1, 13, 34}})
	numbers, ok := impl.MarkovNumbersUpTo(1)
	wantList(t, "1", numbers, ok, []int{1})
	numbers, ok = impl.MarkovNumbersUpTo(1000)
	wantList(t, "1000", numbers, ok, []int{1, 2, 5, 13, 29, 34, 89, 169, 194, 233, 433, 610, 985})
	lists, ok = impl.TriplesWith(1)
	wantLists(t, "1", lists, ok, [][]int{{1, 1, 1}})
	lists, ok = impl.TriplesWith(2)
	wantLists(t, "2", lists, ok, [][]int{{1, 1, 2}})
	lists, ok = impl.TriplesWith(3)
	wantLists(t, "3", lists, ok, nil)
	for _, n := range []int{0, -1, -5, impl.MaxNumber + 1, 1134903170, math.MinInt, math.MaxInt} {
		name := fmt.Sprint(n)
		lists, ok := impl.MarkovUpTo(n)
		wantNoLists(t, name, lists, ok)
		numbers, ok := impl.MarkovNumbersUpTo(n)
		wantNoList(t, name, numbers, ok)
		is, ok := impl.IsMarkovNumber(n)
		wantNoAnswer(t, name, is, ok)
		lists, ok = impl.TriplesWith(n)
		wantNoLists(t, name, lists, ok)
	}
}

func TestMinusOneRoot(t *testing.T) {
	for _, c := range []struct {
		t    []int
		want int
	}{
		{[]int{1, 1, 1}, 0},
		{[]int{1, 1, 2}, 1},
		{[]int{1, 2, 5}, 2},
		{[]int{1, 5, 13}, 5},
		{[]int{2, 5, 29}, 17},
		{[]int{5, 13, 194}, 119},
		{[]int{1, 165580141, 433494437}, 165580141},
	} {
		got, ok := impl.MinusOneRoot(c.t)
		wantNumber(t, fmt.Sprint(c.t), got, ok, c.want)
	}
	for _, list := range notMarkovs() {
		got, ok := impl.MinusOneRoot(list)
		wantNoNumber(t, fmt.Sprint(list), got, ok)
	}
}

func TestMinusOneRootIsTheOnlyOne(t *testing.T) {
	all, _ := impl.MarkovUpTo(100000)
	for _, list := range all {
		var found []int
		for u := range list[2] {
			if (u*list[0]-list[1])%list[2] == 0 {
				found = append(found, u)
			}
		}
		got, ok := impl.MinusOneRoot(list)
		wantList(t, fmt.Sprint(list), []int{got}, ok, found)
	}
	all, _ = impl.MarkovUpTo(impl.MaxNumber)
	for _, list := range all {
		u, ok := impl.MinusOneRoot(list)
		if z := list[2]; !ok || u < 0 || u >= z || (u*list[0]-list[1])%z != 0 || (u*u+1)%z != 0 {
			t.Errorf("%v has the root %v %v", list, u, ok)
		}
	}
}

func TestPromise2EachTripleComesDownToTheRoot(t *testing.T) {
	all, _ := impl.MarkovUpTo(impl.MaxNumber)
	if len(all) != 88 {
		t.Fatal("triples:", len(all))
	}
	for _, list := range all {
		path, ok := impl.MarkovPath(list)
		if !ok {
			t.Errorf("%v has no path", list)
			continue
		}
		wantList(t, "the first one", path[0], true, list)
		wantList(t, "the last one", path[len(path)-1], true, []int{1, 1, 1})
		for i, lower := range path[1:] {
			upper := path[i]
			down, ok := impl.MarkovDown(upper)
			wantList(t, fmt.Sprint(upper), down, ok, lower)
			moved, ok := impl.MarkovMove(upper, 2)
			wantList(t, fmt.Sprint(upper), moved, ok, lower)
			if !impl.IsMarkov(lower) || lower[2] >= upper[2] {
				t.Errorf("%v comes down to %v", upper, lower)
			}
			ups, ok := impl.MarkovUp(lower)
			if !ok || !slices.ContainsFunc(ups, func(up []int) bool { return slices.Equal(up, upper) }) {
				t.Errorf("%v does not come up to %v, but to %v", lower, upper, ups)
			}
		}
	}
}

func TestPromise2MovesUndoEachOther(t *testing.T) {
	all, _ := impl.MarkovUpTo(impl.MaxNumber)
	for _, list := range all {
		var greater [][]int
		for i := range 3 {
			moved, ok := impl.MarkovMove(list, i)
			if !ok {
				continue
			}
			if !impl.IsMarkov(moved) {
				t.Errorf("%v moves at %d to %v", list, i, moved)
			}
			if moved[2] > list[2] {
				down, ok := impl.MarkovDown(moved)
				wantList(t, fmt.Sprint(moved), down, ok, list)
				greater = append(greater, moved)
			}
		}
		slices.SortFunc(greater, slices.Compare[[]int])
		greater = slices.CompactFunc(greater, slices.Equal[[]int])
		ups, ok := impl.MarkovUp(list)
		wantLists(t, fmt.Sprint(list), ups, ok, greater)
	}
}

func TestPromise2WordsAndTriplesUndoEachOther(t *testing.T) {
	told := 0
	words := []string{""}
	for len(words) > 0 {
		word := words[0]
		words = words[1:]
		list, ok := impl.MarkovOfWord(word)
		if !ok {
			continue
		}
		told++
		back, ok := impl.MarkovWord(list)
		wantText(t, fmt.Sprint(list), back, ok, word)
		for letter, index := range map[string]int{"l": 1, "r": 0} {
			moved, movedOk := impl.MarkovMove(list, index)
			got, ok := impl.MarkovOfWord(word + letter)
			if ok != movedOk || !slices.Equal(got, moved) {
				t.Errorf("%q has %v %v instead of %v %v", word+letter, got, ok, moved, movedOk)
			}
			words = append(words, word+letter)
		}
	}
	// All triples but 1 1 1 and 1 1 2 have a word.
	if told != 86 {
		t.Error("words:", told)
	}
	all, _ := impl.MarkovUpTo(impl.MaxNumber)
	for _, list := range all[2:] {
		word, ok := impl.MarkovWord(list)
		got, gotOk := impl.MarkovOfWord(word)
		wantList(t, word, got, gotOk && ok, list)
	}
}

func primesOfChapter2() []int { return []int{2, 3, 5, 7, 11, 13} }

func notPrimesOfChapter2() []int {
	return []int{math.MinInt, -7, -2, -1, 0, 1, 4, 6, 8, 9, 10, 12, 14, 15, 17, 19, 25, 169, 1000000007, math.MaxInt}
}

// triplesModulo returns all triples modulo p in lexicographic order.
func triplesModulo(p int) [][]int {
	var found [][]int
	for x := range p {
		for y := range p {
			for z := range p {
				if x+y+z > 0 && (x*x+y*y+z*z-3*x*y*z)%p == 0 {
					found = append(found, []int{x, y, z})
				}
			}
		}
	}
	return found
}

// notModTriples are invalid for the prime number p.
func notModTriples(p int) [][]int {
	made := [][]int{
		nil, {}, {1}, {1, 1}, {1, 1, 1, 1}, {0, 0, 0}, {0, 0, 1}, {1, 0, 0},
		{1, 1, 1 + p}, {1 + p, 1, 1}, {1, 1 + p, 1}, {1, 1, 1 - p}, {1 - p, 1, 1}, {1, 1 - p, 1}, {p, p, p}, {-p, 0, 0},
		{math.MinInt, 1, 1}, {1, 1, math.MaxInt}, repeated(math.MinInt, 3), repeated(math.MaxInt, 3),
	}
	if p > 3 {
		made = append(made, []int{1, 1, 3}, []int{1, 2, 3})
	}
	return made
}

func TestModCount(t *testing.T) {
	for p, want := range map[int]int{2: 4, 3: 8, 5: 40, 7: 28, 11: 88, 13: 208} {
		got, ok := impl.ModCount(p)
		wantNumber(t, fmt.Sprint(p), got, ok, want)
		if len(triplesModulo(p)) != want {
			t.Error("this is no test:", p)
		}
	}
	for _, p := range notPrimesOfChapter2() {
		got, ok := impl.ModCount(p)
		wantNoNumber(t, fmt.Sprint(p), got, ok)
	}
}

func TestModMove(t *testing.T) {
	for _, c := range []struct {
		p    int
		t    []int
		i    int
		want []int
	}{
		{2, []int{1, 1, 1}, 0, []int{0, 1, 1}}, {2, []int{1, 0, 1}, 1, []int{1, 1, 1}}, {2, []int{1, 0, 1}, 2, []int{1, 0, 1}},
		{3, []int{1, 1, 1}, 2, []int{1, 1, 2}}, {3, []int{2, 1, 1}, 0, []int{1, 1, 1}},
		{5, []int{0, 1, 2}, 0, []int{1, 1, 2}}, {5, []int{0, 1, 2}, 1, []int{0, 4, 2}},
		// The numbers keep their places: they may fall.
		{7, []int{1, 1, 1}, 0, []int{2, 1, 1}}, {7, []int{2, 1, 1}, 1, []int{2, 5, 1}}, {7, []int{2, 5, 1}, 2, []int{2, 5, 1}},
		{7, []int{1, 2, 5}, 0, []int{1, 2, 5}}, {7, []int{1, 2, 5}, 1, []int{1, 6, 5}},
		{13, []int{1, 2, 5}, 0, []int{3, 2, 5}}, {13, []int{1, 2, 5}, 1, []int{1, 0, 5}}, {13, []int{1, 2, 5}, 2, []int{1, 2, 1}},
	} {
		got, ok := impl.ModMove(c.p, c.t, c.i)
		wantList(t, fmt.Sprint(c.p, c.t, c.i), got, ok, c.want)
	}
	for _, p := range primesOfChapter2() {
		for _, i := range []int{-1, 3, math.MinInt, math.MaxInt} {
			got, ok := impl.ModMove(p, []int{1, 1, 1}, i)
			wantNoList(t, fmt.Sprint(p, i), got, ok)
		}
		for _, list := range notModTriples(p) {
			for i := range 3 {
				got, ok := impl.ModMove(p, list, i)
				wantNoList(t, fmt.Sprint(p, list, i), got, ok)
			}
		}
	}
	for _, p := range notPrimesOfChapter2() {
		got, ok := impl.ModMove(p, []int{1, 1, 1}, 0)
		wantNoList(t, fmt.Sprint(p), got, ok)
	}
}

// TestModMovesKeepTheEquation holds all numbers and all triples modulo each prime number against the equation.
func TestModMovesKeepTheEquation(t *testing.T) {
	for _, p := range primesOfChapter2() {
		triples := triplesModulo(p)
		valid := 0
		for code := range p * p * p {
			list := []int{code / p / p, code / p % p, code % p}
			for i := range 3 {
				moved, ok := impl.ModMove(p, list, i)
				if !ok {
					continue
				}
				valid++
				for j := range 3 {
					want := list[j]
					if j == i {
						want = ((3*list[(i+1)%3]*list[(i+2)%3]-list[i])%p + p) % p
					}
					if moved[j] != want {
						t.Errorf("%v moves at %d modulo %d to %v", list, i, p, moved)
					}
				}
				back, ok := impl.ModMove(p, moved, i)
				wantList(t, fmt.Sprint(p, moved, i), back, ok, list)
			}
		}
		if valid != 3*len(triples) {
			t.Errorf("%d moves modulo %d", valid, p)
		}
	}
}

// orbitOf returns what moves reach, by looking at all triples modulo p over and over.
func orbitOf(p int, start []int) [][]int {
	triples := triplesModulo(p)
	reached := make([]bool, len(triples))
	for i, list := range triples {
		reached[i] = slices.Equal(list, start)
	}
	for grows := true; grows; {
		grows = false
		for i, list := range triples {
			for j, other := range triples {
				if reached[i] && !reached[j] && isOneMove(p, list, other) {
					reached[j] = true
					grows = true
				}
			}
		}
	}
	var orbit [][]int
	for i, list := range triples {
		if reached[i] {
			orbit = append(orbit, list)
		}
	}
	return orbit
}

// isOneMove takes the other root of the equation, as both roots have the sum 3 times the product of the numbers that stay.
func isOneMove(p int, list, other []int) bool {
	for i := range 3 {
		j, k := (i+1)%3, (i+2)%3
		if list[j] == other[j] && list[k] == other[k] && (list[i]+other[i]-3*list[j]*list[k])%p == 0 {
			return true
		}
	}
	return false
}

func TestModOrbit(t *testing.T) {
	orbit, ok := impl.ModOrbit(2, []int{1, 0, 1})
	wantLists(t, "2", orbit, ok, [][]int{{0, 1, 1}, {1, 0, 1}, {1, 1, 0}, {1, 1, 1}})
	orbit, ok = impl.ModOrbit(3, []int{2, 2, 2})
	wantLists(t, "3", orbit, ok, [][]int{{1, 1, 1}, {1, 1, 2}, {1, 2, 1}, {1, 2, 2}, {2, 1, 1}, {2, 1, 2}, {2, 2, 1}, {2, 2, 2}})
	for _, p := range primesOfChapter2() {
		for i, list := range triplesModulo(p) {
			if i%9 != 0 && p > 7 {
				continue
			}
			orbit, ok := impl.ModOrbit(p, list)
			wantLists(t, fmt.Sprint(p, list), orbit, ok, orbitOf(p, list))
		}
		for _, list := range notModTriples(p) {
			orbit, ok := impl.ModOrbit(p, list)
			wantNoLists(t, fmt.Sprint(p, list), orbit, ok)
		}
	}
	for _, p := range notPrimesOfChapter2() {
		orbit, ok := impl.ModOrbit(p, []int{1, 1, 1})
		wantNoLists(t, fmt.Sprint(p), orbit, ok)
	}
}

func TestPromise2MarkovTriplesModuloPrimes(t *testing.T) {
	all, _ := impl.MarkovUpTo(impl.MaxNumber)
	for _, p := range primesOfChapter2() {
		whole, ok := impl.ModOrbit(p, []int{1, 1, 1})
		if !ok {
			t.Fatal("no orbit modulo", p)
		}
		for _, list := range all {
			rest := []int{list[0] % p, list[1] % p, list[2] % p}
			if rest[0]+rest[1]+rest[2] == 0 {
				t.Errorf("%d divides all of %v", p, list)
				continue
			}
			orbit, ok := impl.ModOrbit(p, rest)
			wantLists(t, fmt.Sprint(p, list), orbit, ok, whole)
		}
	}
}

func argumentsOfChapter2() [][]int {
	lists := append(notMarkovs(),
		[]int{1, 1, 1}, []int{1, 1, 2}, []int{1, 2, 5}, []int{1, 5, 13}, []int{2, 5, 29}, []int{5, 13, 194}, []int{0, 1, 2}, []int{3, 2, 5},
		[]int{1, 165580141, 433494437}, []int{194, 1686049, 981277621},
	)
	for _, p := range primesOfChapter2() {
		lists = append(lists, notModTriples(p)...)
	}
	return lists
}

func TestPromise11OfMarkovTriples(t *testing.T) {
	indices := []int{math.MinInt, -1, 0, 1, 2, 3, math.MaxInt}
	for _, list := range argumentsOfChapter2() {
		checkTotal(t, "SolvesMarkov", impl.SolvesMarkov, list)
		checkTotal(t, "IsMarkov", impl.IsMarkov, list)
		checkTotal(t, "MarkovDown", impl.MarkovDown, list)
		checkTotal(t, "MarkovUp", impl.MarkovUp, list)
		checkTotal(t, "MarkovPath", impl.MarkovPath, list)
		checkTotal(t, "MarkovWord", impl.MarkovWord, list)
		checkTotal(t, "MinusOneRoot", impl.MinusOneRoot, list)
		for _, i := range indices {
			checkTotal(t, "MarkovMove", impl.MarkovMove, list, i)
		}
		for _, p := range append(primesOfChapter2(), notPrimesOfChapter2()...) {
			checkTotal(t, "ModOrbit", impl.ModOrbit, p, list)
			for _, i := range indices {
				checkTotal(t, "ModMove", impl.ModMove, p, list, i)
			}
		}
	}
}

func TestPromise11OfMarkovNumbersAndWords(t *testing.T) {
	numbers := append(notPrimesOfChapter2(), 2, 3, 5, 7, 11, 13, 194, 1000000, impl.MaxNumber, impl.MaxNumber+1)
	for _, n := range numbers {
		checkTotal(t, "MarkovUpTo", impl.MarkovUpTo, n)
		checkTotal(t, "MarkovNumbersUpTo", impl.MarkovNumbersUpTo, n)
		checkTotal(t, "IsMarkovNumber", impl.IsMarkovNumber, n)
		checkTotal(t, "TriplesWith", impl.TriplesWith, n)
		checkTotal(t, "ModCount", impl.ModCount, n)
	}
	for _, word := range notMarkovWords() {
		checkTotal(t, "MarkovOfWord", impl.MarkovOfWord, word)
	}
	for word := range wordsAndTriples() {
		checkTotal(t, "MarkovOfWord", impl.MarkovOfWord, word)
	}
}

// TestPromise11OfMarkovAnswers changes answers and looks whether later ones, or the argument, change with them.
func TestPromise11OfMarkovAnswers(t *testing.T) {
	root := []int{1, 1, 1}
	path, _ := impl.MarkovPath(root)
	path[0][0] = 9
	wantList(t, "argument", root, true, []int{1, 1, 1})
	empty, _ := impl.MarkovOfWord("")
	empty[0] = 9
	again, ok := impl.MarkovOfWord("")
	wantList(t, "empty word", again, ok, []int{1, 2, 5})
	first, _ := impl.TriplesWith(1)
	first[0][0] = 9
	second, ok := impl.TriplesWith(1)
	wantLists(t, "1", second, ok, [][]int{{1, 1, 1}})
	orbit, _ := impl.ModOrbit(2, root)
	for _, list := range orbit {
		list[0] = 9
	}
	wantList(t, "argument", root, true, []int{1, 1, 1})
	if !reflect.DeepEqual(orbit, [][]int{{9, 1, 1}, {9, 0, 1}, {9, 1, 0}, {9, 1, 1}}) {
		t.Error("memory is shared:", orbit)
	}
}
