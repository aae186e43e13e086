package tests

import (
	"fmt"
	"math"
	"slices"
	"strings"
	"testing"

	"loop.example/g01122/impl"
)

// notLetters are invalid wherever letters are required.
func notLetters() []string {
	return []string{
		"", "c", "A", "B", "AB", "l", "r", "0", " ", "a b", " ab", "ab ", "ab\n", "abc", "cab", "acb", "a,b", "aB", "\x00", "a\x00b", "\xff", "a\xffb", "\xc3\x28", "é", "aéb", "а", "аb", "🙂",
		strings.Repeat("a", impl.MaxWord+1), strings.Repeat("b", impl.MaxWord+1), strings.Repeat("ab", 5000),
		strings.Repeat("a", impl.MaxWord) + "b", strings.Repeat("a", 20) + "b" + strings.Repeat("a", 20),
		strings.Repeat("c", impl.MaxWord), strings.Repeat("a", 39) + "c",
	}
}

// notChristoffels are letters, but no Christoffel words.
func notChristoffels() []string {
	return []string{
		"aa", "bb", "ba", "aaa", "bbb", "aba", "baa", "bab", "bba", "abab", "aabb", "abba", "baba", "aaabb", "aabba", "abaab", "babaa", "ababa", "aabaab",
		strings.Repeat("a", impl.MaxWord), strings.Repeat("b", impl.MaxWord), strings.Repeat("ab", impl.MaxWord/2),
		"b" + strings.Repeat("a", impl.MaxWord-1), strings.Repeat("b", impl.MaxWord-1) + "a",
	}
}

// longestChristoffels have MaxWord letters.
func longestChristoffels() []string {
	return []string{
		strings.Repeat("a", 39) + "b", "a" + strings.Repeat("b", 39),
		strings.Repeat("a", 13) + "b" + strings.Repeat(strings.Repeat("a", 12)+"b", 2),
	}
}

// allLetters returns all letters of one length, in lexicographic order.
func allLetters(length int) []string {
	made := make([]string, 1<<length)
	for code := range made {
		for bit := length - 1; bit >= 0; bit-- {
			made[code] += string("ab"[code>>bit&1])
		}
	}
	return made
}

func greatestDivisor(a, b int) int {
	for b != 0 {
		a, b = b, a%b
	}
	return a
}

// pathUnderLine goes from 0, 0 to a, b: up as soon as it stays under the straight line.
func pathUnderLine(a, b int) string {
	word := ""
	x, y := 0, 0
	for x+y < a+b {
		if (y+1)*a <= b*x {
			word += "b"
			y++
		} else {
			word += "a"
			x++
		}
	}
	return word
}

// pathsUpTo returns all Christoffel words of at most so many letters.
func pathsUpTo(most int) []string {
	var words []string
	for length := 1; length <= most; length++ {
		for b := 0; b <= length; b++ {
			if greatestDivisor(length-b, b) == 1 {
				words = append(words, pathUnderLine(length-b, b))
			}
		}
	}
	return words
}

// differsAtMostByOne compares each two parts of letters of the same length.
func differsAtMostByOne(w string) bool {
	for length := 1; length <= len(w); length++ {
		for i := 0; i+length <= len(w); i++ {
			for j := i + 1; j+length <= len(w); j++ {
				difference := strings.Count(w[i:i+length], "b") - strings.Count(w[j:j+length], "b")
				if difference > 1 || difference < -1 {
					return false
				}
			}
		}
	}
	return true
}

// isLessThanItsTurns holds for letters of which no turn is the same or less.
func isLessThanItsTurns(w string) bool {
	for start := 1; start < len(w); start++ {
		if w[start:]+w[:start] <= w {
			return false
		}
	}
	return true
}

// cohnOf multiplies from the last letter to the first one, and stops at a number that is too great.
func cohnOf(w string) ([4]int, bool) {
	m := [4]int{1, 0, 0, 1}
	for i := len(w) - 1; i >= 0; i-- {
		if w[i] == 'a' {
			m = [4]int{2*m[0] + m[2], 2*m[1] + m[3], m[0] + m[2], m[1] + m[3]}
		} else {
			m = [4]int{5*m[0] + 2*m[2], 5*m[1] + 2*m[3], 2*m[0] + m[2], 2*m[1] + m[3]}
		}
		if slices.Max(m[:]) > impl.MaxEntry {
			return [4]int{}, false
		}
	}
	return m, true
}

func wantTwoTexts(t *testing.T, name, first, second string, ok bool, wantFirst, wantSecond string) {
	t.Helper()
	if !ok || first != wantFirst || second != wantSecond {
		t.Errorf("%s: %q %q %v instead of %q %q", name, first, second, ok, wantFirst, wantSecond)
	}
}

func wantNoTwoTexts(t *testing.T, name, first, second string, ok bool) {
	t.Helper()
	if ok || first != "" || second != "" {
		t.Errorf("%s: %q %q %v instead of a failure", name, first, second, ok)
	}
}

func wantTexts(t *testing.T, name string, got []string, ok bool, want []string) {
	t.Helper()
	if !ok || !slices.Equal(got, want) {
		t.Errorf("%s: %q %v instead of %q", name, got, ok, want)
	}
}

func wantNoTexts(t *testing.T, name string, got []string, ok bool) {
	t.Helper()
	if ok || len(got) != 0 {
		t.Errorf("%s: %q %v instead of a failure", name, got, ok)
	}
}

func TestConstantsOfChapter3(t *testing.T) {
	if impl.MaxListedWord != 12 {
		t.Error(impl.MaxListedWord)
	}
}

func TestIsLetters(t *testing.T) {
	for _, w := range append(append(notChristoffels(), longestChristoffels()...), "a", "b", "ab", "ba", "aabab") {
		if !impl.IsLetters(w) {
			t.Errorf("%q is not told as letters", w)
		}
	}
	for _, w := range notLetters() {
		if impl.IsLetters(w) {
			t.Errorf("%q is told as letters", w)
		}
	}
	for letter := range 256 {
		text := string([]byte{byte(letter)})
		want := text == "a" || text == "b"
		for _, w := range []string{text, "a" + text, text + "b", "a" + text + "b"} {
			if impl.IsLetters(w) != want {
				t.Errorf("IsLetters %q is %v", w, !want)
			}
		}
	}
}

func TestChristoffelOf(t *testing.T) {
	for _, c := range []struct {
		a, b int
		want string
	}{
		{1, 0, "a"}, {0, 1, "b"}, {1, 1, "ab"}, {2, 1, "aab"}, {1, 2, "abb"}, {3, 2, "aabab"}, {2, 3, "ababb"}, {5, 3, "aabaabab"}, {3, 4, "abababb"}, {4, 7, "ababbabbabb"},
		{39, 1, strings.Repeat("a", 39) + "b"}, {1, 39, "a" + strings.Repeat("b", 39)},
	} {
		got, ok := impl.ChristoffelOf(c.a, c.b)
		wantText(t, fmt.Sprint(c.a, c.b), got, ok, c.want)
	}
	for a := -3; a <= 43; a++ {
		for b := -3; b <= 43; b++ {
			name := fmt.Sprint(a, " ", b)
			got, ok := impl.ChristoffelOf(a, b)
			if a < 0 || b < 0 || a+b > impl.MaxWord || greatestDivisor(a, b) != 1 {
				wantNoText(t, name, got, ok)
			} else {
				wantText(t, name, got, ok, pathUnderLine(a, b))
			}
		}
	}
	extremes := []int{math.MinInt, math.MinInt + 1, -1 << 32, 1 << 32, math.MaxInt - 1, math.MaxInt}
	for _, n := range extremes {
		others := append([]int{-1, 0, 1, 2, 3, 1 - n, 5 - n, impl.MaxWord - n}, extremes...)
		for _, other := range others {
			got, ok := impl.ChristoffelOf(n, other)
			wantNoText(t, fmt.Sprint(n, " ", other), got, ok)
			got, ok = impl.ChristoffelOf(other, n)
			wantNoText(t, fmt.Sprint(other, " ", n), got, ok)
		}
	}
}

func TestIsChristoffel(t *testing.T) {
	for _, w := range append(longestChristoffels(), "a", "b", "ab", "aab", "abb", "aabab") {
		got, ok := impl.IsChristoffel(w)
		wantAnswer(t, w, got, ok, true)
	}
	for _, w := range notChristoffels() {
		got, ok := impl.IsChristoffel(w)
		wantAnswer(t, w, got, ok, false)
	}
	for _, w := range notLetters() {
		got, ok := impl.IsChristoffel(w)
		wantNoAnswer(t, w, got, ok)
	}
	// Christoffel words are the balanced letters that are less than all their turns.
	for length := 1; length <= impl.MaxListedWord; length++ {
		for _, w := range allLetters(length) {
			got, ok := impl.IsChristoffel(w)
			wantAnswer(t, w, got, ok, isLessThanItsTurns(w) && differsAtMostByOne(w))
		}
	}
	for _, w := range pathsUpTo(impl.MaxWord) {
		got, ok := impl.IsChristoffel(w)
		wantAnswer(t, w, got, ok, true)
	}
}

func TestCountsOf(t *testing.T) {
	for _, c := range []struct {
		w    string
		a, b int
	}{
		{"a", 1, 0}, {"b", 0, 1}, {"ab", 1, 1}, {"bbab", 1, 3}, {"aabab", 3, 2},
		{strings.Repeat("a", impl.MaxWord), impl.MaxWord, 0}, {strings.Repeat("b", impl.MaxWord), 0, impl.MaxWord},
		{longestChristoffels()[0], 39, 1}, {longestChristoffels()[1], 1, 39},
	} {
		if a, b, ok := impl.CountsOf(c.w); a != c.a || b != c.b || !ok {
			t.Errorf("%q: %d %d %v", c.w, a, b, ok)
		}
	}
	for _, w := range notLetters() {
		if a, b, ok := impl.CountsOf(w); a != 0 || b != 0 || ok {
			t.Errorf("%q: %d %d %v", w, a, b, ok)
		}
	}
}

func TestFactorsOf(t *testing.T) {
	for _, c := range [][2]string{
		{"a", "b"}, {"a", "ab"}, {"ab", "b"}, {"aab", "ab"}, {"ab", "abb"}, {"aab", "aabab"}, {"aabab", "ab"}, {"aaab", "aab"},
		{"a", longestChristoffels()[0][1:]}, {longestChristoffels()[1][:39], "b"},
	} {
		u, v, ok := impl.FactorsOf(c[0] + c[1])
		wantTwoTexts(t, c[0]+c[1], u, v, ok, c[0], c[1])
	}
	for _, w := range append(append(notLetters(), notChristoffels()...), "a", "b") {
		u, v, ok := impl.FactorsOf(w)
		wantNoTwoTexts(t, w, u, v, ok)
	}
}

func TestCentreOf(t *testing.T) {
	for w, want := range map[string]string{
		"ab": "", "aab": "a", "abb": "b", "aaab": "aa", "abbb": "bb", "aabab": "aba", "ababb": "bab", "aabaabab": "abaaba",
		longestChristoffels()[0]: strings.Repeat("a", 38), longestChristoffels()[1]: strings.Repeat("b", 38),
	} {
		got, ok := impl.CentreOf(w)
		wantText(t, w, got, ok, want)
	}
	for _, w := range append(append(notLetters(), notChristoffels()...), "a", "b") {
		got, ok := impl.CentreOf(w)
		wantNoText(t, w, got, ok)
	}
}

func TestTurns(t *testing.T) {
	for w, want := range map[string][]string{
		"a": {"a"}, "b": {"b"}, "ab": {"ab", "ba"}, "ba": {"ab", "ba"}, "aa": {"aa"},
		"bab":                                   {"abb", "bab", "bba"},
		"abab":                                  {"abab", "baba"},
		"aabb":                                  {"aabb", "abba", "baab", "bbaa"},
		"babaa":                                 {"aabab", "abaab", "ababa", "baaba", "babaa"},
		strings.Repeat("a", impl.MaxWord):       {strings.Repeat("a", impl.MaxWord)},
		strings.Repeat("ba", impl.MaxWord/2):    {strings.Repeat("ab", impl.MaxWord/2), strings.Repeat("ba", impl.MaxWord/2)},
		strings.Repeat("baaab", impl.MaxWord/5): {strings.Repeat("aaabb", 8), strings.Repeat("aabba", 8), strings.Repeat("abbaa", 8), strings.Repeat("baaab", 8), strings.Repeat("bbaaa", 8)},
		"aabaab":                                {"aabaab", "abaaba", "baabaa"},
	} {
		turns, ok := impl.TurnsOf(w)
		wantTexts(t, w, turns, ok, want)
		least, ok := impl.LeastTurn(w)
		wantText(t, w, least, ok, want[0])
	}
	for _, w := range notLetters() {
		turns, ok := impl.TurnsOf(w)
		wantNoTexts(t, w, turns, ok)
		least, ok := impl.LeastTurn(w)
		wantNoText(t, w, least, ok)
	}
	for length := 1; length <= 10; length++ {
		for _, w := range allLetters(length) {
			checkTurns(t, w)
		}
	}
	for _, w := range append(notChristoffels(), longestChristoffels()...) {
		checkTurns(t, w)
	}
}

func checkTurns(t *testing.T, w string) {
	t.Helper()
	met := map[string]bool{}
	for end := range w {
		met[w[end:]+w[:end]] = true
	}
	turns, ok := impl.TurnsOf(w)
	if !ok || len(turns) != len(met) {
		t.Errorf("%q has the turns %q", w, turns)
		return
	}
	for i, turn := range turns {
		if !met[turn] || i > 0 && turns[i-1] >= turn {
			t.Errorf("%q has the turns %q", w, turns)
		}
	}
	least, ok := impl.LeastTurn(w)
	wantText(t, w, least, ok, turns[0])
}

// differAtHalfOnly returns MaxWord letters, with the centre of a Christoffel word between two letters a and two letters b. Shorter parts differ by at most 1.
func differAtHalfOnly() string {
	w := pathUnderLine(13, 7)
	centre := w[1 : len(w)-1]
	return "a" + centre + "a" + "b" + centre + "b"
}

func TestIsBalanced(t *testing.T) {
	for w, want := range map[string]bool{
		"a": true, "b": true, "aa": true, "ab": true, "ba": true, "aabb": false, "abba": true, "baab": true, "aabab": true, "babaab": true, "bbaa": false, "aabaabb": false, "ababba": true,
		// All parts of less than 5 letters differ by at most 1; and the letters may be balanced where a turn is not.
		"aabaababab": false, "baaab": true,
		differAtHalfOnly():                false,
		strings.Repeat("a", impl.MaxWord): true, strings.Repeat("ab", impl.MaxWord/2): true,
		"aa" + strings.Repeat("ab", 18) + "bb": false, "a" + strings.Repeat("ab", 18) + "bab": false,
	} {
		got, ok := impl.IsBalanced(w)
		wantAnswer(t, w, got, ok, want)
	}
	for _, w := range notLetters() {
		got, ok := impl.IsBalanced(w)
		wantNoAnswer(t, w, got, ok)
	}
	for length := 1; length <= 11; length++ {
		for _, w := range allLetters(length) {
			got, ok := impl.IsBalanced(w)
			wantAnswer(t, w, got, ok, differsAtMostByOne(w))
		}
	}
	for _, w := range append(notChristoffels(), longestChristoffels()...) {
		got, ok := impl.IsBalanced(w)
		wantAnswer(t, w, got, ok, differsAtMostByOne(w))
	}
}

// tooGreatWords are letters whose Cohn matrix has a number beyond MaxEntry. That of aaaaaabaaaaab and baaaaabaaaaaa is the least such number, 1015645, in the first row and the first column.
func tooGreatWords() []string {
	return append(longestChristoffels(),
		"aaaaaabaaaaab", "baaaaabaaaaaa", strings.Repeat("a", 15), strings.Repeat("b", 8), "abbabbabbabb",
		strings.Repeat("a", impl.MaxWord), strings.Repeat("b", impl.MaxWord), strings.Repeat("ab", impl.MaxWord/2),
	)
}

func TestCohnMatrix(t *testing.T) {
	for w, want := range map[string]impl.Matrix{
		"a":              matrix([]int{2, 1}, []int{1, 1}),
		"b":              matrix([]int{5, 2}, []int{2, 1}),
		"ab":             matrix([]int{12, 5}, []int{7, 3}),
		"ba":             matrix([]int{12, 7}, []int{5, 3}),
		"aa":             matrix([]int{5, 3}, []int{3, 2}),
		"aab":            matrix([]int{31, 13}, []int{19, 8}),
		"aabab":          matrix([]int{463, 194}, []int{284, 119}),
		"bbbbbbb":        matrix([]int{195025, 80782}, []int{80782, 33461}),
		"aabaabaabab":    matrix([]int{703292, 294685}, []int{431407, 180763}),
		"abbaaaaaaaaaa":  matrix([]int{962405, 594799}, []int{563791, 348442}),
		"aaaaaaaaaabba":  matrix([]int{962405, 563791}, []int{594799, 348442}),
		"aaaaaaaaaaaaaa": matrix([]int{514229, 317811}, []int{317811, 196418}),
	} {
		got, ok := impl.CohnMatrix(w)
		wantMatrix(t, w, got, ok, want)
		number, ok := impl.NumberOfWord(w)
		wantNumber(t, w, number, ok, want.Rows[0][1])
	}
	for _, w := range append(notLetters(), tooGreatWords()...) {
		got, ok := impl.CohnMatrix(w)
		wantNoMatrix(t, w, got, ok)
		number, ok := impl.NumberOfWord(w)
		wantNoNumber(t, w, number, ok)
	}
}

func TestCohnMatricesOfAllShortLetters(t *testing.T) {
	inside := 0
	for length := 1; length <= 13; length++ {
		for _, w := range allLetters(length) {
			want, isWanted := cohnOf(w)
			got, ok := impl.CohnMatrix(w)
			number, numberOk := impl.NumberOfWord(w)
			if !isWanted {
				wantNoMatrix(t, w, got, ok)
				wantNoNumber(t, w, number, numberOk)
				continue
			}
			inside++
			wantMatrix(t, w, got, ok, matrix(want[:2], want[2:]))
			wantNumber(t, w, number, numberOk, want[1])
		}
	}
	if inside < 500 {
		t.Error("this is no test:", inside)
	}
}

// wordsOfTriples belong to each other.
func wordsOfTriples() map[string][]int {
	return map[string][]int{
		"ab": {1, 2, 5}, "aab": {1, 5, 13}, "abb": {2, 5, 29}, "aaab": {1, 13, 34}, "abbb": {2, 29, 169}, "aabab": {5, 13, 194}, "ababb": {5, 29, 433}, "aaabaab": {13, 34, 1325}, "abbabbb": {29, 169, 14701}, "aabaabab": {13, 194, 7561},
		// These have the greatest Cohn matrices, or the most letters.
		"aabaabaabab": {13, 7561, 294685}, "abbbbbbb": {2, 33461, 195025}, "aaaaaaaaaaaab": {1, 75025, 196418},
	}
}

func TestTripleOfWord(t *testing.T) {
	for w, want := range wordsOfTriples() {
		got, ok := impl.TripleOfWord(w)
		wantList(t, w, got, ok, want)
	}
	for _, w := range append(append(append(notLetters(), notChristoffels()...), tooGreatWords()...), "a", "b") {
		got, ok := impl.TripleOfWord(w)
		wantNoList(t, w, got, ok)
	}
}

func TestWordOfTriple(t *testing.T) {
	for want, list := range wordsOfTriples() {
		got, ok := impl.WordOfTriple(list)
		wantText(t, fmt.Sprint(list), got, ok, want)
	}
	for _, list := range append(notMarkovs(),
		[]int{1, 1, 1}, []int{1, 1, 2},
		// The numbers are no greater than MaxEntry, but one of the Cohn matrix is.
		[]int{233, 610, 426389}, []int{169, 985, 499393}, []int{1, 196418, 514229}, []int{34, 9077, 925765},
		[]int{2, 195025, 1136689}, []int{1, 165580141, 433494437}, []int{194, 1686049, 981277621},
	) {
		got, ok := impl.WordOfTriple(list)
		wantNoText(t, fmt.Sprint(list), got, ok)
	}
}

func TestChristoffelUpTo(t *testing.T) {
	for n, want := range map[int]string{
		1: "a b", 2: "a b ab", 3: "a b ab aab abb", 4: "a b ab aab abb aaab abbb",
		5: "a b ab aab abb aaab abbb aaaab aabab ababb abbbb",
	} {
		got, ok := impl.ChristoffelUpTo(n)
		wantTexts(t, fmt.Sprint(n), got, ok, strings.Fields(want))
	}
	var all []string
	for n := 1; n <= impl.MaxListedWord; n++ {
		for _, w := range allLetters(n) {
			if isLessThanItsTurns(w) && differsAtMostByOne(w) {
				all = append(all, w)
			}
		}
		got, ok := impl.ChristoffelUpTo(n)
		wantTexts(t, fmt.Sprint(n), got, ok, all)
	}
	if len(all) != 47 {
		t.Error("this is no test:", len(all))
	}
	for _, n := range []int{0, -1, impl.MaxListedWord + 1, impl.MaxWord, math.MinInt, math.MaxInt} {
		got, ok := impl.ChristoffelUpTo(n)
		wantNoTexts(t, fmt.Sprint(n), got, ok)
	}
}

func TestNeighbourWords(t *testing.T) {
	for w, want := range map[string][2]string{
		"ab": {"aab", "abb"}, "aab": {"aaab", "aabab"}, "abb": {"ababb", "abbb"}, "aabab": {"aabaabab", "aababab"},
		strings.Repeat("a", 19) + "b": {strings.Repeat("a", 20) + "b", strings.Repeat("a", 19) + "b" + strings.Repeat("a", 18) + "b"},
	} {
		u, v, ok := impl.NeighbourWords(w)
		wantTwoTexts(t, w, u, v, ok, want[0], want[1])
	}
	// The first one of both words has 22 letters, but the other one 41, or the other way round.
	for _, w := range []string{strings.Repeat("a", 20) + "b", "a" + strings.Repeat("b", 20)} {
		u, v, ok := impl.NeighbourWords(w)
		wantNoTwoTexts(t, w, u, v, ok)
	}
	for _, w := range append(append(append(notLetters(), notChristoffels()...), longestChristoffels()...), "a", "b") {
		u, v, ok := impl.NeighbourWords(w)
		wantNoTwoTexts(t, w, u, v, ok)
	}
}

func TestMirrorWord(t *testing.T) {
	for w, want := range map[string]string{
		"a": "b", "b": "a", "ab": "ab", "ba": "ba", "aa": "bb", "aab": "abb", "aabab": "ababb", "bbbaa": "bbaaa", "abba": "baab",
		strings.Repeat("a", impl.MaxWord): strings.Repeat("b", impl.MaxWord), longestChristoffels()[0]: longestChristoffels()[1],
	} {
		got, ok := impl.MirrorWord(w)
		wantText(t, w, got, ok, want)
		back, ok := impl.MirrorWord(got)
		wantText(t, got, back, ok, w)
	}
	for _, w := range notLetters() {
		got, ok := impl.MirrorWord(w)
		wantNoText(t, w, got, ok)
	}
}

func TestPromise3ChristoffelWordsHaveOnePairOfFactors(t *testing.T) {
	words := pathsUpTo(impl.MaxWord)
	isWord := map[string]bool{}
	for _, w := range words {
		isWord[w] = true
	}
	for _, w := range words {
		if len(w) == 1 {
			continue
		}
		var firsts []string
		for cut := 1; cut < len(w); cut++ {
			if isWord[w[:cut]] && isWord[w[cut:]] {
				firsts = append(firsts, w[:cut])
			}
		}
		if len(firsts) != 1 {
			t.Fatalf("%q has the first factors %q", w, firsts)
		}
		u, v, ok := impl.FactorsOf(w)
		wantTwoTexts(t, w, u, v, ok, firsts[0], w[len(firsts[0]):])
	}
}

func TestPromise3WhatHoldsForChristoffelWords(t *testing.T) {
	for _, w := range pathsUpTo(impl.MaxWord) {
		a, b, ok := impl.CountsOf(w)
		again, againOk := impl.ChristoffelOf(a, b)
		wantText(t, w, again, ok && againOk, w)
		least, ok := impl.LeastTurn(w)
		wantText(t, w, least, ok, w)
		turns, ok := impl.TurnsOf(w)
		if !ok || len(turns) != len(w) {
			t.Errorf("%q has the turns %q", w, turns)
		}
		balanced, ok := impl.IsBalanced(w)
		wantAnswer(t, w, balanced, ok, true)
		mirror, ok := impl.MirrorWord(w)
		wantText(t, w, mirror, ok, pathUnderLine(b, a))
		centre, ok := impl.CentreOf(w)
		if len(w) == 1 {
			wantNoText(t, w, centre, ok)
			continue
		}
		wantText(t, w, centre, ok, w[1:len(w)-1])
		for i := range centre {
			if centre[i] != centre[len(centre)-1-i] {
				t.Errorf("%q has the centre %q", w, centre)
			}
		}
	}
}

func TestPromise3NeighboursHaveTheirFactors(t *testing.T) {
	longest := map[int]int{}
	for _, w := range pathsUpTo(impl.MaxWord) {
		first, second, ok := impl.NeighbourWords(w)
		if len(w) == 1 {
			wantNoTwoTexts(t, w, first, second, ok)
			continue
		}
		u, v, _ := impl.FactorsOf(w)
		length := len(w) + max(len(u), len(v))
		longest[length]++
		if length > impl.MaxWord {
			wantNoTwoTexts(t, w, first, second, ok)
			continue
		}
		wantTwoTexts(t, w, first, second, ok, u+u+v, u+v+v)
		left, right, ok := impl.FactorsOf(first)
		wantTwoTexts(t, first, left, right, ok, u, w)
		left, right, ok = impl.FactorsOf(second)
		wantTwoTexts(t, second, left, right, ok, w, v)
	}
	if longest[impl.MaxWord] == 0 || longest[impl.MaxWord+1] == 0 {
		t.Error("this is no test:", longest)
	}
}

func TestPromise3CohnMatricesTellMarkovTriples(t *testing.T) {
	told := 0
	for _, w := range pathsUpTo(impl.MaxWord) {
		cohn, ok := impl.CohnMatrix(w)
		number, numberOk := impl.NumberOfWord(w)
		list, listOk := impl.TripleOfWord(w)
		if _, isInside := cohnOf(w); !isInside {
			wantNoMatrix(t, w, cohn, ok)
			wantNoNumber(t, w, number, numberOk)
			wantNoList(t, w, list, listOk)
			continue
		}
		is, isOk := impl.IsMarkovNumber(number)
		wantAnswer(t, w, is, isOk && ok && numberOk, true)
		trace, ok := impl.TraceOf(cohn)
		wantNumber(t, w, trace, ok, 3*number)
		determinant := cohn.Rows[0][0]*cohn.Rows[1][1] - cohn.Rows[0][1]*cohn.Rows[1][0]
		wantNumber(t, w, determinant, true, 1)
		if len(w) == 1 {
			wantNoList(t, w, list, listOk)
			continue
		}
		told++
		u, v, _ := impl.FactorsOf(w)
		first, _ := impl.NumberOfWord(u)
		second, _ := impl.NumberOfWord(v)
		wantList(t, w, list, listOk, []int{min(first, second), max(first, second), number})
		if !impl.IsMarkov(list) {
			t.Errorf("%q tells %v", w, list)
		}
		back, ok := impl.WordOfTriple(list)
		wantText(t, fmt.Sprint(list), back, ok, w)
	}
	if told != 33 {
		t.Error("triples:", told)
	}
}

// wordsDownTheTree goes from a triple with the factors u and v to those behind moves, as long as the numbers are within MaxNumber.
func wordsDownTheTree(list []int, u, v string, numbers [2]int, found map[[3]int]string) {
	found[[3]int(list)] = u + v
	greatest := list[2]
	if next := 3*numbers[0]*greatest - numbers[1]; next <= impl.MaxNumber {
		wordsDownTheTree([]int{min(numbers[0], greatest), max(numbers[0], greatest), next}, u, u+v, [2]int{numbers[0], greatest}, found)
	}
	if next := 3*numbers[1]*greatest - numbers[0]; next <= impl.MaxNumber {
		wordsDownTheTree([]int{min(numbers[1], greatest), max(numbers[1], greatest), next}, u+v, v, [2]int{greatest, numbers[1]}, found)
	}
}

func TestPromise3EachTripleHasItsWord(t *testing.T) {
	words := map[[3]int]string{}
	wordsDownTheTree([]int{1, 2, 5}, "a", "b", [2]int{1, 2}, words)
	all, _ := impl.MarkovUpTo(impl.MaxNumber)
	if len(words) != len(all)-2 {
		t.Fatal("this is no test:", len(words))
	}
	for _, list := range all {
		want := words[[3]int(list)]
		got, ok := impl.WordOfTriple(list)
		if _, isInside := cohnOf(want); want == "" || !isInside {
			wantNoText(t, fmt.Sprint(list), got, ok)
			continue
		}
		wantText(t, fmt.Sprint(list), got, ok, want)
		back, ok := impl.TripleOfWord(got)
		wantList(t, got, back, ok, list)
	}
}

func TestPromise11OfLetters(t *testing.T) {
	words := append(append(append(notLetters(), notChristoffels()...), tooGreatWords()...), "a", "b", "ab", "aab", "aabab", differAtHalfOnly())
	for w := range wordsOfTriples() {
		words = append(words, w)
	}
	for _, w := range words {
		checkTotal(t, "IsLetters", impl.IsLetters, w)
		checkTotal(t, "IsChristoffel", impl.IsChristoffel, w)
		checkTotal(t, "CountsOf", impl.CountsOf, w)
		checkTotal(t, "FactorsOf", impl.FactorsOf, w)
		checkTotal(t, "CentreOf", impl.CentreOf, w)
		checkTotal(t, "TurnsOf", impl.TurnsOf, w)
		checkTotal(t, "LeastTurn", impl.LeastTurn, w)
		checkTotal(t, "IsBalanced", impl.IsBalanced, w)
		checkTotal(t, "CohnMatrix", impl.CohnMatrix, w)
		checkTotal(t, "NumberOfWord", impl.NumberOfWord, w)
		checkTotal(t, "TripleOfWord", impl.TripleOfWord, w)
		checkTotal(t, "NeighbourWords", impl.NeighbourWords, w)
		checkTotal(t, "MirrorWord", impl.MirrorWord, w)
	}
}

func TestPromise11OfLetterNumbersAndTriples(t *testing.T) {
	numbers := []int{math.MinInt, math.MinInt + 1, -1 << 32, -40, -1, 0, 1, 2, 3, 12, 13, 20, 39, 40, 41, 1 << 32, math.MaxInt - 1, math.MaxInt}
	for _, a := range numbers {
		checkTotal(t, "ChristoffelUpTo", impl.ChristoffelUpTo, a)
		for _, b := range numbers {
			checkTotal(t, "ChristoffelOf", impl.ChristoffelOf, a, b)
		}
	}
	for _, list := range argumentsOfChapter2() {
		checkTotal(t, "WordOfTriple", impl.WordOfTriple, list)
	}
}

// TestPromise11OfLetterAnswers changes answers and looks whether later ones change with them.
func TestPromise11OfLetterAnswers(t *testing.T) {
	listed, _ := impl.ChristoffelUpTo(impl.MaxListedWord)
	for i := range listed {
		listed[i] = "changed"
	}
	again, ok := impl.ChristoffelUpTo(2)
	wantTexts(t, "2", again, ok, []string{"a", "b", "ab"})
	turns, _ := impl.TurnsOf("aab")
	turns[0] = "changed"
	turns, ok = impl.TurnsOf("aab")
	wantTexts(t, "aab", turns, ok, []string{"aab", "aba", "baa"})
	cohn, _ := impl.CohnMatrix("a")
	cohn.Rows[0][0] = 9
	cohn.Rows[1] = nil
	cohn, ok = impl.CohnMatrix("a")
	wantMatrix(t, "a", cohn, ok, matrix([]int{2, 1}, []int{1, 1}))
	list, _ := impl.TripleOfWord("ab")
	list[0] = 9
	list, ok = impl.TripleOfWord("ab")
	wantList(t, "ab", list, ok, []int{1, 2, 5})
}
