package tests

import (
	"fmt"
	"math/rand"
	"reflect"
	"regexp"
	"slices"
	"strconv"
	"strings"
	"testing"

	"loop.example/g01122/impl"
)

func desk(triple, quad []int) impl.Desk { return impl.Desk{Triple: triple, Quad: quad} }

// freshDesk is the FirstDesk, as the document tells it.
func freshDesk() impl.Desk { return desk([]int{1, 1, 1}, []int{-1, 2, 2, 3}) }

// listTold tells a list as replies do.
func listTold(list []int) string {
	if len(list) == 0 {
		return "-"
	}
	return strings.ReplaceAll(strings.Trim(fmt.Sprint(list), "[]"), " ", ",")
}

func listsTold(lists ...[]int) string {
	var told []string
	for _, list := range lists {
		told = append(told, listTold(list))
	}
	return strings.Join(told, " ")
}

func numberOf(word string) int {
	number, _ := strconv.Atoi(word)
	return number
}

func listIn(word string) []int {
	var list []int
	for _, part := range strings.Split(word, ",") {
		list = append(list, numberOf(part))
	}
	return list
}

// tableLine is a line of the chapter's table: a pattern for whole lines, and the call that it names. What is told is the reply if the call succeeds.
type tableLine struct {
	pattern *regexp.Regexp
	call    func(d impl.Desk, word string) (next impl.Desk, told string, ok bool)
}

// lineOf puts a form in place of the one capital letter of a line of the table.
func lineOf(line string, call func(d impl.Desk, word string) (impl.Desk, string, bool)) tableLine {
	const natural = `(?:0|[1-9][0-9]{0,5})`
	const whole = `(?:0|-?[1-9][0-9]{0,5})`
	form := strings.NewReplacer("I", "("+natural+")", "N", "("+natural+")", "L", "("+whole+"(?:,"+whole+")*)", "W", "([^ ]*)").Replace(line)
	return tableLine{regexp.MustCompile(`\A` + form + `\z`), call}
}

func tableLines() []tableLine {
	type call = func(d impl.Desk, word string) (impl.Desk, string, bool)
	triple := func(get func(triple []int, word string) ([]int, bool)) call {
		return func(d impl.Desk, word string) (impl.Desk, string, bool) {
			list, ok := get(d.Triple, word)
			return desk(list, d.Quad), listTold(list), ok
		}
	}
	quad := func(get func(quad []int, word string) ([]int, bool)) call {
		return func(d impl.Desk, word string) (impl.Desk, string, bool) {
			list, ok := get(d.Quad, word)
			return desk(d.Triple, list), listTold(list), ok
		}
	}
	reply := func(get func(d impl.Desk, word string) (string, bool)) call {
		return func(d impl.Desk, word string) (impl.Desk, string, bool) {
			told, ok := get(d, word)
			return d, told, ok
		}
	}
	return []tableLine{
		lineOf("triple L", triple(func(_ []int, word string) ([]int, bool) { return listIn(word), impl.IsMarkov(listIn(word)) })),
		lineOf("move I", triple(func(t []int, word string) ([]int, bool) { return impl.MarkovMove(t, numberOf(word)) })),
		lineOf("down", triple(func(t []int, _ string) ([]int, bool) { return impl.MarkovDown(t) })),
		lineOf("word W", triple(func(_ []int, word string) ([]int, bool) { return impl.MarkovOfWord(word) })),
		lineOf("letters W", triple(func(_ []int, word string) ([]int, bool) { return impl.TripleOfWord(word) })),
		lineOf("quad L", quad(func(_ []int, word string) ([]int, bool) { return listIn(word), impl.IsQuad(listIn(word)) })),
		lineOf("swap I", quad(func(q []int, word string) ([]int, bool) { return impl.SwapAt(q, numberOf(word)) })),
		lineOf("fall", quad(func(q []int, _ string) ([]int, bool) {
			i, ok := impl.DownSwap(q)
			lower, fine := impl.SwapAt(q, i)
			return lower, ok && fine
		})),
		lineOf("spell", reply(func(d impl.Desk, _ string) (string, bool) { return impl.WordOfTriple(d.Triple) })),
		lineOf("path", reply(func(d impl.Desk, _ string) (string, bool) {
			path, ok := impl.MarkovPath(d.Triple)
			return fmt.Sprint(len(path)), ok
		})),
		lineOf("root", reply(func(d impl.Desk, _ string) (string, bool) {
			root, ok := impl.MinusOneRoot(d.Triple)
			return fmt.Sprint(root), ok
		})),
		lineOf("base", reply(func(d impl.Desk, _ string) (string, bool) {
			root, ok := impl.RootQuad(d.Quad)
			return listTold(root), ok
		})),
		lineOf("ways", reply(func(d impl.Desk, _ string) (string, bool) {
			word, ok := impl.DownWord(d.Quad)
			return listTold(word), ok
		})),
		lineOf("curves N", reply(func(d impl.Desk, word string) (string, bool) {
			curvatures, ok := impl.CurvaturesUpTo(d.Quad, numberOf(word))
			return listTold(curvatures), ok
		})),
		lineOf("least N", reply(func(_ impl.Desk, word string) (string, bool) {
			roots, ok := impl.RootsWith(numberOf(word))
			return listsTold(roots...), ok
		})),
		lineOf("show", reply(func(d impl.Desk, _ string) (string, bool) { return listsTold(d.Triple, d.Quad), true })),
	}
}

// byTable executes a line as the table tells it.
func byTable(table []tableLine, d impl.Desk, line string) (impl.Desk, string) {
	for _, each := range table {
		found := each.pattern.FindStringSubmatch(line)
		if found == nil {
			continue
		}
		next, told, ok := each.call(d, append(found, "")[1])
		if !ok {
			return d, "no"
		}
		return next, told
	}
	return d, "what"
}

func areDesksEqual(d, other impl.Desk) bool {
	return slices.Equal(d.Triple, other.Triple) && slices.Equal(d.Quad, other.Quad)
}

func wantDesk(t *testing.T, name string, got impl.Desk, ok bool, want impl.Desk) {
	t.Helper()
	if !ok || !areDesksEqual(got, want) {
		t.Errorf("%s: %v %v instead of %v", name, got, ok, want)
	}
}

func wantNoDesk(t *testing.T, name string, got impl.Desk, ok bool) {
	t.Helper()
	if ok || len(got.Triple) != 0 || len(got.Quad) != 0 {
		t.Errorf("%s: %v %v instead of a failure", name, got, ok)
	}
}

func wantLine(t *testing.T, d impl.Desk, line string, want impl.Desk, reply string) {
	t.Helper()
	got, told, ok := impl.DeskLine(argument(d), line)
	name := fmt.Sprintf("%v %.80q", d, line)
	wantDesk(t, name, got, ok, want)
	wantText(t, name, told, ok, reply)
}

// wantSame is for lines that change nothing.
func wantSame(t *testing.T, d impl.Desk, line, reply string) {
	t.Helper()
	wantLine(t, d, line, d, reply)
}

func wantNoLine(t *testing.T, d impl.Desk, line string) {
	t.Helper()
	got, told, ok := impl.DeskLine(argument(d), line)
	name := fmt.Sprintf("%v %.80q", d, line)
	wantNoDesk(t, name, got, ok)
	wantNoText(t, name, told, ok)
}

// wantScript takes the replies and the desk behind them; the failed lines are told by the replies.
func wantScript(t *testing.T, script string, replies []string, after impl.Desk) {
	t.Helper()
	name := fmt.Sprintf("%.200q", script)
	got, ok := impl.RunScript(script)
	wantTexts(t, name, got, ok, replies)
	last, ok := impl.DeskAfter(script)
	wantDesk(t, name, last, ok, after)
	var failed []int
	for i, reply := range replies {
		if reply == "no" || reply == "what" {
			failed = append(failed, i+1)
		}
	}
	numbers, ok := impl.FailedLines(script)
	wantList(t, name, numbers, ok, failed)
}

func wantNoScript(t *testing.T, script string) {
	t.Helper()
	name := fmt.Sprintf("%d bytes: %.200q", len(script), script)
	replies, ok := impl.RunScript(script)
	wantNoTexts(t, name, replies, ok)
	last, ok := impl.DeskAfter(script)
	wantNoDesk(t, name, last, ok)
	numbers, ok := impl.FailedLines(script)
	wantNoList(t, name, numbers, ok)
}

// someTriples also have numbers that no line can tell.
func someTriples() [][]int {
	return [][]int{
		{1, 1, 1}, {1, 1, 2}, {1, 2, 5}, {1, 5, 13}, {2, 5, 29}, {1, 13, 34}, {5, 13, 194}, {5, 29, 433}, {29, 169, 14701}, {13, 7561, 294685}, {34, 9077, 925765}, {1, 196418, 514229},
		{2, 195025, 1136689}, {1, 165580141, 433494437}, {194, 1686049, 981277621},
	}
}

// quadsOfDesks have roots, quads without a circle around the others, and those that are too far from their root.
func quadsOfDesks() [][]int {
	return append(someQuads(), []int{0, 0, impl.MaxCurvature, impl.MaxCurvature}, []int{-33333, 66666, 66666, 99999}, []int{-46356, 99825, 99896, 99929}, []int{17493, 48, impl.MaxCurvature, 33757}, chainAtLine(199), chainAtLine(200), chainInRing(199), chainInRing(200), rotated(chainInRing(315), 1))
}

// desksToTry have each triple and each quad, but not all of them with each other.
func desksToTry() []impl.Desk {
	triples, quads := someTriples(), quadsOfDesks()
	var desks []impl.Desk
	for i := range max(len(triples), len(quads)) {
		desks = append(desks, desk(triples[i%len(triples)], quads[i%len(quads)]))
	}
	return desks
}

// notDesks have no Markov triple, or no quad, or neither.
func notDesks() []impl.Desk {
	var desks []impl.Desk
	for _, list := range notMarkovs() {
		desks = append(desks, desk(list, []int{-1, 2, 2, 3}))
	}
	for _, list := range notQuads() {
		desks = append(desks, desk([]int{1, 1, 1}, list))
	}
	return append(desks, impl.Desk{}, desk([]int{}, []int{}), desk([]int{-1, 2, 2, 3}, []int{1, 1, 1}), desk([]int{1, 1, 1}, []int{1, 1, 1}), desk([]int{-1, 2, 2, 3}, []int{-1, 2, 2, 3}), desk([]int{1, 1, 3}, []int{-1, 2, 2, 4}), desk([]int{1, 1, 1, -1}, []int{2, 2, 3}))
}

func lineNames() []string {
	return []string{"triple", "move", "down", "word", "letters", "spell", "path", "root", "quad", "swap", "fall", "base", "ways", "curves", "least", "show"}
}

// notNumbers are neither in 0..999999 nor less, or are told as no number is.
func notNumbers() []string {
	return []string{
		"", "-", "+", "--", ",", ".", "x", "l", "a", "one", "no", "what",
		// Zeros.
		"00", "01", "000", "007", "0000001", "000000000000000000000000", "-00", "-01", "0999999", "-0999999",
		// Signs.
		"-0", "+0", "+1", "+2", "--1", "-+1", "+-1", "1-", "1+", "\u22121", "- 1", "-999999-", "~1",
		// Limits.
		"1000000", "-1000000", "1000001", "9999990", "4294967296", "4294967297", "9223372036854775807", "9223372036854775808", "-9223372036854775808", "-9223372036854775809", "18446744073709551616", "18446744073709551617", "-18446744073709551615", strings.Repeat("9", 500), "1" + strings.Repeat("0", 500),
		// Other ways to tell numbers, and other bytes.
		"0x1", "0X1", "0b1", "0o1", "1_0", "1_000", "0_1", "1.0", "1.", ".1", "1e0", "1e2", "1E2", "1/1", "1a", "a1", "1l", "\t1", "1\t", "1\r", "1\v", "1\x00", "\x001", "1\xff", "\xff", "\xff1", "\u00a01", "1\u00a0", "\uff11", "\u0661", "(1)", "\"1\"", "1;", ";",
	}
}

func lessThanZero() []string { return []string{"-1", "-2", "-3", "-10", "-100000", "-999999"} }

func naturalNumbers() []string {
	return []string{"0", "1", "2", "3", "4", "5", "6", "9", "10", "15", "29", "30", "31", "32", "60", "100", "499", "500", "501", "502", "1000", "99999", "100000", "100001", "999998", "999999"}
}

// someLists are an L, of triples, of quads, of neither.
func someLists() []string {
	lists := []string{
		"1,1", "1,2", "1,1,1,1", "1,2,5,29", "1,1,3", "2,1,1", "5,2,1", "1,5,2", "13,5,194", "-1,1,1", "1,-1,1", "-1,-2,5", "0,0,0", "0,1,1", "0,0", "1,1,999999", "999999,999999,999999", "-999999,-999999,-999999", "1,2,5,13,34,89",
		"-1,2,2", "-1,2,2,3,3", "2,2,3", "-1,2,2,4", "1,2,2,3", "-1,-2,-2,-3", "0,0,0,0", "1,1,1,1,1", "-999999,999999,0,0", "0,0,999999,999999", "0,0,100001,100001", "999999,999999,999999,999999", "-999999,-999999,-999999,-999999", "1,-2,-2,-3", "3,-1,2,2", "-1,2,3,2,-1,2,2,3", "0,0,0,0,0,0,0,0,0,0",
		strings.Repeat("1,", 400) + "1",
	}
	for _, list := range someTriples() {
		if slices.Max(list) <= 999999 {
			lists = append(lists, listTold(list), listTold(reversed(list)))
		}
	}
	for _, list := range quadsOfDesks() {
		lists = append(lists, listTold(list))
	}
	return lists
}

// notLists have an empty part, or one that is no number, or that stands beside a blank.
func notLists() []string {
	lists := []string{
		",", ",,", "1,", ",1", "1,,1", "1,1,", ",1,1", "1,1,1,", ",1,1,1", "1,,1,1", "1,1,,1", ",,,", "1,2,5,", "-1,2,2,3,", ",-1,2,2,3", "-1,,2,2,3", "-,1,1", "1,1,-", "-1,2,2,-", "1,1,1;", "1;1;1", "1.1.1", "1:2:5", "[1,1,1]", "(1,2,5)", "1, 2, 5", "1,2, 5", "1 ,2,5", " 1,2,5", "1,2,5 ", "-1, 2, 2, 3", "1,1,1\r", "1,1,1\t", "1\t,1,1", "1,1,1\x00", "1,1,1,\xff", "-1 2 2 3", "1 2 5", "1,1,1,l",
		"2,195025,1136689", "1,165580141,433494437", "0,0,1000000,1000000", "-1000000,2000000,2000000,3000000", "1,1,1000000", "1000000,1,1", "-1,2,2,18446744073709551619", "1,1,18446744073709551617",
		// What is no number stands behind too many that are.
		"1,1,1,x", "1,1,1,1,", "1,1,1,1,-0", "-1,2,2,3,x", "-1,2,2,3,,3", "-1,2,2,3,3,01", "1,2,5,13,34,89,1000000", strings.Repeat("1,", 400), strings.Repeat("1,", 400) + "x", strings.Repeat("0,", 400) + "1000000",
	}
	for _, part := range notNumbers() {
		lists = append(lists, part+",1,1", "1,"+part+",1", "1,1,"+part, part+",2,2,3", "-1,2,2,"+part)
	}
	return lists
}

// someWords are a W, of each kind and of none.
func someWords() []string {
	words := slices.Concat(notMarkovWords(), notLetters(), notChristoffels(), tooGreatWords(), []string{"l", "r", "lr", "rl", "ll", "lrlr", "rrrrrr", "llllllllllllllll", "ab", "a", "b", "lab", "alr", "LR", "lR", "l,r", "l\tr", "l\rr", "lr\r", "\xfflr", "lr\x80", "\x00", "\u00a0", "\u00a0lr", "-", ",", "lr,", "aab,", "r\xe2\x82\xac"})
	for word := range wordsAndTriples() {
		words = append(words, word)
	}
	for word := range wordsOfTriples() {
		words = append(words, word)
	}
	// A line has no newline.
	words = slices.DeleteFunc(words, func(word string) bool { return strings.Contains(word, "\n") || len(word) > 200 })
	slices.Sort(words)
	return slices.Compact(words)
}

// wordsBehindNames has a word with which the first desk does what the line says.
func wordsBehindNames() map[string]string {
	return map[string]string{"triple": "1,2,5", "move": "0", "word": "lr", "letters": "aab", "quad": "2,3,15,38", "swap": "0", "curves": "5", "least": "3"}
}

// strangeLines are understood by no one.
func strangeLines() []string {
	lines := []string{
		"", " ", "  ", "   ", "fly", "help", "no", "what", "-", "1", "0", "1,1,1", "-1,2,2,3", "lr", "aab", "l", "\t", "\r", "\x00", "\xff", "é", "🙂", ",",
		"triple=1,1,1", "triple:1,1,1", "letter ab", "curve 5", "lest 1",
	}
	for _, name := range lineNames() {
		lines = append(lines, " "+name, name+" ", "  "+name, name+"  ", " "+name+" ", name+" "+name+" "+name, strings.ToUpper(name), strings.ToUpper(name[:1])+name[1:], name[1:], name[:len(name)-1], name+"s", name+"\t", name+"\r", name+"\x00", name+"\xff", "\xef\xbb\xbf"+name, "\t"+name, name+"\u00a0", name+".", name+",", "-"+name)
	}
	for _, name := range lineNames() {
		word, isThere := wordsBehindNames()[name]
		if !isThere {
			continue
		}
		for _, other := range []string{strings.ToUpper(name), strings.ToUpper(name[:1]) + name[1:], name[1:], name[:len(name)-1], name + "s", "-" + name, name + ",", "\xff" + name} {
			lines = append(lines, other+" "+word)
		}
		lines = append(lines, word+" "+name, name+word, name+"\t"+word, name+"\u00a0"+word, name+","+word)
	}
	// With a blank behind them, these have an empty W.
	return slices.DeleteFunc(lines, func(line string) bool { return line == "word " || line == "letters " })
}

// linesToTry have each name with each other word, which need not be of its kind.
func linesToTry() []string {
	lines := strangeLines()
	for _, name := range lineNames() {
		lines = append(lines, name)
		for _, word := range slices.Concat(notNumbers(), lessThanZero(), naturalNumbers(), someLists(), notLists(), someWords()) {
			lines = append(lines, name+" "+word)
		}
		for _, word := range []string{"0", "1", "1,1,1", "1,2,5", "-1,2,2,3", "lr", "ab", ""} {
			lines = append(lines, name+"  "+word, " "+name+" "+word, name+" "+word+" ", name+" "+word+"  ", name+" "+word+" "+word, name+" "+word+" 1", name+" 1 "+word)
		}
	}
	return lines
}

func TestConstantsOfChapter10(t *testing.T) {
	got := [2]int{impl.MaxScript, impl.MaxLines}
	if got != [2]int{3000, 50} {
		t.Error(got)
	}
}

func TestFirstDesk(t *testing.T) {
	wantDesk(t, "first desk", impl.FirstDesk(), true, freshDesk())
}

func TestIsDesk(t *testing.T) {
	for _, triple := range someTriples() {
		for _, quad := range quadsOfDesks() {
			if d := desk(triple, quad); !impl.IsDesk(d) {
				t.Errorf("%v is not told as a desk", d)
			}
		}
	}
	for _, d := range notDesks() {
		if impl.IsDesk(d) {
			t.Errorf("%v is told as a desk", d)
		}
	}
}

func TestLinesOfTriples(t *testing.T) {
	first := freshDesk()
	with := func(triple ...int) impl.Desk { return desk(triple, first.Quad) }
	for _, c := range []struct {
		before impl.Desk
		line   string
		after  impl.Desk
		reply  string
	}{
		{first, "triple 1,2,5", with(1, 2, 5), "1,2,5"}, {first, "triple 5,13,194", with(5, 13, 194), "5,13,194"}, {with(1, 2, 5), "triple 1,1,1", first, "1,1,1"}, {first, "triple 1,1,1", first, "1,1,1"}, {first, "triple 34,9077,925765", with(34, 9077, 925765), "34,9077,925765"},
		{first, "move 0", with(1, 1, 2), "1,1,2"}, {first, "move 2", with(1, 1, 2), "1,1,2"}, {with(1, 2, 5), "move 0", with(2, 5, 29), "2,5,29"}, {with(1, 2, 5), "move 1", with(1, 5, 13), "1,5,13"}, {with(1, 2, 5), "move 2", with(1, 1, 2), "1,1,2"}, {with(5, 13, 194), "move 0", with(13, 194, 7561), "13,194,7561"},
		// The reply has a number that no line can tell.
		{with(1, 196418, 514229), "move 1", with(1, 514229, 1346269), "1,514229,1346269"}, {with(1, 165580141, 433494437), "down", with(1, 63245986, 165580141), "1,63245986,165580141"},
		{with(1, 2, 5), "down", with(1, 1, 2), "1,1,2"}, {with(1, 1, 2), "down", first, "1,1,1"}, {with(5, 13, 194), "down", with(1, 5, 13), "1,5,13"},
		{first, "word lr", with(5, 13, 194), "5,13,194"}, {first, "word l", with(1, 5, 13), "1,5,13"}, {first, "word r", with(2, 5, 29), "2,5,29"}, {with(5, 13, 194), "word ", with(1, 2, 5), "1,2,5"}, {first, "word llllllllllllllll", with(1, 9227465, 24157817), "1,9227465,24157817"},
		{first, "letters ab", with(1, 2, 5), "1,2,5"}, {first, "letters aabab", with(5, 13, 194), "5,13,194"}, {with(1, 2, 5), "letters aab", with(1, 5, 13), "1,5,13"}, {with(1, 2, 5), "letters abb", with(2, 5, 29), "2,5,29"},
	} {
		wantLine(t, c.before, c.line, c.after, c.reply)
		// The other list of the desk doesn't tell, and stays.
		other := []int{2, 3, 15, 38}
		wantLine(t, desk(c.before.Triple, other), c.line, desk(c.after.Triple, other), c.reply)
	}
}

func TestLinesOfQuads(t *testing.T) {
	first := freshDesk()
	with := func(quad ...int) impl.Desk { return desk(first.Triple, quad) }
	for _, c := range []struct {
		before impl.Desk
		line   string
		after  impl.Desk
		reply  string
	}{
		{first, "quad 2,3,15,38", with(2, 3, 15, 38), "2,3,15,38"}, {with(2, 3, 15, 38), "quad 3,2,2,-1", with(3, 2, 2, -1), "3,2,2,-1"}, {first, "quad -1,2,2,3", first, "-1,2,2,3"}, {first, "quad 0,0,1,1", with(0, 0, 1, 1), "0,0,1,1"}, {first, "quad 0,0,100000,100000", with(0, 0, 100000, 100000), "0,0,100000,100000"},
		{first, "swap 0", with(15, 2, 2, 3), "15,2,2,3"}, {first, "swap 1", with(-1, 6, 2, 3), "-1,6,2,3"}, {first, "swap 2", with(-1, 2, 6, 3), "-1,2,6,3"}, {first, "swap 3", first, "-1,2,2,3"}, {with(2, 3, 15, 38), "swap 3", with(2, 3, 15, 2), "2,3,15,2"},
		{with(15, 2, 2, 3), "fall", first, "-1,2,2,3"}, {with(2, 3, 15, 38), "fall", with(2, 3, 15, 2), "2,3,15,2"}, {with(2, 3, 15, 2), "fall", with(2, 3, -1, 2), "2,3,-1,2"},
	} {
		wantLine(t, c.before, c.line, c.after, c.reply)
		other := []int{5, 13, 194}
		wantLine(t, desk(other, c.before.Quad), c.line, desk(other, c.after.Quad), c.reply)
	}
}

func TestLinesThatAsk(t *testing.T) {
	first := freshDesk()
	triple := func(triple ...int) impl.Desk { return desk(triple, first.Quad) }
	quad := func(quad ...int) impl.Desk { return desk(first.Triple, quad) }
	for _, c := range []struct {
		d     impl.Desk
		line  string
		reply string
	}{
		{triple(5, 13, 194), "spell", "aabab"}, {triple(1, 2, 5), "spell", "ab"}, {triple(13, 7561, 294685), "spell", "aabaabaabab"},
		{first, "path", "1"}, {triple(1, 1, 2), "path", "2"}, {triple(5, 13, 194), "path", "5"}, {triple(1, 165580141, 433494437), "path", "22"},
		{first, "root", "0"}, {triple(1, 1, 2), "root", "1"}, {triple(1, 2, 5), "root", "2"}, {triple(5, 13, 194), "root", "119"},
		{first, "base", "-1,2,2,3"}, {quad(2, 3, 15, 38), "base", "-1,2,2,3"}, {quad(2, 3, -1, 2), "base", "-1,2,2,3"}, {quad(28, 1, 4, 9), "base", "0,0,1,1"}, {quad(86, 11, 14, 15), "base", "-6,11,14,15"},
		{first, "ways", "-"}, {quad(15, 2, 2, 3), "ways", "0"}, {quad(2, 3, 15, 38), "ways", "3,2"}, {quad(0, 0, 1, 1), "ways", "-"},
		{first, "curves 1", "-1"}, {first, "curves 3", "-1,2,3"}, {first, "curves 15", "-1,2,3,6,11,14,15"}, {quad(2, 3, 15, 38), "curves 6", "-1,2,3,6"}, {quad(-11, 21, 24, 28), "curves 20", "-11"},
		{first, "least 1", "-1,2,2,3"}, {first, "least 2", "-2,3,6,7"}, {first, "least 3", "-3,4,12,13 -3,5,8,8"}, {quad(0, 0, 1, 1), "least 6", "-6,7,42,43 -6,10,15,19 -6,11,14,15"},
		{first, "show", "1,1,1 -1,2,2,3"}, {desk([]int{5, 13, 194}, []int{2, 3, 15, 38}), "show", "5,13,194 2,3,15,38"}, {desk([]int{194, 1686049, 981277621}, []int{-33333, 66666, 66666, 99999}), "show", "194,1686049,981277621 -33333,66666,66666,99999"},
	} {
		wantSame(t, c.d, c.line, c.reply)
	}
}

func TestLinesOnWhichACallFails(t *testing.T) {
	first := freshDesk()
	triple := func(triple ...int) impl.Desk { return desk(triple, first.Quad) }
	quad := func(quad ...int) impl.Desk { return desk(first.Triple, quad) }
	for _, c := range []struct {
		d    impl.Desk
		line string
	}{
		{first, "triple 1,1,3"}, {first, "triple 2,1,1"}, {first, "triple 0,0,0"}, {first, "triple 1"}, {first, "triple 1,1"}, {first, "triple 1,1,1,1"}, {first, "triple -1,2,2,3"}, {first, "triple -1,-2,5"}, {first, "triple 1,1,999999"}, {first, "triple -999999"}, {first, "triple 0"},
		{first, "move 3"}, {first, "move 4"}, {first, "move 999999"}, {triple(1, 165580141, 433494437), "move 1"}, {triple(194, 1686049, 981277621), "move 0"},
		{first, "down"}, {first, "word x"}, {first, "word ab"}, {first, "word L"}, {first, "word l\tr"}, {first, "word \xff"}, {first, "word lr\r"}, {first, "word llllllllllllllllllll"}, {first, "word " + strings.Repeat("l", 41)},
		{first, "letters "}, {first, "letters a"}, {first, "letters b"}, {first, "letters ba"}, {first, "letters aabb"}, {first, "letters lr"}, {first, "letters \x00"}, {first, "letters abbbbbbbb"}, {first, "letters " + strings.Repeat("ab", 21)},
		{first, "spell"}, {triple(1, 1, 2), "spell"}, {triple(1, 196418, 514229), "spell"}, {triple(194, 1686049, 981277621), "spell"},
		{first, "quad -1,2,2,4"}, {first, "quad 0,0,0,0"}, {first, "quad 1,-2,-2,-3"}, {first, "quad 2,2,3"}, {first, "quad -1,2,2,3,3"}, {first, "quad 1,1,1"}, {first, "quad 0"}, {first, "quad 0,0,100001,100001"}, {first, "quad 999999,999999,999999,-999999"},
		{first, "swap 4"}, {first, "swap 5"}, {first, "swap 999999"}, {quad(0, 0, 100000, 100000), "swap 0"}, {quad(-33333, 66666, 66666, 99999), "swap 0"},
		{first, "fall"}, {quad(0, 0, 1, 1), "fall"}, {quad(-6, 11, 14, 15), "fall"}, {quad(-30, 60, 60, 90), "fall"},
		{quad(chainInRing(200)...), "base"}, {quad(chainInRing(200)...), "ways"}, {quad(chainAtLine(201)...), "base"}, {quad(chainAtLine(201)...), "ways"},
		{first, "curves 0"}, {first, "curves 501"}, {first, "curves 999999"}, {quad(0, 0, 1, 1), "curves 5"}, {quad(0, 1, 4, 9), "curves 500"},
		{first, "least 0"}, {first, "least 31"}, {first, "least 999999"},
	} {
		wantSame(t, c.d, c.line, "no")
	}
}

func TestLinesThatAreNotUnderstood(t *testing.T) {
	for name, word := range wordsBehindNames() {
		_, reply, ok := impl.DeskLine(freshDesk(), name+" "+word)
		if !ok || reply == "no" || reply == "what" {
			t.Error("this is no test:", name, word, reply, ok)
		}
	}
	for _, d := range []impl.Desk{freshDesk(), desk([]int{5, 13, 194}, []int{2, 3, 15, 38})} {
		for _, line := range strangeLines() {
			wantSame(t, d, line, "what")
		}
		for _, name := range []string{"down", "spell", "path", "root", "fall", "base", "ways", "show"} {
			for _, more := range []string{" ", "  ", " 0", " 1", " l", " ab", " 1,1,1", " -1,2,2,3", " 0 0"} {
				wantSame(t, d, name+more, "what")
			}
		}
		for _, name := range []string{"triple", "move", "word", "letters", "quad", "swap", "curves", "least"} {
			for _, more := range []string{"", "  ", " 1 ", "  1", " 1 1", " 1,2,5 ", "  1,2,5", " l ", "  lr", " ab ", "  ab", " -1,2,2,3 ", "  -1,2,2,3", " -1,2,2,3 0", " 1 2 5", "   "} {
				wantSame(t, d, name+more, "what")
			}
		}
	}
}

func TestNumbersInLines(t *testing.T) {
	d := desk([]int{1, 5, 13}, []int{2, 3, 15, 38})
	for _, name := range []string{"move", "swap", "curves", "least"} {
		for _, word := range slices.Concat(notNumbers(), lessThanZero(), notLists(), []string{"1,1", "0,0", "1,2,5", "-1,2,2,3"}) {
			wantSame(t, d, name+" "+word, "what")
		}
		for _, word := range naturalNumbers() {
			_, reply, ok := impl.DeskLine(d, name+" "+word)
			if !ok || reply == "what" || reply == "" {
				t.Error(name, word, reply, ok)
			}
		}
		wantSame(t, d, name+" 999999", "no")
		wantSame(t, d, name+" 1000000", "what")
	}
}

func TestListsInLines(t *testing.T) {
	d := desk([]int{1, 5, 13}, []int{2, 3, 15, 38})
	for _, word := range append(notLists(), notNumbers()...) {
		wantSame(t, d, "triple "+word, "what")
		wantSame(t, d, "quad "+word, "what")
	}
	for _, word := range slices.Concat(someLists(), naturalNumbers(), lessThanZero()) {
		list := listIn(word)
		if impl.IsMarkov(list) {
			wantLine(t, d, "triple "+word, desk(list, d.Quad), word)
		} else {
			wantSame(t, d, "triple "+word, "no")
		}
		if impl.IsQuad(list) {
			wantLine(t, d, "quad "+word, desk(d.Triple, list), word)
		} else {
			wantSame(t, d, "quad "+word, "no")
		}
	}
}

// TestPromise10LinesDoWhatTheirCallsDo holds each line of the table against the call that it names.
func TestPromise10LinesDoWhatTheirCallsDo(t *testing.T) {
	table := tableLines()
	lines := linesToTry()
	kinds := map[string]int{}
	for i, d := range desksToTry() {
		for j, line := range lines {
			// All lines on all desks would take long; names alone are few, and depend on the desk.
			if strings.Contains(line, " ") && (i+j)%5 != 0 {
				continue
			}
			next, reply := byTable(table, d, line)
			wantLine(t, d, line, next, reply)
			kind := strings.Split(line, " ")[0] + " makes or tells a list"
			if reply == "no" || reply == "what" {
				kind = reply
			}
			kinds[kind]++
		}
	}
	for _, name := range lineNames() {
		if kinds[name+" makes or tells a list"] < 10 {
			t.Error("this is no test:", name, kinds)
		}
	}
	if kinds["no"] < 1000 || kinds["what"] < 1000 {
		t.Error("this is no test:", kinds)
	}
}

func TestLongLines(t *testing.T) {
	first := freshDesk()
	for _, c := range []struct{ start, more, reply string }{
		{"", " ", "what"}, {"", "x", "what"}, {"", "\x00", "what"}, {"down", " ", "what"}, {"down", "n", "what"}, {"word ", "l", "no"}, {"word ", "\xff", "no"}, {"letters ", "a", "no"}, {"word ", " ", "what"}, {"move ", "1", "what"}, {"move ", "0", "what"}, {"triple ", "1", "what"}, {"triple 1,1,1", ",1", "no"}, {"triple 1,1,1", ",", "what"}, {"quad -1,2,2,3", ",-1", "no"}, {"quad -1,2,2,3", " ", "what"},
	} {
		for length := impl.MaxScript - 3; length <= impl.MaxScript+3; length++ {
			line := c.start + strings.Repeat(c.more, (length-len(c.start))/len(c.more))
			if len(line) != length {
				continue
			}
			if length <= impl.MaxScript {
				wantSame(t, first, line, c.reply)
			} else {
				wantNoLine(t, first, line)
			}
		}
	}
	wantNoLine(t, first, "show"+strings.Repeat(" ", 5*impl.MaxScript))
	wantNoLine(t, first, strings.Repeat("l", 1<<20))
}

func TestLinesWithANewline(t *testing.T) {
	for _, line := range []string{"\n", "down\n", "\ndown", "show\n", "show\nshow", "show\nshow\n", "word l\n", "word l\nr", "word \n", "fly\n", "\n\n", " \n", "show\r\n", "triple 1,1,1\n", "move 0\n", strings.Repeat("x", impl.MaxScript-1) + "\n"} {
		wantNoLine(t, freshDesk(), line)
	}
}

func TestLinesOnNoDesk(t *testing.T) {
	for _, d := range notDesks() {
		for _, line := range []string{"show", "triple 1,1,1", "quad -1,2,2,3", "word lr", "down", "fall", "base", "path", "move 0", "swap 0", "least 1", "curves 5", "", "fly", "letters ab", "ways", "root", "spell", "a\nb", strings.Repeat("x", impl.MaxScript+1)} {
			wantNoLine(t, d, line)
		}
	}
}

func TestScripts(t *testing.T) {
	first := freshDesk()
	for _, c := range []struct {
		script  string
		replies []string
		after   impl.Desk
	}{
		{"", nil, first},
		{"\n", []string{"what"}, first},
		{"\n\n\n", []string{"what", "what", "what"}, first},
		{" \n", []string{"what"}, first},
		{"show\n", []string{"1,1,1 -1,2,2,3"}, first},
		{"word lr\nspell\nswap 0\nfall\nbase\nfly\n", []string{"5,13,194", "aabab", "15,2,2,3", "-1,2,2,3", "-1,2,2,3", "what"}, desk([]int{5, 13, 194}, []int{-1, 2, 2, 3})},
		{"move 0\nmove 0\nmove 0\nmove 0\nshow\n", []string{"1,1,2", "1,2,5", "2,5,29", "5,29,433", "5,29,433 -1,2,2,3"}, desk([]int{5, 29, 433}, first.Quad)},
		{"swap 2\nswap 3\nswap 2\nways\nfall\nfall\nfall\nfall\n", []string{"-1,2,6,3", "-1,2,6,11", "-1,2,18,11", "2,3,2", "-1,2,6,11", "-1,2,6,3", "-1,2,2,3", "no"}, first},
		// What fails changes nothing, and what comes next goes on.
		{"word lr\nmove 3\nshow\ntriple 1,1\nquad 1,1,1,1\nshow\ndown\n", []string{"5,13,194", "no", "5,13,194 -1,2,2,3", "no", "no", "5,13,194 -1,2,2,3", "1,5,13"}, desk([]int{1, 5, 13}, first.Quad)},
		{"down\nfall\nspell\nfly\nshow\n", []string{"no", "no", "no", "what", "1,1,1 -1,2,2,3"}, first},
		{"fly\nshow\nfly\n", []string{"what", "1,1,1 -1,2,2,3", "what"}, first},
		{"show\n\nshow\n\n", []string{"1,1,1 -1,2,2,3", "what", "1,1,1 -1,2,2,3", "what"}, first},
		{"\nshow\n", []string{"what", "1,1,1 -1,2,2,3"}, first},
		{"word \nroot\nword  \nword\n", []string{"1,2,5", "2", "what", "what"}, desk([]int{1, 2, 5}, first.Quad)},
		{"word l\r\nshow\r\n", []string{"no", "what"}, first},
		{"letters aabab\npath\nroot\nquad 2,3,15,38\nways\nbase\ncurves 6\nleast 3\nshow\n", []string{"5,13,194", "5", "119", "2,3,15,38", "3,2", "-1,2,2,3", "-1,2,3,6", "-3,4,12,13 -3,5,8,8", "5,13,194 2,3,15,38"}, desk([]int{5, 13, 194}, []int{2, 3, 15, 38})},
		{"word lr\x00\nword lr\nword \xff\n", []string{"no", "5,13,194", "no"}, desk([]int{5, 13, 194}, first.Quad)},
	} {
		wantScript(t, c.script, c.replies, c.after)
	}
}

func TestFailedLinesOfAScript(t *testing.T) {
	for _, c := range []struct {
		script string
		want   []int
	}{
		{"", nil}, {"show\n", nil}, {"show\nshow\n", nil}, {"fly\n", []int{1}}, {"down\n", []int{1}}, {"\n", []int{1}}, {"show\nfly\ndown\nshow\nmove 9\nmove 0\nmove x\n", []int{2, 3, 5, 7}}, {"word lr\nspell\nswap 0\nfall\nbase\nfly\n", []int{6}}, {"ways\n", nil}, {strings.Repeat("show\n", 49) + "fly\n", []int{50}}, {"down\n" + strings.Repeat("show\n", 49), []int{1}},
	} {
		got, ok := impl.FailedLines(c.script)
		wantList(t, c.script, got, ok, c.want)
	}
	all, ok := impl.FailedLines(strings.Repeat("\n", impl.MaxLines))
	if !ok || len(all) != impl.MaxLines || all[0] != 1 || all[impl.MaxLines-1] != impl.MaxLines {
		t.Error(all, ok)
	}
}

func TestScriptsOfManyLines(t *testing.T) {
	first := freshDesk()
	for _, line := range []string{"", "show", "fly", "path", "down", "triple 1,1,1"} {
		_, reply := byTable(tableLines(), first, line)
		for count := impl.MaxLines - 2; count <= impl.MaxLines+3; count++ {
			script := strings.Repeat(line+"\n", count)
			if count <= impl.MaxLines {
				wantScript(t, script, slices.Repeat([]string{reply}, count), first)
			} else {
				wantNoScript(t, script)
			}
		}
	}
	// The last line has no newline.
	wantNoScript(t, strings.Repeat("show\n", impl.MaxLines)+"show")
	wantNoScript(t, strings.Repeat("show\n", impl.MaxLines-1)+"show")
	wantNoScript(t, strings.Repeat("\n", impl.MaxScript))
}

func TestScriptsOfManyBytes(t *testing.T) {
	first := freshDesk()
	for length := impl.MaxScript - 3; length <= impl.MaxScript+3; length++ {
		oneLine := "word " + strings.Repeat("l", length-6) + "\n"
		blanks := strings.Repeat(" ", length-1) + "\n"
		twoLines := "show\n" + strings.Repeat("x", length-6) + "\n"
		manyLines := strings.Repeat("show\n", impl.MaxLines-1) + strings.Repeat("y", length-5*(impl.MaxLines-1)-1) + "\n"
		if length > impl.MaxScript {
			for _, script := range []string{oneLine, blanks, twoLines, manyLines} {
				wantNoScript(t, script)
			}
			continue
		}
		wantScript(t, oneLine, []string{"no"}, first)
		wantScript(t, blanks, []string{"what"}, first)
		wantScript(t, twoLines, []string{"1,1,1 -1,2,2,3", "what"}, first)
		wantScript(t, manyLines, append(slices.Repeat([]string{"1,1,1 -1,2,2,3"}, impl.MaxLines-1), "what"), first)
		if len(oneLine) != length || len(blanks) != length || len(twoLines) != length || len(manyLines) != length {
			t.Error("this is no test:", length)
		}
	}
}

// notScripts have no newline at the end, or are too long.
func notScripts() []string {
	return []string{
		"show", " ", "x", "down", "show\nshow", "\nshow", "show\n ", "show\n\nx", "show\r", "\x00", "\xff", "word lr\nspell\nswap 0\nfall\nbase\nfly", strings.Repeat("x", impl.MaxScript), strings.Repeat("show\n", 30) + "show", strings.Repeat("\n", impl.MaxLines) + " ",
		strings.Repeat("\n", impl.MaxLines+1), strings.Repeat("show\n", impl.MaxLines+1), strings.Repeat("x", impl.MaxScript) + "\n", strings.Repeat("\n", 1<<16), strings.Repeat("show\n", 1<<16), strings.Repeat("x", 1<<20) + "\n",
	}
}

func TestTextsThatAreNoScript(t *testing.T) {
	for _, script := range notScripts() {
		wantNoScript(t, script)
	}
}

// someScript has lines that mostly do something.
func someScript(source *rand.Rand, odd []string) []string {
	usual := []string{"move 0", "move 1", "move 1", "move 2", "down", "word lr", "word rl", "word ", "letters aab", "letters abb", "spell", "path", "root", "quad 2,3,15,38", "quad 0,0,1,1", "quad -6,11,14,15", "swap 0", "swap 1", "swap 2", "swap 3", "fall", "base", "ways", "curves 40", "least 3", "show", "triple 5,13,194", "triple 1,1,1"}
	lines := make([]string, source.Intn(impl.MaxLines+1))
	for i := range lines {
		lines[i] = usual[source.Intn(len(usual))]
		if source.Intn(8) == 0 {
			lines[i] = odd[source.Intn(len(odd))]
		}
	}
	return lines
}

// TestPromise10ScriptsDoWhatTheirLinesDo also says that a script is its lines, one after the other.
func TestPromise10ScriptsDoWhatTheirLinesDo(t *testing.T) {
	source := rand.New(rand.NewSource(10))
	table := tableLines()
	odd := linesToTry()
	tried := 0
	for range 1500 {
		lines := someScript(source, odd)
		script := strings.Join(append(slices.Clone(lines), ""), "\n")
		if len(script) > impl.MaxScript {
			wantNoScript(t, script)
			continue
		}
		tried++
		byCalls, byLines := freshDesk(), impl.FirstDesk()
		var replies []string
		for _, line := range lines {
			var reply, told string
			var ok bool
			byCalls, reply = byTable(table, byCalls, line)
			byLines, told, ok = impl.DeskLine(byLines, line)
			wantText(t, line, told, ok, reply)
			wantDesk(t, line, byLines, impl.IsDesk(byLines), byCalls)
			replies = append(replies, reply)
		}
		wantScript(t, script, replies, byCalls)
	}
	if tried < 1000 {
		t.Error("this is no test:", tried)
	}
}

// TestPromise10WordsComeBack asks a desk for what another line has told it.
func TestPromise10WordsComeBack(t *testing.T) {
	for word, list := range wordsOfTriples() {
		told := listTold(list)
		wantScript(t, "letters "+word+"\nspell\nshow\n", []string{told, word, told + " -1,2,2,3"}, desk(list, []int{-1, 2, 2, 3}))
		path, _ := impl.MarkovPath(list)
		script, replies := "triple "+told+"\npath\n", []string{told, fmt.Sprint(len(path))}
		for _, lower := range path[1:] {
			script, replies = script+"down\n", append(replies, listTold(lower))
		}
		wantScript(t, script+"down\n", append(replies, "no"), freshDesk())
	}
	for word, list := range wordsAndTriples() {
		wantScript(t, "word "+word+"\nmove 2\n", []string{listTold(list), listTold(lowerTriple(list))}, desk(lowerTriple(list), []int{-1, 2, 2, 3}))
	}
	for _, list := range someQuads() {
		path, ways := downFrom(list)
		script, replies := "quad "+listTold(list)+"\nways\n", []string{listTold(list), listTold(ways)}
		for i, index := range ways {
			script, replies = script+fmt.Sprintf("fall\nswap %d\nfall\n", index), append(replies, listTold(path[i+1]), listTold(path[i]), listTold(path[i+1]))
		}
		last := path[len(path)-1]
		wantScript(t, script+"fall\nbase\n", append(replies, "no", listTold(inOrder(last))), desk([]int{1, 1, 1}, last))
	}
}

// lowerTriple puts the other root in place of the greatest number.
func lowerTriple(list []int) []int {
	return inOrder([]int{list[0], list[1], 3*list[0]*list[1] - list[2]})
}

func TestPromise11OfDesks(t *testing.T) {
	checkTotal(t, "FirstDesk", impl.FirstDesk)
	lines := []string{"", " ", "show", "fly", "triple 1,2,5", "triple 1,1,1", "triple 1,1", "triple ", "move 0", "move 1", "move 2", "move 3", "move x", "down", "word ", "word lr", "word x", "letters ab", "letters ", "spell", "path", "root", "quad 2,3,15,38", "quad -1,2,2,3", "quad 1", "swap 0", "swap 3", "swap 4", "fall", "base", "ways", "curves 20", "curves 0", "least 3", "least 0", "down\n", strings.Repeat("x", impl.MaxScript), strings.Repeat("x", impl.MaxScript+1), "\xff\x00"}
	for _, d := range append(desksToTry(), notDesks()...) {
		checkTotal(t, "IsDesk", impl.IsDesk, d)
		for _, line := range lines {
			checkTotal(t, "DeskLine", impl.DeskLine, d, line)
		}
	}
	for i, line := range linesToTry() {
		desks := desksToTry()
		checkTotal(t, "DeskLine", impl.DeskLine, desks[i%len(desks)], line)
	}
}

func TestPromise11OfScripts(t *testing.T) {
	source := rand.New(rand.NewSource(11))
	odd := linesToTry()
	scripts := append(notScripts(), "", "\n", "show\n", "word lr\nspell\nswap 0\nfall\nbase\nfly\n", strings.Repeat("swap 1\nswap 2\n", 25), strings.Repeat("move 1\n", impl.MaxLines))
	for range 200 {
		scripts = append(scripts, strings.Join(append(someScript(source, odd), ""), "\n"))
	}
	const bytesOfLines = "\n word lr,-0123\xff\x00\t"
	for range 200 {
		text := make([]byte, source.Intn(impl.MaxScript+20))
		for i := range text {
			text[i] = bytesOfLines[source.Intn(len(bytesOfLines))]
		}
		scripts = append(scripts, string(text), string(append(text, '\n')))
	}
	for _, script := range scripts {
		checkTotal(t, "RunScript", impl.RunScript, script)
		checkTotal(t, "DeskAfter", impl.DeskAfter, script)
		checkTotal(t, "FailedLines", impl.FailedLines, script)
	}
}

// TestPromise11OfDeskAnswers changes answers and looks whether arguments, other answers or later ones change with them.
func TestPromise11OfDeskAnswers(t *testing.T) {
	change := func(d impl.Desk) {
		for _, list := range [][]int{d.Triple, d.Quad} {
			for i := range list {
				list[i] = 9
			}
		}
	}
	asked := desk([]int{5, 13, 194}, []int{2, 3, 15, 38})
	for _, line := range []string{"show", "fly", "", "move 0", "move 9", "swap 0", "swap 9", "down", "fall", "triple 1,1,1", "quad 0,0,1,1", "word x", "curves 5"} {
		first, _, _ := impl.DeskLine(asked, line)
		second, reply, ok := impl.DeskLine(asked, line)
		want, told := byTable(tableLines(), asked, line)
		change(first)
		wantDesk(t, line, second, ok, want)
		wantText(t, line, reply, ok, told)
		wantDesk(t, "argument of "+line, asked, true, desk([]int{5, 13, 194}, []int{2, 3, 15, 38}))
	}
	change(impl.FirstDesk())
	wantDesk(t, "first desk", impl.FirstDesk(), true, freshDesk())
	for _, script := range []string{"", "show\n", "move 0\n", "swap 1\n", "fly\n"} {
		first, _ := impl.DeskAfter(script)
		second, ok := impl.DeskAfter(script)
		want, _ := byTable(tableLines(), freshDesk(), strings.TrimSuffix(script, "\n"))
		change(first)
		wantDesk(t, script, second, ok, want)
		again, ok := impl.DeskAfter(script)
		wantDesk(t, script, again, ok, want)
	}
	replies, _ := impl.RunScript("show\nfly\n")
	replies[0], replies[1] = "x", "y"
	replies, ok := impl.RunScript("show\nfly\n")
	wantTexts(t, "show, fly", replies, ok, []string{"1,1,1 -1,2,2,3", "what"})
	numbers, _ := impl.FailedLines("show\nfly\n")
	numbers[0] = 9
	numbers, ok = impl.FailedLines("show\nfly\n")
	wantList(t, "show, fly", numbers, ok, []int{2})
	if !reflect.DeepEqual(asked, desk([]int{5, 13, 194}, []int{2, 3, 15, 38})) {
		t.Error("the argument is changed:", asked)
	}
}
