package tests

import (
	"fmt"
	"maps"
	"regexp"
	"slices"
	"strings"

	"loop.example/measuredsorts/impl"
)

// stackModel: the first greatest key leaves last, behind all others as they leave a stack, those ahead of it first.
func stackModel(keys []int) []int {
	if len(keys) == 0 {
		return nil
	}
	greatest := slices.Index(keys, slices.Max(keys))
	return slices.Concat(stackModel(keys[:greatest]), stackModel(keys[greatest+1:]), keys[greatest:greatest+1])
}

// popModel sorts the indices by how many pieces are ahead, and those in one piece from the last one on.
func popModel(keys []int) []int {
	pieces, indices := make([]int, len(keys)), ascending(len(keys))
	for i := 1; i < len(keys); i++ {
		pieces[i] = pieces[i-1]
		if keys[i] >= keys[i-1] {
			pieces[i]++
		}
	}
	slices.SortFunc(indices, func(i, j int) int {
		if pieces[i] != pieces[j] {
			return pieces[i] - pieces[j]
		}
		return j - i
	})
	return at(keys, indices)
}

// passesModel returns how often a pass is done until the keys are sorted; 1000 if it is too often.
func passesModel(keys []int, pass func([]int) []int) int {
	for count := range impl.MaxKeys * impl.MaxKeys {
		if sorted(keys) {
			return count
		}
		keys = pass(keys)
	}
	return 1000
}

// anyThree reports whether three of the numbers, in their order, are so.
func anyThree(numbers []int, so func(first, second, third int) bool) bool {
	for k := range numbers {
		for j := range k {
			for i := range j {
				if so(numbers[i], numbers[j], numbers[k]) {
					return true
				}
			}
		}
	}
	return false
}

// isMoves reports whether the text is moves: those of a number that is put and leaves at once are cut out, until there are none.
func isMoves(s string) bool {
	if len(s) > 2*impl.MaxKeys {
		return false
	}
	for strings.Contains(s, "io") {
		s = strings.ReplaceAll(s, "io", "")
	}
	return s == ""
}

// movesModel returns all moves of n letters i: up to the return of the first number, and behind it.
func movesModel(n int) []string {
	if n == 0 {
		return []string{""}
	}
	var texts []string
	for inside := range n {
		for _, first := range movesModel(inside) {
			for _, second := range movesModel(n - 1 - inside) {
				texts = append(texts, "i"+first+"o"+second)
			}
		}
	}
	return texts
}

// orderModel returns for each o of the moves the number of the i that it belongs to, which is the last one with as many of both in between.
func orderModel(moves string) []int {
	var order []int
	for at, letter := range moves {
		if letter != 'o' {
			continue
		}
		from := at - 1
		for strings.Count(moves[from:at+1], "i") < strings.Count(moves[from:at+1], "o") {
			from--
		}
		order = append(order, strings.Count(moves[:from], "i"))
	}
	return order
}

// textsOf returns all texts of n of the letters.
func textsOf(n int, letters string) []string {
	texts := []string{""}
	for range n {
		var longer []string
		for _, text := range texts {
			for i := range letters {
				longer = append(longer, text+letters[i:i+1])
			}
		}
		texts = longer
	}
	return texts
}

// someTextsOfMoves returns texts that are moves and texts that are not: all of at most 6 letters i, o and x, all of i and o of each
// length up to one more than moves may have, and moves of more letters.
func someTextsOfMoves() []string {
	var texts []string
	for n := range 7 {
		texts = append(texts, textsOf(n, "iox")...)
	}
	for n := 7; n <= 2*impl.MaxKeys+1; n++ {
		texts = append(texts, textsOf(n, "io")...)
	}
	return append(texts, movesModel(impl.MaxKeys+1)...)
}

// badMoves returns texts that are no moves.
func badMoves() []string {
	bad := []string{
		"i", "o", "oi", "ii", "oo", "iio", "ioo", "ioi", "oio", "iooi", "ooii", "oiio", "ioioo", "iiooo", "iioooi", "IO", "Io", "iO", "i o", " io", "io ", "io\n",
		"ix", "ixo", "xio", "iox", "i\x00o", "\x00", "i\xffo", "\u0131o", "i\u043e", "io,io", "put", "()", "-", "iiiiiiiiiooooooooo", "ioioioioioioioioio",
		strings.Repeat("i", 16), strings.Repeat("o", 16), strings.Repeat("i", 17), strings.Repeat("io", 1000), strings.Repeat("i", 1000) + strings.Repeat("o", 1000),
	}
	full := strings.Repeat("i", impl.MaxKeys) + strings.Repeat("o", impl.MaxKeys)
	for at := range full { // the letter that is another one, that is missing, or that is one too many, at each place
		bad = append(bad, full[:at]+"x"+full[at+1:], full[:at]+full[at+1:], full[:at]+"i"+full[at:], full[:at]+"o"+full[at:], full[:at]+"io"+full[at:])
	}
	return bad
}

// badNumbers returns numbers of which not each of 0, 1, and so on comes once, or that are too many.
func badNumbers() [][]int {
	bad := [][]int{
		{1}, {-1}, {0, 0}, {1, 1}, {0, 2}, {2, 0}, {1, 2}, {-1, 0}, {0, -1}, {0, 1, 1}, {1, 0, 1}, {2, 1, 2}, {1 << 62}, {0, 1<<63 - 1}, {-1 << 63, 0},
		{1, 2, 3, 4, 5, 6, 7, 8}, {0, 1, 2, 3, 4, 5, 6, 8}, {0, 1, 2, 3, 4, 5, 6, 6}, {8, 0, 1, 2, 3, 4, 5, 6}, {7, 7, 7, 7, 7, 7, 7, 7},
		ascending(impl.MaxKeys + 1), turned(ascending(impl.MaxKeys + 1)), ascending(1000), make([]int, impl.MaxKeys), make([]int, 1000),
	}
	for at := range impl.MaxKeys { // the number that is another one, at each place
		for _, number := range []int{-1, impl.MaxKeys, 1 << 40} {
			numbers := ascending(impl.MaxKeys)
			numbers[at] = number
			bad = append(bad, numbers)
		}
	}
	return bad
}

// writtenKeys returns the text of the keys, as the standard library writes them.
func writtenKeys(keys []int) string {
	var texts []string
	for _, key := range keys {
		texts = append(texts, fmt.Sprintf("%d", key))
	}
	return strings.Join(texts, ",")
}

// keysPattern is what texts of at least one key look like.
var keysPattern = regexp.MustCompile(`^(0|-?[1-9][0-9]?)(,(0|-?[1-9][0-9]?)){0,7}$`)

// isKeysText reports whether the text is that of keys.
func isKeysText(s string) bool {
	return s == "" || keysPattern.MatchString(s)
}

// readKeys returns the keys of a text that is that of keys.
func readKeys(s string) []int {
	var keys []int
	for _, text := range strings.FieldsFunc(s, func(letter rune) bool { return letter == ',' }) {
		key := 0
		fmt.Sscan(text, &key)
		keys = append(keys, key)
	}
	return keys
}

// badTexts returns texts without spaces that are not those of keys.
func badTexts() []string {
	return []string{
		"100", "-100", "1,", ",1", ",", "1,,2", "1,2,", "-0", "0,-0", "00", "01", "-01", "1,02", "+1", "1,+2", "+0",
		"--1", "-", "1,-", "-,1", "1-", "1.0", "1.", ".5", "1e1", "0x1", "0b1", "1_0", "_1",
		"x", "1,x", "x,1", "1;2", "1,2;", "[1]", "nil", "wrong", "1\n", "\n1", "1,\t2", "1\t", "\n", "\t", "\x00", "1\x00", "\xff", "\u0663", "\uff11", "\u22121", "1\u00a0",
		"1,1,1,1,1,1,1,1,1", "1,2,3,4,5,6,7,100", "-100,2,3,4,5,6,7,8", "9223372036854775807", "9223372036854775808", "-9223372036854775808", "18446744073709551617",
		strings.Repeat("1,", 1000) + "1", strings.Repeat("0", 1000), strings.Repeat(",", 1000), strings.Repeat("9", 1000),
	}
}

// spacedTexts returns texts with spaces.
func spacedTexts() []string {
	return []string{" ", "  ", " 1", "1 ", "1, 2", "1 2", "1 ,2", "x y", "100 ", " 100", "1,2 3,4", "- 1", " x", "\t ", "1,2 "}
}

// someTexts returns texts that are those of keys and texts that are not: all of at most 5 letters of a few, those of some keys, and wrong ones.
func someTexts() []string {
	var texts []string
	for n := range 6 {
		texts = append(texts, textsOf(n, "0195-,+ ")...)
	}
	for _, keys := range mixedKeys(200) {
		for n := range len(keys) + 1 {
			texts = append(texts, writtenKeys(keys[:n]), writtenKeys(keys[:n])+",", ","+writtenKeys(keys[:n]), writtenKeys(keys[:n])+"0")
		}
		texts = append(texts, writtenKeys(keys)+",0")
	}
	return slices.Concat(texts, badTexts(), spacedTexts())
}

// listWords are the words of a desk that are answered by lists, each with its rule.
var listWords = map[string]func(keys []int) []int{
	"sort":  func(keys []int) []int { return slices.Sorted(slices.Values(keys)) },
	"stack": stackModel,
	"pop":   popModel,
	"rise":  func(keys []int) []int { return bestRow(keys, func(ahead, key int) bool { return key >= ahead }) },
}

// deskWords returns all words of a desk.
func deskWords() []string {
	words := slices.AppendSeq(slices.Collect(maps.Keys(named)), maps.Keys(listWords))
	slices.Sort(words)
	return words
}

// noWords are words that no desk knows.
var noWords = []string{
	"", "walk", "Sort", "SORT", "sorts", "sor", "sort,", "sort\t", "stacks", "StackPass", "pops", "rises", "inversion", "Runs", "measure", "wrong", "what",
	"1", "-", "\n", "sort\n", "\x00sort", "\nsort",
}

// answerModel returns the answer to a line of the word, a space and the text.
func answerModel(word, text string) string {
	measure, list := named[word], listWords[word]
	switch {
	case measure == nil && list == nil || strings.Contains(text, " "):
		return "what"
	case !isKeysText(text):
		return "wrong"
	case list != nil:
		return writtenKeys(list(readKeys(text)))
	default:
		return writtenKeys([]int{measure(readKeys(text))})
	}
}

// someLines returns lines of all words, and others, with texts of all kinds, and lines without a space.
func someLines() []string {
	texts := slices.Concat([]string{""}, badTexts(), spacedTexts())
	for i, keys := range mixedKeys(40) {
		texts = append(texts, writtenKeys(keys[:i/4%(impl.MaxKeys+1)]))
	}
	lines := slices.Concat([]string{"", " ", "  ", "\n", "1,2", "sort1", "sort\t1", "sort,1", "sort:1", "help", "sort\n1,2"}, deskWords(), noWords)
	for _, word := range slices.Concat(deskWords(), noWords) {
		for _, text := range texts {
			lines = append(lines, word+" "+text)
		}
	}
	return lines
}
