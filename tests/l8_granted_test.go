package tests

import (
	"iter"
	"math/rand"
	"slices"
	"strings"
	"testing"

	"loop.example/openissues/impl"
)

// changesOf tells of each set what a loaded sentence changes it to, -1 where it makes no sense; nil for texts that are none. It takes sentences apart from outside, at signs and brackets that stand in no inner brackets.
func changesOf(things int, text string) []int {
	switch {
	case worldsByThings[things] == 0 || text == "" || len(text) > 60:
		return nil
	case text[0] == '!':
		return changesByNot(changesOf(things, text[1:]))
	case text[0] == '[':
		granted, second := takenForGranted(text)
		return changesByBoth(changesOf(things, granted), changesOf(things, second), func(set int, granted []int, second []int) int {
			if granted[set] != set {
				return -1
			}
			return second[set]
		})
	case text[0] == '(' && text[len(text)-1] == ')':
		first, sign, second := loadedApart(text)
		return changesByBoth(changesOf(things, first), changesOf(things, second), joinedChange(sign))
	}
	return changesByWord(things, text)
}

func changesByWord(things int, text string) []int {
	thing := slices.Index([]string{"a", "b", "c"}[:things], text)
	if thing < 0 && text != "0" && text != "1" {
		return nil
	}
	changes := make([]int, setsFor(things))
	for set := range changes {
		for world := range worldsByThings[things] {
			if has(set, world) && (text == "1" || thing >= 0 && has(world, thing)) {
				changes[set] += 1 << world
			}
		}
	}
	return changes
}

func changesByNot(without []int) []int {
	changes := slices.Clone(without)
	for set, left := range without {
		if left >= 0 {
			changes[set] = set - left
		}
	}
	return changes
}

func changesByBoth(first []int, second []int, change func(set int, first []int, second []int) int) []int {
	if first == nil || second == nil {
		return nil
	}
	changes := make([]int, len(first))
	for set := range changes {
		changes[set] = change(set, first, second)
	}
	return changes
}

// joinedChange goes by the words of the document for a sign between two sentences.
func joinedChange(sign byte) func(set int, first []int, second []int) int {
	return func(set int, first []int, second []int) int {
		left := first[set]
		switch {
		case left < 0:
			return -1
		case sign == '&':
			return second[left]
		case sign == '|' && second[set-left] >= 0:
			return left + second[set-left]
		case sign == '>' && second[left] >= 0:
			return set - left + second[left]
		}
		return -1
	}
}

// takenForGranted returns what is in the square brackets with which a text begins, and what is behind them; nothing if there is no other bracket.
func takenForGranted(text string) (granted string, second string) {
	depth := 0
	for i := range len(text) {
		depth += deeper(text[i])
		if depth == 0 && text[i] == ']' {
			return text[1:i], text[i+1:]
		}
		if depth == 0 {
			break
		}
	}
	return "", ""
}

// loadedApart returns what is in the round brackets of a text before and behind the first sign that stands in no inner brackets, and the sign; nothing if there is none.
func loadedApart(text string) (first string, sign byte, second string) {
	depth := 0
	for i := range len(text) {
		depth += deeper(text[i])
		if depth == 1 && strings.IndexByte("&|>", text[i]) >= 0 {
			return text[1:i], text[i], text[i+1 : len(text)-1]
		}
	}
	return "", 0, ""
}

func deeper(bracket byte) int {
	switch bracket {
	case '(', '[':
		return 1
	case ')', ']':
		return -1
	}
	return 0
}

// verdict is what becomes of a world alone: it is left, or not, or the sentence makes no sense for it.
type verdict int

const (
	isLeft verdict = iota
	isGone
	isSenseless
)

// verdictIn tells what becomes of a world alone by a loaded sentence, from the verdicts of its parts, as far as they are asked for.
func verdictIn(world int, text string) verdict {
	switch text[0] {
	case '0', '1', 'a', 'b', 'c':
		if text == "1" || text != "0" && has(world, int(text[0]-'a')) {
			return isLeft
		}
		return isGone
	case '!':
		return []verdict{isGone, isLeft, isSenseless}[verdictIn(world, text[1:])]
	case '[':
		granted, second := takenForGranted(text)
		if verdictIn(world, granted) != isLeft {
			return isSenseless
		}
		return verdictIn(world, second)
	}
	first, sign, second := loadedApart(text)
	told := verdictIn(world, first)
	if told == isSenseless || sign == '&' && told == isGone || sign == '|' && told == isLeft {
		return told
	}
	if sign == '>' && told == isGone {
		return isLeft
	}
	return verdictIn(world, second)
}

// verdictsOf returns the worlds for which a loaded sentence makes sense, and those that it leaves.
func verdictsOf(things int, text string) (needed int, left int) {
	for world := range worldsByThings[things] {
		switch verdictIn(world, text) {
		case isLeft:
			needed += 1 << world
			left += 1 << world
		case isGone:
			needed += 1 << world
		}
	}
	return needed, left
}

// shortLoaded are all loaded sentences of up to so many bytes.
func shortLoaded(things int, longest int) []string {
	byLength := [][]string{nil, []string{"0", "1", "a", "b", "c"}[:2+things]}
	for length := 2; length <= longest; length++ {
		var list []string
		for _, without := range byLength[length-1] {
			list = append(list, "!"+without)
		}
		for size := 1; size < length-2; size++ {
			for _, first := range byLength[size] {
				for _, second := range byLength[length-2-size] {
					list = append(list, "["+first+"]"+second)
				}
			}
		}
		for size := 1; size < length-3; size++ {
			for _, first := range byLength[size] {
				for _, second := range byLength[length-3-size] {
					list = append(list, "("+first+"&"+second+")", "("+first+"|"+second+")", "("+first+">"+second+")")
				}
			}
		}
		byLength = append(byLength, list)
	}
	return slices.Concat(byLength...)
}

// randomLoaded returns a loaded sentence of just so many bytes.
func randomLoaded(source *rand.Rand, things int, length int) string {
	if length == 1 {
		return string("01abcabcabc"[source.Intn(2+things)])
	}
	kind := source.Intn(9)
	if length < 4 || kind == 0 {
		return "!" + randomLoaded(source, things, length-1)
	}
	if length == 4 || kind < 3 {
		size := 1 + source.Intn(length-3)
		return "[" + randomLoaded(source, things, size) + "]" + randomLoaded(source, things, length-2-size)
	}
	size := 1 + source.Intn(length-4)
	first, second := randomLoaded(source, things, size), randomLoaded(source, things, length-3-size)
	return "(" + first + string("&|>"[source.Intn(3)]) + second + ")"
}

// sensibleLoaded are loaded sentences of any length that make sense for some worlds, and take something for granted; most random ones make sense nowhere.
func sensibleLoaded(things int) []string {
	var list []string
	source := rand.New(rand.NewSource(int64(800 + things)))
	for len(list) < 400 {
		s := randomLoaded(source, things, 4+source.Intn(57))
		if needed, _ := verdictsOf(things, s); needed > 0 && strings.Contains(s, "[") {
			list = append(list, s)
		}
	}
	return list
}

// grantingNothing are loaded sentences that take for granted what is never so, what is always so, and what itself takes something for granted.
func grantingNothing(things int) []string {
	list := []string{"[0]a", "[0]0", "[0]1", "[!1]a", "[(a&!a)]a", "[!(a>a)]1", "[1]a", "[1]0", "[1]1", "[!0]a", "[(a|!a)]a", "[(a>a)]!a", "[[1]a]a", "[[a]1]a", "[[a]a]a", "[[0]a]a", "[[a]0]1", "[[a]!a]1", "[[[a]a]1]a", "[a][a]a", "[a][!a]a", "[!a][a]1", "[![a]1]a", "[![a]0]a", "[a]!a", "[[[[1]1]1]1]a"}
	if things > 1 {
		list = append(list, "[[a]b]1", "[[a]b]a", "[a][b]1", "[a][b]!a", "[[a]b][b]a", "[[a]!b]!b", "[(a&[a]b)]1", "[(a|[!a]b)]b", "[(a>[a]b)]a", "[([a]b|1)]b", "![[a]b]a")
	}
	if things > 2 {
		list = append(list, "[[a]b]c", "[a][b]c", "[[[a]b]c]1", "[(a&[a]b)][b]c", "[([a]b&c)]!b", "[c][(a|b)]!a")
	}
	return list
}

// bracketsUnderSigns have square brackets under an exclamation mark, behind the other signs, and in the first part of each.
func bracketsUnderSigns(things int) []string {
	list := []string{"![a]1", "!![a]a", "![a]!a", "(a&[a]1)", "(1&[a]1)", "(!a&[a]1)", "([a]1&a)", "([a]1&!a)", "(a|[a]1)", "(!a|[a]1)", "(1|[a]1)", "(0|[a]1)", "([a]1|a)", "([a]0|a)", "(a>[a]1)", "(!a>[a]1)", "(0>[0]1)", "(1>[a]a)", "([a]1>a)", "([a]0>a)", "([a]1>[a]a)", "(a&(a&[a]a))", "!(a&[a]!a)", "((a|!a)&[(a|!a)]a)", "((a&[a]1)|[!a]0)", "((a>[a]0)&[!a]1)", "!(!a|[a]0)", "[(a&[a]1)]1"}
	if things > 1 {
		list = append(list, "[a]b", "[a]!b", "![a]b", "(a&[a]b)", "(b&[a]b)", "([a]b&b)", "(!a|[a]b)", "(b|[a]b)", "([a]b|b)", "([a]b|[b]a)", "(b>[a]b)", "(a>[a]b)", "([a]b>b)", "!([a]b&b)", "((a&b)&[a]b)", "((a|b)>[a]b)", "(!(a&b)|[a][b]1)", "((a&[a]b)>[b]a)", "!(a>[a]b)", "([a]b>[b]a)", "(a&(b&[(a&b)]1))", "([a]1&[b]1)", "([a]1|[b]1)")
	}
	if things > 2 {
		list = append(list, "[a](b&c)", "(a&[b]c)", "(a|[b]c)", "(a>[b]c)", "(a&(b>[(a&b)]c))", "((a&b)>[a][b]c)", "([a]b|[!b]c)", "!([c]a>[a]b)", "((a|b)|[!(a|b)]c)", "[a](!b|[b]c)", "([a]b&[(a&b)]c)")
	}
	return list
}

// longLoaded are of just MaxText bytes, or a little shorter.
func longLoaded(things int) []string {
	last := string("abc"[things-1])
	list := []string{
		strings.Repeat("!", 59) + last, strings.Repeat("!", 56) + "[a]" + last, strings.Repeat("[1]", 19) + "!!" + last, strings.Repeat("[a]", 18) + "![a]" + last, strings.Repeat("["+last+"]", 19) + last,
		nested("[", "a", "]"+last), nested("[", "1", "]a"), nested("(", "a", "&"+last+")"), nested("(a&", "a", ")"), nested("(a>[a]", last, ")"), nested("(!a|[a]", last, ")"), nested("!(", "[a]1", ">"+last+")"), nested("[a](", last, "|0)"), nested("[(", "a", "&a)]1"), nested("(", "[a]a", "|"+last+")"),
	}
	source := rand.New(rand.NewSource(int64(860 + things)))
	for range 60 {
		list = append(list, randomLoaded(source, things, 60))
	}
	return list
}

// sampleLoaded are short loaded sentences, edge cases, and loaded sentences of every length.
func sampleLoaded(things int) []string {
	list := slices.Concat(shortLoaded(things, 6), grantingNothing(things), bracketsUnderSigns(things), longLoaded(things), sensibleLoaded(things))
	source := rand.New(rand.NewSource(int64(8 * things)))
	for length := 1; length <= 60; length++ {
		for range 4 {
			list = append(list, randomLoaded(source, things, length))
		}
	}
	return list
}

// loadedToPair are fewer loaded sentences than sampleLoaded, for tests of every two.
func loadedToPair(things int) []string {
	return slices.Concat(shortLoaded(things, 4), grantingNothing(things), bracketsUnderSigns(things), sensibleLoaded(things)[:80])
}

// sampledLoaded yields each loaded sentence of sampleLoaded, for 1, 2 and 3 things.
func sampledLoaded() iter.Seq2[int, string] {
	return func(yield func(int, string) bool) {
		for things := 1; things <= 3; things++ {
			for _, s := range sampleLoaded(things) {
				if !yield(things, s) {
					return
				}
			}
		}
	}
}

// refusesLoaded checks that a text is taken by no function of the chapter.
func refusesLoaded(t *testing.T, things int, text string) {
	t.Helper()
	if impl.LoadedOk(things, text) || impl.Neutral(things, text) {
		t.Fatalf("%d things: %q is taken for a loaded sentence", things, text)
	}
	for _, set := range []int{0, 1, 3, -1} {
		if got, ok := impl.ChangedBy(things, set, text); got != -1 || ok {
			t.Fatalf("ChangedBy(%d, %d, %q) = %d, %v", things, set, text, got, ok)
		}
	}
	if needed, left := impl.NeededBy(things, text), impl.LeftBy(things, text); needed != -1 || left != -1 {
		t.Fatalf("%d things: %q needs %d, and leaves %d", things, text, needed, left)
	}
}

// checkChange checks what a set is changed to, -1 for no sense.
func checkChange(t *testing.T, things int, set int, text string, wanted int) {
	t.Helper()
	if got, ok := impl.ChangedBy(things, set, text); got != wanted || ok != (wanted >= 0) {
		t.Fatalf("ChangedBy(%d, %d, %q) = %d, %v, not %d", things, set, text, got, ok, wanted)
	}
}

// checkNeeds checks for which worlds a loaded sentence makes sense, and which it leaves.
func checkNeeds(t *testing.T, things int, text string, needed int, left int) {
	t.Helper()
	if !impl.LoadedOk(things, text) {
		t.Fatalf("LoadedOk(%d, %q) = false", things, text)
	}
	if got := impl.NeededBy(things, text); got != needed {
		t.Fatalf("NeededBy(%d, %q) = %d, not %d", things, text, got, needed)
	}
	if got := impl.LeftBy(things, text); got != left {
		t.Fatalf("LeftBy(%d, %q) = %d, not %d", things, text, got, left)
	}
	if got := impl.Neutral(things, text); got != (needed == setsFor(things)-1) {
		t.Fatalf("Neutral(%d, %q) = %v, and it needs %d", things, text, got, needed)
	}
}

// checkLoaded checks what is told of a text, be it a loaded sentence or not.
func checkLoaded(t *testing.T, things int, text string) {
	t.Helper()
	changes := changesOf(things, text)
	if changes == nil {
		refusesLoaded(t, things, text)
		return
	}
	for set := 0; set < len(changes); set += 1 + set/32 {
		checkChange(t, things, set, text, changes[set])
	}
	needed, left := verdictsOf(things, text)
	checkNeeds(t, things, text, needed, left)
}

func TestLoadedSentencesToTestAreLoaded(t *testing.T) {
	for things, s := range sampledLoaded() {
		if len(s) > 60 || changesOf(things, s) == nil {
			t.Fatalf("%d things: %q", things, s)
		}
	}
	for things := 1; things <= 3; things++ {
		for _, s := range longLoaded(things) {
			if len(s) < 54 {
				t.Fatalf("%d things: %q has only %d bytes", things, s, len(s))
			}
		}
	}
}

func TestChangedByExamples(t *testing.T) {
	examples := []struct {
		things int
		set    int
		text   string
		left   int
	}{
		{1, 3, "1", 3}, {1, 2, "1", 2}, {1, 3, "0", 0}, {1, 3, "a", 2}, {1, 1, "a", 0}, {1, 3, "!a", 1}, {1, 2, "!!a", 2},
		{1, 3, "[a]1", -1}, {1, 2, "[a]1", 2}, {1, 1, "[a]1", -1}, {1, 0, "[a]1", 0}, {1, 2, "[a]!a", 0}, {1, 3, "[1]a", 2}, {1, 0, "[0]a", 0}, {1, 1, "[0]a", -1},
		{2, 15, "b", 12}, {2, 7, "b", 4}, {2, 15, "!b", 3}, {2, 6, "!b", 2}, {3, 255, "c", 240}, {3, 60, "!c", 12},
		{2, 15, "(a&b)", 8}, {2, 15, "(a|b)", 14}, {2, 15, "(a>b)", 13}, {2, 7, "(a>b)", 5}, {2, 7, "(a|b)", 6}, {2, 7, "!(a|b)", 1},
		{2, 10, "[a]b", 8}, {2, 15, "[a]b", -1}, {2, 2, "[a]b", 0}, {2, 8, "[a]b", 8}, {2, 12, "[a]b", -1}, {2, 10, "![a]b", 2}, {2, 15, "![a]b", -1}, {2, 10, "!![a]b", 8},
		// The first one tells what is taken for granted, or the others are where it is.
		{2, 15, "(a&[a]b)", 8}, {2, 15, "(b&[a]b)", -1}, {2, 11, "(b&[a]b)", 8}, {2, 15, "([a]b&a)", -1}, {2, 10, "([a]b&a)", 8}, {2, 15, "(0&[a]b)", 0}, {2, 5, "(a&[0]b)", 0},
		{2, 15, "(!a|[a]b)", 13}, {2, 15, "(a|[a]b)", -1}, {2, 10, "(a|[a]b)", 10}, {2, 15, "(1|[0]b)", 15}, {2, 15, "([a]b|!a)", -1}, {2, 10, "([a]b|!a)", 8}, {2, 10, "([a]b|[a]!b)", 10},
		{2, 15, "(a>[a]b)", 13}, {2, 15, "(b>[a]b)", -1}, {2, 11, "(b>[a]b)", 11}, {2, 10, "([a]b>a)", 10}, {2, 15, "([a]b>a)", -1}, {2, 15, "(0>[0]b)", 15}, {2, 10, "([a]b>[b]!a)", 2},
		// A part makes no sense, though the whole set does for what goes before.
		{2, 15, "(1&[a]b)", -1}, {2, 15, "!(b&[a]b)", -1}, {2, 15, "[(b&[a]1)]1", -1}, {2, 15, "((b&[a]1)|1)", -1}, {2, 15, "((a|b)&[(a&b)]1)", -1}, {2, 15, "(0|[a]b)", -1}, {2, 15, "(1>(b>[a]1))", -1},
		{2, 10, "[a](b&[!b]1)", -1}, {2, 2, "[a](b&[!b]1)", 0},
		// What is taken for granted takes something for granted, too.
		{3, 255, "[[a]b]c", -1}, {3, 170, "[[a]b]c", -1}, {3, 204, "[[a]b]c", -1}, {3, 136, "[[a]b]c", 128}, {3, 136, "[a][b]c", 128}, {3, 170, "[a][b]c", -1}, {3, 255, "((a&b)>[[a]b]c)", 247}, {3, 255, "(a&(b&[[a]b]c))", 128}, {2, 10, "[![a]b]1", -1}, {2, 2, "[![a]b]1", 2},
	}
	for _, e := range examples {
		checkChange(t, e.things, e.set, e.text, e.left)
	}
}

func TestNeededByAndLeftByExamples(t *testing.T) {
	examples := []struct {
		things int
		text   string
		needed int
		left   int
	}{
		{1, "1", 3, 3}, {1, "0", 3, 0}, {1, "a", 3, 2}, {1, "!a", 3, 1}, {1, "[a]a", 2, 2}, {1, "[a]!a", 2, 0}, {1, "[0]1", 0, 0}, {1, "[1]a", 3, 2}, {1, "[!a]1", 1, 1}, {1, "(a>[a]a)", 3, 3}, {1, "(a|[a]1)", 2, 2}, {1, "[a][!a]1", 0, 0},
		{2, "[a]b", 10, 8}, {2, "![a]b", 10, 2}, {2, "(a&[a]b)", 15, 8}, {2, "(b&[a]b)", 11, 8}, {2, "([a]b&b)", 10, 8}, {2, "!([a]b&b)", 10, 2}, {2, "(!a|[a]b)", 15, 13}, {2, "(b|[a]b)", 14, 12}, {2, "([a]b|b)", 10, 8}, {2, "(a>[a]b)", 15, 13}, {2, "(b>[a]b)", 11, 11}, {2, "([a]b>b)", 10, 10}, {2, "([a]1&[b]1)", 8, 8}, {2, "([a]1|[b]1)", 10, 10}, {2, "([a]0|[b]1)", 8, 8}, {2, "(a>b)", 15, 13}, {2, "[a][b]1", 8, 8}, {2, "[[a]b]1", 8, 8}, {2, "[![a]b]1", 2, 2},
		{3, "[[a]b]c", 136, 128}, {3, "[(a|b)]c", 238, 224}, {3, "((a&b)>[[a]b]c)", 255, 247}, {3, "(c|[a]b)", 250, 248}, {3, "(c&[a]b)", 175, 128},
	}
	for _, e := range examples {
		checkNeeds(t, e.things, e.text, e.needed, e.left)
	}
}

func TestLoadedSentences(t *testing.T) {
	for things, s := range sampledLoaded() {
		checkLoaded(t, things, s)
		for set, left := range changesOf(things, s) {
			checkChange(t, things, set, s, left)
		}
		for _, set := range wrongSets(things) {
			checkChange(t, things, set, s, -1)
		}
	}
}

func TestAllLoadedSentencesOfUpToSevenBytes(t *testing.T) {
	for things := 1; things <= 3; things++ {
		for _, s := range shortLoaded(things, 7) {
			checkLoaded(t, things, s)
		}
	}
}

func TestAllShortTextsAreLoadedOrNot(t *testing.T) {
	for things := 1; things <= 3; things++ {
		for text := range textsOf("01abcd!?()&|>[] \x00\xff", 4) {
			checkLoaded(t, things, text)
		}
		for text := range textsOf("a0!()&>[]", 5) {
			checkLoaded(t, things, text)
		}
		for text := range textsOf("a![]", 7) {
			checkLoaded(t, things, text)
		}
	}
}

func TestEveryLoadedSentenceMakesSenseForNoWorlds(t *testing.T) {
	for things, s := range sampledLoaded() {
		checkChange(t, things, 0, s, 0)
	}
}

func TestLoadedSentencesThatLeaveNothing(t *testing.T) {
	for things := 1; things <= 3; things++ {
		all := setsFor(things) - 1
		for _, s := range []string{"0", "!1", "(a&!a)", "(a&[a]!a)", "[1]0", "[!0](a&!a)", "!(a>[a]1)", "!(a|[!a]1)", "(0|(0&[0]1))"} {
			checkNeeds(t, things, s, all, 0)
			checkNeeds(t, things, "!"+s, all, all)
			for set := range setsFor(things) {
				checkChange(t, things, set, s, 0)
				checkChange(t, things, set, "!"+s, set)
				checkChange(t, things, set, "("+s+"&[0]1)", 0)
				checkChange(t, things, set, "("+s+">[0]0)", set)
				checkChange(t, things, set, "("+s+"|a)", changesOf(things, "a")[set])
			}
		}
	}
}

func TestWhatIsTakenForGrantedIsNeverOrAlwaysSo(t *testing.T) {
	for things := 1; things <= 3; things++ {
		all := setsFor(things) - 1
		for _, s := range slices.Concat(shortLoaded(things, 4), bracketsUnderSigns(things)) {
			needed, left := verdictsOf(things, s)
			for _, never := range []string{"0", "!1", "(a&!a)", "[0]1", "[a]!a", "(a&[a]0)", "[0]0", "[1]0"} {
				checkNeeds(t, things, "["+never+"]"+s, 0, 0)
				checkChange(t, things, 0, "["+never+"]"+s, 0)
				for set := 1; set <= all; set++ {
					checkChange(t, things, set, "["+never+"]"+s, -1)
				}
			}
			for _, always := range []string{"1", "!0", "(a|!a)", "(a>a)", "[1]1", "(a>[a]1)", "(!a|[a]a)"} {
				checkNeeds(t, things, "["+always+"]"+s, needed, left)
				checkNeeds(t, things, "["+s+"]"+always, left, left)
			}
			checkNeeds(t, things, "("+s+">[0]1)", needed&(all-left), needed&(all-left))
		}
	}
}

func TestWhatIsTakenForGrantedTakesSomethingForGranted(t *testing.T) {
	for things := 1; things <= 3; things++ {
		sentences := loadedToPair(things)
		for i, granted := range sentences {
			for j := i % 5; j < len(sentences); j += 5 {
				_, told := verdictsOf(things, granted)
				needed, left := verdictsOf(things, sentences[j])
				if s := "[" + granted + "]" + sentences[j]; len(s) <= 60 {
					checkNeeds(t, things, s, told&needed, told&left)
				} else {
					refusesLoaded(t, things, s)
				}
			}
		}
	}
}

func TestP31ItMakesSenseForASetExactlyIfItDoesForEachWorld(t *testing.T) {
	for things, s := range sampledLoaded() {
		needed, left := impl.NeededBy(things, s), impl.LeftBy(things, s)
		for set := range setsFor(things) {
			changed, ok := impl.ChangedBy(things, set, s)
			if ok != isWithin(set, needed) {
				t.Fatalf("ChangedBy(%d, %d, %q) = %d, %v, and it needs %d", things, set, s, changed, ok, needed)
			}
			if ok && changed != set&left || !ok && changed != -1 {
				t.Fatalf("ChangedBy(%d, %d, %q) = %d, %v, and it leaves %d", things, set, s, changed, ok, left)
			}
		}
	}
}

func TestP31FewerWorldsAreChangedInTheSameWay(t *testing.T) {
	for things := 1; things <= 3; things++ {
		for _, s := range slices.Concat(shortLoaded(things, 5), bracketsUnderSigns(things), sensibleLoaded(things)[:100]) {
			for set := 0; set < setsFor(things); set += 1 + set/20 {
				changed, ok := impl.ChangedBy(things, set, s)
				for part := 0; ok && part <= set; part += 1 + set/20 {
					if got, partOk := impl.ChangedBy(things, set&part, s); !partOk || got != set&part&changed {
						t.Fatalf("ChangedBy(%d, %d, %q) = %d, %v, and %d for %d", things, set&part, s, got, partOk, changed, set)
					}
				}
			}
		}
	}
}

func TestP32ANotNeedsTheSame(t *testing.T) {
	for things, s := range sampledLoaded() {
		if len(s) == 60 {
			refusesLoaded(t, things, "!"+s)
			continue
		}
		if needed, not := impl.NeededBy(things, s), impl.NeededBy(things, "!"+s); needed != not {
			t.Fatalf("%d things: %q needs %d, and with an exclamation mark %d", things, s, needed, not)
		}
	}
}

func TestP32AndAndIfLetTheFirstOneSpeak(t *testing.T) {
	for things := 1; things <= 3; things++ {
		sentences := loadedToPair(things)
		for i, first := range sentences {
			needed, left := impl.NeededBy(things, first), impl.LeftBy(things, first)
			for j := i % 3; j < len(sentences); j += 3 {
				second := sentences[j]
				for _, s := range []string{"(" + first + "&" + second + ")", "(" + first + ">" + second + ")"} {
					if len(s) > 60 {
						refusesLoaded(t, things, s)
						continue
					}
					wanted := 0
					for world := range worldsByThings[things] {
						if has(needed, world) && (!has(left, world) || has(impl.NeededBy(things, second), world)) {
							wanted |= 1 << world
						}
					}
					if got := impl.NeededBy(things, s); got != wanted {
						t.Fatalf("NeededBy(%d, %q) = %d, not %d", things, s, got, wanted)
					}
				}
			}
		}
	}
}

// TestOrLetsTheFirstOneSpeakForTheOthers says of the vertical bar what P32 says of the other signs: what the second one needs is needed where the first one does not leave a world.
func TestOrLetsTheFirstOneSpeakForTheOthers(t *testing.T) {
	for things := 1; things <= 3; things++ {
		sentences := loadedToPair(things)
		for i, first := range sentences {
			needed, left := verdictsOf(things, first)
			for j := i % 5; j < len(sentences); j += 5 {
				secondNeeded, secondLeft := verdictsOf(things, sentences[j])
				if s := "(" + first + "|" + sentences[j] + ")"; len(s) <= 60 {
					checkNeeds(t, things, s, needed&(left|secondNeeded), left|needed&secondLeft)
				} else {
					refusesLoaded(t, things, s)
				}
			}
		}
	}
}

func TestP33WhatIsLeftIsNeeded(t *testing.T) {
	for things, s := range sampledLoaded() {
		needed, left := impl.NeededBy(things, s), impl.LeftBy(things, s)
		if needed < 0 || left < 0 || !isWithin(left, needed) {
			t.Fatalf("%d things: %q needs %d, and leaves %d", things, s, needed, left)
		}
		if len(s) == 60 {
			refusesLoaded(t, things, "!"+s)
		} else if not := impl.LeftBy(things, "!"+s); not != needed-left {
			t.Fatalf("%d things: %q needs %d, leaves %d, and with an exclamation mark %d", things, s, needed, left, not)
		}
	}
}

func TestP33WithoutSquareBracketsItIsTrueIn(t *testing.T) {
	for things := 1; things <= 3; things++ {
		plain := 0
		for _, s := range slices.Concat(sampleLoaded(things), sampleSentences(things)) {
			if strings.ContainsAny(s, "[?") {
				continue
			}
			plain++
			if left, so := impl.LeftBy(things, s), impl.TrueIn(things, s); left != so || left < 0 || !impl.Neutral(things, s) {
				t.Fatalf("LeftBy(%d, %q) = %d, and it is true in %d", things, s, left, so)
			}
		}
		if plain < 200 {
			t.Fatalf("%d things: only %d sentences without square brackets", things, plain)
		}
	}
}

func TestP34WhatWasToldIsNoLongerTakenForGranted(t *testing.T) {
	for things := 1; things <= 3; things++ {
		sentences := slices.DeleteFunc(loadedToPair(things), func(s string) bool { return !impl.Neutral(things, s) })
		for i, told := range sentences {
			for j := i % 4; j < len(sentences); j += 4 {
				second := "[" + told + "]" + sentences[j]
				for _, s := range []string{"(" + told + "&" + second + ")", "(" + told + ">" + second + ")", "(!" + told + "|" + second + ")"} {
					if len(s) > 60 {
						refusesLoaded(t, things, s)
					} else if !impl.Neutral(things, s) {
						t.Fatalf("Neutral(%d, %q) = false", things, s)
					}
				}
				if so := impl.LeftBy(things, told); len(second) <= 60 && impl.Neutral(things, second) != (so == setsFor(things)-1) {
					t.Fatalf("Neutral(%d, %q) = %v", things, second, so != setsFor(things)-1)
				}
			}
		}
	}
}

// TestP34AFirstSentenceMayTellMore takes first sentences that tell more than what is taken for granted, or less.
func TestP34AFirstSentenceMayTellMore(t *testing.T) {
	for things := 1; things <= 3; things++ {
		sentences := slices.DeleteFunc(shortLoaded(things, 5), func(s string) bool { return !impl.Neutral(things, s) })
		for i, first := range sentences {
			for j := i % 3; j < len(sentences); j += 3 {
				granted := sentences[j]
				tells := isWithin(impl.LeftBy(things, first), impl.LeftBy(things, granted))
				for _, sign := range []string{"&", ">"} {
					s := "(" + first + sign + "[" + granted + "]a)"
					if got := impl.Neutral(things, s); got != tells {
						t.Fatalf("Neutral(%d, %q) = %v", things, s, got)
					}
				}
			}
		}
	}
	if !impl.Neutral(3, "((a&b)>[a]c)") || !impl.Neutral(3, "((a&b)&[(a|c)][b]c)") || impl.Neutral(3, "((a|b)&[a]c)") || impl.Neutral(3, "(a&[a][b]c)") {
		t.Fatal("a first sentence tells more, or less")
	}
}

// checkNot checks that a text is a loaded sentence exactly if it is with an exclamation mark ahead.
func checkNot(t *testing.T, things int, text string) {
	t.Helper()
	if got, not := impl.LoadedOk(things, text), impl.LoadedOk(things, "!"+text); len(text) < 60 && got != not || len(text) >= 60 && not {
		t.Fatalf("LoadedOk(%d, %q) = %v, and with an exclamation mark %v", things, text, got, not)
	}
}

func TestP48NotGoesAhead(t *testing.T) {
	for things, s := range sampledLoaded() {
		checkNot(t, things, s)
		for at := 0; at < len(s); at += 3 {
			checkNot(t, things, s[:at]+s[at+1:])
			checkNot(t, things, s[:at])
		}
		if len(s) < 60 && !impl.LoadedOk(things, "!"+s) {
			t.Fatalf("LoadedOk(%d, %q) = false", things, "!"+s)
		}
	}
	for _, text := range wildTexts() {
		for _, things := range wildNumbers {
			checkNot(t, things, text)
		}
	}
	for things := 1; things <= 3; things++ {
		for text := range textsOf("a1!?([])&", 4) {
			checkNot(t, things, text)
		}
		for _, s := range []string{"a", "[a]1", "(a&a)", ""} {
			for range 70 {
				checkNot(t, things, s)
				s = "!" + s
			}
		}
	}
}

func TestLoadedSentencesOfJustMaxTextBytes(t *testing.T) {
	for things := 1; things <= 3; things++ {
		for _, s := range longLoaded(things) {
			for len(s) < 60 {
				s = "!" + s
			}
			checkLoaded(t, things, s)
			if !impl.LoadedOk(things, s) {
				t.Fatalf("LoadedOk(%d, %q) = false", things, s)
			}
			for _, more := range []string{"!", "[1]", "[a]", " ", "("} {
				refusesLoaded(t, things, more+s)
			}
			refusesLoaded(t, things, s+" ")
			refusesLoaded(t, things, "["+s+"]1")
			refusesLoaded(t, things, "("+s+"&a)")
		}
		source := rand.New(rand.NewSource(int64(861 + things)))
		for length := 61; length <= 200; length++ {
			refusesLoaded(t, things, randomLoaded(source, things, length))
		}
	}
}

func TestLoadedSentencesWithWrongNumbersOfThings(t *testing.T) {
	for _, things := range wrongThings {
		for _, s := range slices.Concat(shortLoaded(3, 5), longLoaded(3), bracketsUnderSigns(3), []string{"", "[", "(", "d"}) {
			refusesLoaded(t, things, s)
		}
	}
}

func TestLettersOfLoadedSentencesAreTheFirstOnes(t *testing.T) {
	for _, s := range []string{"b", "c", "!b", "[a]b", "[b]a", "[c]1", "![b]1", "(a&b)", "(b|a)", "(a>c)", "[[a]b]a", "[a](a&[b]a)", "(0&b)", "[0]c"} {
		refusesLoaded(t, 1, s)
		if !impl.LoadedOk(3, s) {
			t.Fatalf("LoadedOk(3, %q) = false", s)
		}
	}
	for _, s := range []string{"c", "!c", "[a]c", "[c]a", "[[c]a]b", "(a&[b]c)", "(c>b)", "([c]a|b)", "(1|c)", "[b][c]a"} {
		refusesLoaded(t, 2, s)
		if !impl.LoadedOk(3, s) {
			t.Fatalf("LoadedOk(3, %q) = false", s)
		}
	}
	for _, s := range []string{"d", "A", "z", "[d]a", "[a]d", "!d", "(a&d)", "([a]d>1)", "`", "[\u00e1]a", "[a]\u0430"} {
		for things := 1; things <= 3; things++ {
			refusesLoaded(t, things, s)
		}
	}
}

func TestSentencesWithQuestionMarksAreNotLoaded(t *testing.T) {
	for things, s := range sampled() {
		if !strings.Contains(s, "?") {
			checkLoaded(t, things, s)
			continue
		}
		refusesLoaded(t, things, s)
		refusesLoaded(t, things, "["+s+"]a")
		refusesLoaded(t, things, "[a]"+s)
		refusesLoaded(t, things, "!"+s)
	}
}

func TestLoadedTextsThatBreakOffOrGoOn(t *testing.T) {
	for things, s := range sampledLoaded() {
		for length := range len(s) {
			refusesLoaded(t, things, s[:length])
		}
		for _, more := range []string{"0", "a", "!", "?", "(", ")", "[", "]", "&", "|", ">", " ", "\n", "\x00", "&a", "]a", "[a]", "[a]b", s} {
			refusesLoaded(t, things, s+more)
		}
	}
}

func TestLoadedTextsWithABracketMissing(t *testing.T) {
	for things, s := range sampledLoaded() {
		for at := range len(s) {
			if strings.IndexByte("()[]", s[at]) >= 0 {
				refusesLoaded(t, things, s[:at]+s[at+1:])
			}
		}
	}
	for _, s := range []string{"[a", "[ab", "a]b", "[a]", "[]b", "[]", "[", "]", "[a]]b", "[[a]b", "[a]b]", "[a}b", "{a}b", "(a]b", "[a)b", "[(a]b)", "([a)b]", "(a&[b)]a", "[a&b)", "(a&b]", "[a&b]", "[a|b]a", "[a>b]", "<a>b", "[a] b", "[ a]b", "[a ]b", "[a]b ", "a[b]", "a[a]b", "(a[b]a)", "(a&b[a])", "([a]&b)", "([a]b)", "(a)", "((a&b))", "(a&b&a)", "(&b)", "(a&)", "!", "![a]", "[!]a", "[a]!", "()", "a&b", "ab", "[a,b]a", "[a][b]", "[?a]b", "[a]?b", "?[a]b"} {
		for things := 1; things <= 3; things++ {
			refusesLoaded(t, things, s)
		}
	}
}

func TestLoadedTextsWithOneByteChanged(t *testing.T) {
	for things := 1; things <= 3; things++ {
		for _, s := range slices.Concat(grantingNothing(things), bracketsUnderSigns(things), longLoaded(things)[:6]) {
			for at := range len(s) {
				for _, other := range []string{"", "0", "1", "a", "b", "c", "d", "A", "!", "?", "(", ")", "&", "|", ">", "[", "]", " ", "\x00", "\x80"} {
					checkLoaded(t, things, s[:at]+other+s[at+1:])
					checkLoaded(t, things, s[:at]+other+s[at:])
				}
			}
		}
	}
}

func TestEveryOtherByteIsRefusedInLoadedSentences(t *testing.T) {
	for other := range 256 {
		if strings.IndexByte("01abc!()&|>[]", byte(other)) >= 0 {
			continue
		}
		for _, s := range []string{"_", "!_", "_a", "a_", "[_a]b", "[a_b", "[a]_", "[a]b_", "_a]b", "(_a&b)", "(a_b)", "(a&_)", "(a&b_", "[_]b", "[a_]b"} {
			refusesLoaded(t, 3, strings.Replace(s, "_", string([]byte{byte(other)}), 1))
		}
	}
}

func TestWrongSetsAreNotChanged(t *testing.T) {
	for things := 1; things <= 3; things++ {
		for _, set := range slices.Concat(wrongSets(things), wildNumbers) {
			if isSet(things, set) {
				continue
			}
			for _, s := range []string{"1", "0", "a", "!0", "[1]1", "[a]a", "(a>[a]a)", "", "[", "?a"} {
				checkChange(t, things, set, s, -1)
			}
		}
	}
}

func TestLoadedSentencesNeverPanic(t *testing.T) {
	texts := wildTexts()
	for _, long := range []string{"[", "]", "[a]", "[1]!", "[a", "([", "![("} {
		texts = append(texts, strings.Repeat(long, 20), strings.Repeat(long, 60), strings.Repeat(long, 1<<20))
	}
	source := rand.New(rand.NewSource(888))
	for range 3000 {
		signs := make([]byte, source.Intn(70))
		for i := range signs {
			signs[i] = "01abc!([&|>])]"[source.Intn(14)]
		}
		texts = append(texts, string(signs))
	}
	for _, text := range texts {
		for _, things := range wildNumbers {
			impl.LoadedOk(things, text)
			impl.NeededBy(things, text)
			impl.LeftBy(things, text)
			impl.Neutral(things, text)
			for _, set := range wildNumbers {
				impl.ChangedBy(things, set, text)
			}
		}
	}
}
