package tests

import (
	"iter"
	"math/rand"
	"slices"
	"strings"
	"testing"

	"loop.example/openissues/impl"
)

// choosing tells of sentences all their resolutions, however many, and keeps what it found.
type choosing struct {
	things int
	found  map[string][]int
}

var choosingByThings = map[int]choosing{
	1: {1, map[string][]int{}},
	2: {2, map[string][]int{}},
	3: {3, map[string][]int{}},
}

// allResolutions returns the resolutions of a text, each once, in ascending order; nil for texts that are no sentences.
func allResolutions(things int, text string) []int {
	if meaningOf(things, text) == nil {
		return nil
	}
	return choosingByThings[things].of(text)
}

func (c choosing) of(s string) []int {
	if list, ok := c.found[s]; ok {
		return list
	}
	list := c.make(s)
	slices.Sort(list)
	list = slices.Compact(list)
	c.found[s] = list
	return list
}

func (c choosing) make(s string) []int {
	switch s[0] {
	case '!':
		return []int{c.inNoneOf(c.of(s[1:]))}
	case '?':
		return slices.Concat(c.of(s[1:]), []int{c.inNoneOf(c.of(s[1:]))})
	case '(':
		first, sign, second := takenApart(s)
		return c.joined(sign, c.of(first), c.of(second))
	}
	return []int{truthIn(c.things, meaningOf(c.things, s))}
}

// where is the set of the worlds for which something holds.
func (c choosing) where(holds func(world int) bool) int {
	set := 0
	for world := range worldsByThings[c.things] {
		if holds(world) {
			set |= 1 << world
		}
	}
	return set
}

func (c choosing) inNoneOf(sets []int) int {
	return c.where(func(world int) bool {
		return !slices.ContainsFunc(sets, func(set int) bool { return has(set, world) })
	})
}

func (c choosing) joined(sign byte, first []int, second []int) []int {
	var list []int
	switch sign {
	case '|':
		return slices.Concat(first, second)
	case '&':
		for _, one := range first {
			for _, other := range second {
				list = append(list, c.where(func(world int) bool { return has(one, world) && has(other, world) }))
			}
		}
		return list
	}
	seen := map[[2]int]bool{}
	var choose func(made int, left int)
	choose = func(made int, left int) {
		if seen[[2]int{made, left}] {
			return
		}
		seen[[2]int{made, left}] = true
		if made == len(first) {
			list = append(list, left)
			return
		}
		for _, chosen := range second {
			choose(made+1, left&c.where(func(world int) bool { return has(chosen, world) || !has(first[made], world) }))
		}
	}
	choose(0, c.where(func(int) bool { return true }))
	return list
}

// eachChoice yields, for each choice of one of the second sets for each one of the first sets, the chosen ones.
func eachChoice(first []int, second []int) iter.Seq[[]int] {
	return func(yield func([]int) bool) {
		at := make([]int, len(first))
		for {
			chosen := make([]int, len(first))
			for i := range chosen {
				chosen[i] = second[at[i]]
			}
			if !yield(chosen) {
				return
			}
			turn := 0
			for turn < len(at) && at[turn] == len(second)-1 {
				at[turn] = 0
				turn++
			}
			if turn == len(at) {
				return
			}
			at[turn]++
		}
	}
}

// withinConditions are conditions within conditions.
func withinConditions(things int) []string {
	list := []string{"((?a>a)>?a)", "(?a>(?a>a))", "((a>?a)>(?a>a))", "(((?a>?a)>?a)>?a)", "(?a>(!a>(a>?a)))", "!((?a>?a)>a)", "?((?a>a)>!a)"}
	if things > 1 {
		list = append(list, "(a>(b>?a))", "(?a>(?b>?a))", "((?a>?b)>?a)", "((?a>?b)>(?b>?a))", "((a>?b)>(?b>a))", "(((a|b)>?a)>(?a>(a|b)))", "(?(a>b)>(?b>?a))", "((((a|b)>a)>b)>?a)")
	}
	if things > 2 {
		list = append(list, "(a>(b>?c))", "(a>(?b>?c))", "((a>?b)>(b>?c))", "((?a>b)>?c)", "((a|b)>(c>?a))", "(((?a>b)>c)>?a)", "((?a&?b)>(c>?a))", "((?a>!c)>(?b|c))")
	}
	return list
}

// justMaxChoices are sentences about 3 things with 40 resolutions.
var justMaxChoices = []string{"(((?b&?a)|c)>???b)", "((?!1|(c>?b))&((?(a|?b)&?a)>?1))", "?(?((b|c)|!a)>((b|??1)|a))", "(1|(?((?!a|c)&(a|?b))>???b))", "((?b>(?(?a|1)&(c|!c)))>?(b|c))", "((?(??a>((?b|c)>??b))>(a|?c))&?1)"}

// onceMore are sentences about 3 things with 41 resolutions.
var onceMore = []string{"((?!c>?(b&??a))>?a)", "(??0&((?a>?0)>(???b|(c|1))))", "?((??!a>??a)>?(?!c|(b|?1)))", "(((??(c|!b)>?b)>(?a|b))|(!c|???a))"}

// manyChoices is a sentence about 3 things with 81 resolutions.
const manyChoices = "(?a>(?b>??c))"

// manyMore are sentences about 3 things with more than 41 resolutions.
var manyMore = []string{"((c|??a)>(c|??b))", manyChoices, "((?c&??b)>??a)", "(((?c|?a)>??b)>?0)", "(?a>(?b>(?c>?a)))", "((?a>?b)>(?b>?c))"}

// fewOfMany are sentences about 3 things with at most 40 resolutions, of which a part, manyChoices, has more.
var fewOfMany = []string{"!" + manyChoices, "?!" + manyChoices, "(0&" + manyChoices + ")", "(" + manyChoices + "&!1)", "(0>" + manyChoices + ")", "(" + manyChoices + ">1)", "(!" + manyChoices + "|?a)", "(" + manyChoices + ">a)", "(!" + manyChoices + "&?b)"}

// resolvable yields the sentences of this chapter's tests, for 1, 2 and 3 things.
func resolvable() iter.Seq2[int, string] {
	return func(yield func(int, string) bool) {
		for things, s := range sampled() {
			if !yield(things, s) {
				return
			}
		}
		for things := 1; things <= 3; things++ {
			list := withinConditions(things)
			if things == 3 {
				list = slices.Concat(list, justMaxChoices, onceMore, manyMore, fewOfMany)
			}
			for _, s := range list {
				if !yield(things, s) {
					return
				}
			}
		}
	}
}

// told yields those of them of which the resolutions have to be told, with these.
func told(t *testing.T) iter.Seq2[resolved, []int] {
	return func(yield func(resolved, []int) bool) {
		for things, s := range resolvable() {
			if len(allResolutions(things, s)) <= 40 && !yield(resolved{things, s}, resolutionsOf(t, things, s)) {
				return
			}
		}
	}
}

// resolved is a sentence about a number of things.
type resolved struct {
	things int
	text   string
}

// resolutionsOf returns the resolutions of a sentence of which they have to be told.
func resolutionsOf(t *testing.T, things int, s string) []int {
	t.Helper()
	list, ok := impl.ResolutionsOf(things, s)
	if !ok {
		t.Fatalf("ResolutionsOf(%d, %q) = %v, false", things, s, list)
	}
	return list
}

// checkSets checks that a result is the list of sets that it should be.
func checkSets(t *testing.T, name string, things int, s string, got []int, wanted []int) {
	t.Helper()
	if !slices.Equal(got, wanted) {
		t.Fatalf("%s(%d, %q) = %v, not %v", name, things, s, got, wanted)
	}
}

// tellsNone checks that no resolutions are told of a text, by any function.
func tellsNone(t *testing.T, things int, text string) {
	t.Helper()
	if list, ok := impl.ResolutionsOf(things, text); list != nil || ok {
		t.Fatalf("ResolutionsOf(%d, %q) = %v, %v", things, text, list, ok)
	}
	if list := impl.AnswersOf(things, text); list != nil {
		t.Fatalf("AnswersOf(%d, %q) = %v", things, text, list)
	}
	for _, set := range []int{0, 1, 3, -1, 256} {
		answersNone(t, things, set, text)
	}
	if impl.ByResolutions(things, "0", text) || impl.ByResolutions(things, text, "1") || impl.ByResolutions(things, text, text) {
		t.Fatalf("ByResolutions of %q is true for %d things", text, things)
	}
}

// answersNone checks what AnswersIt returns for arguments that are wrong.
func answersNone(t *testing.T, things int, set int, text string) {
	t.Helper()
	if ok, n := impl.AnswersIt(things, set, text); ok || n != -1 {
		t.Fatalf("AnswersIt(%d, %d, %q) = %v, %d", things, set, text, ok, n)
	}
}

// checkResolutions checks what is told of a text, be it a sentence or not.
func checkResolutions(t *testing.T, things int, text string) {
	t.Helper()
	wanted := allResolutions(things, text)
	if wanted == nil || len(wanted) > 40 {
		tellsNone(t, things, text)
		return
	}
	checkSets(t, "ResolutionsOf", things, text, resolutionsOf(t, things, text), wanted)
	checkSets(t, "AnswersOf", things, text, impl.AnswersOf(things, text), greatestOf(things, wanted))
}

func TestConstantOfResolutions(t *testing.T) {
	if impl.MaxChoices != 40 {
		t.Fatal(impl.MaxChoices)
	}
}

func TestSentencesToResolveAreAsTheySay(t *testing.T) {
	for _, s := range justMaxChoices {
		if n := len(allResolutions(3, s)); n != 40 {
			t.Errorf("%q has %d resolutions", s, n)
		}
	}
	for _, s := range onceMore {
		if n := len(allResolutions(3, s)); n != 41 {
			t.Errorf("%q has %d resolutions", s, n)
		}
	}
	for _, s := range manyMore {
		if n := len(allResolutions(3, s)); n < 42 {
			t.Errorf("%q has %d resolutions", s, n)
		}
	}
	if n := len(allResolutions(3, manyChoices)); n != 81 {
		t.Errorf("%q has %d resolutions", manyChoices, n)
	}
	for _, s := range fewOfMany {
		if n := len(allResolutions(3, s)); n < 1 || n > 40 {
			t.Errorf("%q has %d resolutions", s, n)
		}
	}
	for things := 1; things <= 3; things++ {
		for _, s := range withinConditions(things) {
			if meaningOf(things, s) == nil {
				t.Errorf("%q is no sentence about %d things", s, things)
			}
		}
	}
}

func TestResolutionsOfExamples(t *testing.T) {
	examples := []struct {
		things int
		text   string
		list   []int
	}{
		{1, "0", []int{0}}, {1, "1", []int{3}}, {1, "a", []int{2}}, {2, "b", []int{12}}, {3, "1", []int{255}}, {3, "c", []int{240}},
		{1, "!a", []int{1}}, {1, "?a", []int{1, 2}}, {1, "??a", []int{0, 1, 2}}, {1, "???a", []int{0, 1, 2}}, {1, "?0", []int{0, 3}}, {1, "?1", []int{0, 3}}, {1, "!0", []int{3}}, {1, "!1", []int{0}},
		{1, "(a&!a)", []int{0}}, {1, "(a|!a)", []int{1, 2}}, {1, "(a|a)", []int{2}}, {1, "(1|0)", []int{0, 3}}, {1, "(a|1)", []int{2, 3}}, {1, "(?a&?a)", []int{0, 1, 2}}, {1, "!?a", []int{0}}, {1, "!!?a", []int{3}},
		{1, "(a>?a)", []int{1, 3}}, {1, "(?a>a)", []int{2}}, {1, "(?a>?a)", []int{0, 1, 2, 3}}, {1, "(0>?a)", []int{3}}, {1, "(?a>0)", []int{0}}, {1, "(1>?a)", []int{1, 2}}, {1, "(?a>1)", []int{3}},
		{2, "(a&b)", []int{8}}, {2, "(a|b)", []int{10, 12}}, {2, "(a|(a&b))", []int{8, 10}}, {2, "(a>b)", []int{13}}, {2, "?(a|b)", []int{1, 10, 12}}, {2, "!(a|b)", []int{1}}, {2, "!!(a|b)", []int{14}},
		{2, "(?a&?b)", []int{1, 2, 4, 8}}, {2, "(?a|?b)", []int{3, 5, 10, 12}}, {2, "(a>?b)", []int{7, 13}}, {2, "(?a>b)", []int{12}}, {2, "(?a>?b)", []int{3, 6, 9, 12}},
		{2, "((a|b)>a)", []int{11}}, {2, "((a|b)>(a|b))", []int{9, 11, 13, 15}}, {2, "((a|b)>(?a&?b))", []int{1, 3, 5, 7, 9}},
		{2, "(a>(b>?a))", []int{7, 15}}, {3, "(a>(b>?c))", []int{127, 247}}, {3, "(?a>?b)", []int{51, 102, 153, 204}}, {3, "((?a&?b)&?c)", []int{1, 2, 4, 8, 16, 32, 64, 128}},
	}
	for _, example := range examples {
		checkSets(t, "ResolutionsOf", example.things, example.text, resolutionsOf(t, example.things, example.text), example.list)
	}
}

func TestResolutionsOf(t *testing.T) {
	for things, s := range resolvable() {
		checkResolutions(t, things, s)
	}
}

func TestConditionsChooseForEachResolution(t *testing.T) {
	for things := 1; things <= 3; things++ {
		parts := slices.Concat(shortSentences(things, 2), neverSo(things)[:4], []string{"??a", "(?a|a)", "(a|!a)"})
		if things > 1 {
			parts = append(parts, "(a|b)", "(?a&?b)", "(a>?b)", "(?a>?b)", "(?a|?b)", "?(a|b)", "(a|(a&b))", "((a|b)>?a)")
		}
		if things > 2 {
			parts = append(parts, "(c>?a)", "(a|(b|c))", "(?a|?c)")
		}
		for _, s := range parts {
			for _, u := range parts {
				var wanted []int
				first := resolutionsOf(t, things, s)
				for chosen := range eachChoice(first, resolutionsOf(t, things, u)) {
					wanted = append(wanted, choosingByThings[things].where(func(world int) bool {
						for i, set := range first {
							if has(set, world) && !has(chosen[i], world) {
								return false
							}
						}
						return true
					}))
				}
				slices.Sort(wanted)
				wanted = slices.Compact(wanted)
				condition := "(" + s + ">" + u + ")"
				if len(wanted) > 40 {
					tellsNone(t, things, condition)
					continue
				}
				checkSets(t, "ResolutionsOf", things, condition, resolutionsOf(t, things, condition), wanted)
			}
		}
	}
}

func TestConditionsWithQuestions(t *testing.T) {
	for things := 1; things <= 3; things++ {
		for _, s := range slices.Concat(underConditions(things), withinConditions(things)) {
			checkResolutions(t, things, s)
			list := resolutionsOf(t, things, s)
			checkIssue(t, "IssueFrom "+s, things, impl.IssueFrom(things, list), issueOfSentence(t, things, s))
		}
	}
}

func TestJustMaxChoicesAndOneMore(t *testing.T) {
	for _, s := range justMaxChoices {
		if list := resolutionsOf(t, 3, s); len(list) != 40 {
			t.Fatalf("ResolutionsOf(3, %q) has %d sets", s, len(list))
		}
		checkResolutions(t, 3, s)
		if !impl.ByResolutions(3, s, s) || !impl.ByResolutions(3, "0", s) || !impl.ByResolutions(3, s, "1") {
			t.Fatalf("ByResolutions of %q", s)
		}
		if ok, n := impl.AnswersIt(3, 0, s); !ok || n != 0 {
			t.Fatalf("AnswersIt(3, 0, %q) = %v, %d", s, ok, n)
		}
	}
	for _, s := range slices.Concat(onceMore, manyMore) {
		issueOfSentence(t, 3, s)
		tellsNone(t, 3, s)
		tellsNone(t, 3, "?"+s)
	}
}

func TestPartsMayHaveMoreThanMaxChoices(t *testing.T) {
	for _, s := range fewOfMany {
		checkResolutions(t, 3, s)
	}
	for s, wanted := range map[string][]int{"(0&" + manyChoices + ")": {0}, "!" + manyChoices: {0}, "?!" + manyChoices: {0, 255}, "(" + manyChoices + ">1)": {255}, "(0>" + manyChoices + ")": {255}} {
		checkSets(t, "ResolutionsOf", 3, s, resolutionsOf(t, 3, s), wanted)
	}
}

func TestSetsAreCountedOnce(t *testing.T) {
	long := "((?a&?b)&?c)"
	for len(long)*2+3 <= 60 {
		long = "(" + long + "|" + long + ")"
	}
	checkSets(t, "ResolutionsOf", 3, long, resolutionsOf(t, 3, long), []int{1, 2, 4, 8, 16, 32, 64, 128})
	checkSets(t, "ResolutionsOf", 3, "(((?a&?b)&?c)&((?a&?b)&?c))", resolutionsOf(t, 3, "(((?a&?b)&?c)&((?a&?b)&?c))"), []int{0, 1, 2, 4, 8, 16, 32, 64, 128})
	// All 8 sets may be chosen for each of 8, and only some choices differ.
	checkResolutions(t, 3, "(((?a&?b)&?c)>((?a&?b)&?c))")
	checkResolutions(t, 3, "(((?a&?b)&?c)>(a|1))")
}

func TestResolutionsOfWhatIsNeverSo(t *testing.T) {
	for things := 1; things <= 3; things++ {
		all := setsFor(things) - 1
		for _, s := range neverSo(things) {
			checkSets(t, "ResolutionsOf", things, s, resolutionsOf(t, things, s), []int{0})
			checkSets(t, "AnswersOf", things, s, impl.AnswersOf(things, s), []int{0})
			checkSets(t, "ResolutionsOf", things, "!"+s, resolutionsOf(t, things, "!"+s), []int{all})
			checkSets(t, "ResolutionsOf", things, "?"+s, resolutionsOf(t, things, "?"+s), []int{0, all})
			checkSets(t, "AnswersOf", things, "?"+s, impl.AnswersOf(things, "?"+s), []int{all})
			checkSets(t, "ResolutionsOf", things, "("+s+">?a)", resolutionsOf(t, things, "("+s+">?a)"), []int{all})
			for set := range setsFor(things) {
				if ok, n := impl.AnswersIt(things, set, s); ok != (set == 0) || n != 0 {
					t.Fatalf("AnswersIt(%d, %d, %q) = %v, %d", things, set, s, ok, n)
				}
			}
			if !impl.ByResolutions(things, s, "a") || !impl.ByResolutions(things, s, "0") || impl.ByResolutions(things, "a", s) || impl.ByResolutions(things, "?a", s) {
				t.Fatalf("ByResolutions of %q for %d things", s, things)
			}
		}
	}
}

func TestByResolutionsExamples(t *testing.T) {
	examples := []struct {
		first  string
		second string
		is     bool
	}{
		{"(?a&?b)", "?a", true}, {"?a", "(?a&?b)", false}, {"a", "?a", true}, {"?a", "a", false}, {"?a", "?b", false}, {"(a|(a&b))", "a", true}, {"a", "(a|(a&b))", true},
		{"(?a>?b)", "(a>?b)", true}, {"(a>?b)", "(?a>?b)", false}, {"(?a>b)", "b", true}, {"0", "a", true}, {"a", "0", false}, {"a", "1", true}, {"1", "?a", false}, {"1", "!!?a", true},
		{"(?a&?b)", "?(a&b)", true}, {"?(a&b)", "(?a&?b)", false}, {"(a|b)", "!!(a|b)", true}, {"!!(a|b)", "(a|b)", false}, {"(a&!a)", "(?a&!?a)", true},
		{"c", "a", false}, {"a", "c", false}, {"", "a", false}, {"0", "a|b", false}, {"a&b", "1", false},
	}
	for _, example := range examples {
		if got := impl.ByResolutions(2, example.first, example.second); got != example.is {
			t.Errorf("ByResolutions(2, %q, %q) = %v", example.first, example.second, got)
		}
	}
}

// toPair are sentences of which each two are tried.
func toPair(things int) []string {
	list := slices.Concat(sentencesToPair(things), withinConditions(things))
	if things == 3 {
		list = slices.Concat(list, justMaxChoices, onceMore, manyMore, fewOfMany)
	}
	return list
}

func TestByResolutions(t *testing.T) {
	for things := 1; things <= 3; things++ {
		for _, s := range toPair(things) {
			for _, u := range toPair(things) {
				first, second := allResolutions(things, s), allResolutions(things, u)
				wanted := len(first) <= 40 && len(second) <= 40
				for _, set := range first {
					wanted = wanted && isWithinSome(set, second)
				}
				if got := impl.ByResolutions(things, s, u); got != wanted {
					t.Fatalf("ByResolutions(%d, %q, %q) = %v", things, s, u, got)
				}
			}
		}
	}
}

func TestAnswersOfExamples(t *testing.T) {
	examples := []struct {
		things int
		text   string
		list   []int
	}{
		{1, "0", []int{0}}, {1, "1", []int{3}}, {1, "?a", []int{1, 2}}, {1, "??a", []int{1, 2}}, {1, "?1", []int{3}}, {1, "(?a>?a)", []int{3}}, {1, "(a|1)", []int{3}},
		{2, "(a|(a&b))", []int{10}}, {2, "((a&b)|a)", []int{10}}, {2, "(a|b)", []int{10, 12}}, {2, "(?a&?b)", []int{1, 2, 4, 8}}, {2, "((?a&?b)|a)", []int{1, 4, 10}}, {2, "(a>?b)", []int{7, 13}}, {2, "((a|b)>(a|b))", []int{15}},
		{3, "(?a|?b)", []int{51, 85, 170, 204}}, {3, "(a&!a)", []int{0}},
	}
	for _, example := range examples {
		checkSets(t, "AnswersOf", example.things, example.text, impl.AnswersOf(example.things, example.text), example.list)
	}
}

func TestAnswersItExamples(t *testing.T) {
	examples := []struct {
		things int
		set    int
		text   string
		is     bool
		left   int
	}{
		{2, 8, "?a", true, 0}, {2, 10, "?a", true, 0}, {2, 0, "?a", true, 0}, {2, 3, "?a", false, 2}, {2, 15, "?a", false, 2},
		{2, 7, "(?a&?b)", false, 3}, {2, 15, "(?a&?b)", false, 4}, {2, 6, "(?a&?b)", false, 2}, {2, 4, "(?a&?b)", true, 0},
		{2, 15, "(a|(a&b))", false, 1}, {2, 9, "(a|(a&b))", false, 1}, {2, 5, "(a|(a&b))", false, 0}, {2, 2, "(a|(a&b))", true, 0},
		{2, 5, "a", false, 0}, {2, 7, "a", false, 1}, {2, 1, "(a|b)", false, 0}, {2, 3, "(a|b)", false, 1}, {2, 14, "(a|b)", false, 2}, {2, 5, "(a|b)", false, 1},
		{2, 15, "(?a>?b)", false, 4}, {2, 14, "(?a>?b)", false, 4}, {2, 5, "(?a>?b)", false, 4}, {2, 3, "(?a>?b)", true, 0}, {2, 10, "(a>?b)", false, 2}, {2, 13, "(a>?b)", true, 0},
		{1, 0, "0", true, 0}, {1, 1, "0", false, 0}, {1, 3, "1", true, 0}, {3, 255, "1", true, 0}, {3, 256, "1", false, -1}, {3, -1, "1", false, -1}, {2, 16, "a", false, -1}, {1, 4, "1", false, -1}, {1, 1, "b", false, -1}, {2, 1, "", false, -1}, {0, 0, "0", false, -1}, {4, 0, "0", false, -1},
	}
	for _, example := range examples {
		if ok, n := impl.AnswersIt(example.things, example.set, example.text); ok != example.is || n != example.left {
			t.Errorf("AnswersIt(%d, %d, %q) = %v, %d", example.things, example.set, example.text, ok, n)
		}
	}
}

func TestAnswersIt(t *testing.T) {
	for sentence, list := range told(t) {
		answers := greatestOf(sentence.things, list)
		for set := range setsFor(sentence.things) {
			is, left := isWithinSome(set, list), 0
			for _, answer := range answers {
				if !is && answer&set != 0 {
					left++
				}
			}
			if ok, n := impl.AnswersIt(sentence.things, set, sentence.text); ok != is || n != left {
				t.Fatalf("AnswersIt(%d, %d, %q) = %v, %d, not %v, %d", sentence.things, set, sentence.text, ok, n, is, left)
			}
		}
	}
}

func TestP15IssueIsEitherOfTheResolutions(t *testing.T) {
	for sentence, list := range told(t) {
		issue := issueOfSentence(t, sentence.things, sentence.text)
		checkIssue(t, "IssueFrom "+sentence.text, sentence.things, impl.IssueFrom(sentence.things, list), issue, list)
		for set := range setsFor(sentence.things) {
			if impl.Settles(sentence.things, issue, set) != isWithinSome(set, list) {
				t.Fatalf("%d things: the issue of %q, which has the resolutions %v, and %d", sentence.things, sentence.text, list, set)
			}
		}
	}
}

func TestP16ResolutionsEntailWhatSentencesDo(t *testing.T) {
	for things := 1; things <= 3; things++ {
		pairs := 0
		for _, s := range toPair(things) {
			_, firstOk := impl.ResolutionsOf(things, s)
			for _, u := range toPair(things) {
				_, secondOk := impl.ResolutionsOf(things, u)
				if !firstOk || !secondOk {
					continue
				}
				pairs++
				if got := impl.ByResolutions(things, s, u); got != impl.EntailsOf(things, s, u) {
					t.Fatalf("ByResolutions(%d, %q, %q) = %v", things, s, u, got)
				}
			}
		}
		if pairs < 5000 {
			t.Fatalf("%d things: only %d pairs of sentences", things, pairs)
		}
	}
}

func TestP17AnswersAreTheGreatestSets(t *testing.T) {
	for sentence, list := range told(t) {
		answers := impl.AnswersOf(sentence.things, sentence.text)
		checkIssue(t, "AnswersOf "+sentence.text, sentence.things, answers, issueOfSentence(t, sentence.things, sentence.text))
		for _, answer := range answers {
			if !slices.Contains(list, answer) {
				t.Fatalf("%d things: %d is an answer of %q, and no resolution", sentence.things, answer, sentence.text)
			}
		}
	}
}

func TestP18WhoAnswersSupports(t *testing.T) {
	for sentence := range told(t) {
		most := len(impl.AnswersOf(sentence.things, sentence.text))
		for set := range setsFor(sentence.things) {
			ok, left := impl.AnswersIt(sentence.things, set, sentence.text)
			if ok != impl.Supports(sentence.things, set, sentence.text) {
				t.Fatalf("AnswersIt(%d, %d, %q) = %v", sentence.things, set, sentence.text, ok)
			}
			if !ok && (left < 0 || left > most) {
				t.Fatalf("AnswersIt(%d, %d, %q) = false, %d, and there are %d", sentence.things, set, sentence.text, left, most)
			}
		}
	}
}

func TestEmptySetAnswersEverySentence(t *testing.T) {
	for sentence := range told(t) {
		if ok, n := impl.AnswersIt(sentence.things, 0, sentence.text); !ok || n != 0 {
			t.Fatalf("AnswersIt(%d, 0, %q) = %v, %d", sentence.things, sentence.text, ok, n)
		}
	}
}

func TestWrongSetsAnswerNothing(t *testing.T) {
	for things := 1; things <= 3; things++ {
		for _, set := range wrongSets(things) {
			for _, s := range slices.Concat([]string{"1", "0", "?a", "!0", "(a>a)", "", "(", "d"}, underConditions(things), onceMore) {
				answersNone(t, things, set, s)
			}
		}
	}
}

func TestResolutionsOfWrongNumbersOfThings(t *testing.T) {
	for _, things := range wrongThings {
		for _, s := range slices.Concat(shortSentences(3, 5), longSentences(3)[:15], justMaxChoices, []string{"", "(", "d"}) {
			tellsNone(t, things, s)
		}
	}
}

func TestResolutionsOfAllShortTexts(t *testing.T) {
	for things := 1; things <= 3; things++ {
		for text := range textsOf("01abcd!?()&|>[ \x00\xff", 3) {
			checkResolutions(t, things, text)
		}
		for text := range textsOf("a0!?()&|>", 5) {
			checkResolutions(t, things, text)
		}
	}
}

func TestResolutionsOfLettersThatAreNone(t *testing.T) {
	for _, s := range []string{"b", "?c", "(a>?b)", "(a|c)", "(0&b)", "(0>b)", "!(a&c)"} {
		tellsNone(t, 1, s)
	}
	for _, s := range []string{"c", "?c", "(a>?c)", "(0&c)", "(c>?a)"} {
		tellsNone(t, 2, s)
		checkResolutions(t, 3, s)
	}
	for _, s := range []string{"d", "A", "(a&d)", "(0>d)", "?D"} {
		tellsNone(t, 3, s)
	}
}

func TestResolutionsOfJustMaxTextBytes(t *testing.T) {
	for things := 1; things <= 3; things++ {
		for _, s := range longSentences(things) {
			for len(s) < impl.MaxText {
				s = "!" + s
			}
			checkResolutions(t, things, s)
			tellsNone(t, things, "!"+s)
			tellsNone(t, things, "?"+s)
			tellsNone(t, things, s+")")
		}
	}
}

func TestResolutionsOfTextsWithOneByteChanged(t *testing.T) {
	for things := 1; things <= 3; things++ {
		for _, s := range slices.Concat(underConditions(things), withinConditions(things)) {
			for at := range len(s) {
				tellsNone(t, things, s[:at])
				for _, other := range []byte("01abcdA!?()&|>[] 2\x00\x80") {
					checkResolutions(t, things, s[:at]+string([]byte{other})+s[at+1:])
				}
			}
		}
	}
}

func TestResolutionsAreNewMemory(t *testing.T) {
	calls := map[string]func(things int, s string) []int{
		"AnswersOf":     impl.AnswersOf,
		"ResolutionsOf": func(things int, s string) []int { list, _ := impl.ResolutionsOf(things, s); return list },
	}
	for things, s := range resolvable() {
		for name, call := range calls {
			first, second := call(things, s), call(things, s)
			wanted := slices.Clone(second)
			overwrite(first, -7)
			if !slices.Equal(second, wanted) || !slices.Equal(call(things, s), wanted) {
				t.Fatalf("%s(%d, %q) returns the same memory twice", name, things, s)
			}
		}
	}
}

func TestResolutionsNeverPanic(t *testing.T) {
	texts := wildTexts()
	source := rand.New(rand.NewSource(40))
	for range 300 {
		texts = append(texts, randomSentence(source, 3, 40+source.Intn(30)))
	}
	for _, inner := range []string{"?", "!", "?a", "(?b>?c)"} {
		texts = append(texts, nested("(?a>", "?b", ">?c)"), nested("(", inner, ">?a)"), nested("(?a>", inner, ")"), nested("((?b|c)>", inner, ")"), strings.Repeat("(?a>", 1000)+inner)
	}
	for _, text := range texts {
		for _, things := range wildNumbers {
			impl.ResolutionsOf(things, text)
			impl.AnswersOf(things, text)
			impl.ByResolutions(things, text, "?a")
			impl.ByResolutions(things, "(a>?b)", text)
			for _, set := range wildNumbers {
				impl.AnswersIt(things, set, text)
			}
		}
	}
}
