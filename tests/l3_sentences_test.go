package tests

import (
	"iter"
	"math"
	"math/rand"
	"slices"
	"strings"
	"testing"

	"loop.example/openissues/impl"
)

// meanings tells of texts by which sets of worlds they are supported. It takes sentences apart from outside, at the signs that stand in no inner brackets, and keeps what it found.
type meanings struct {
	things int
	found  map[string][]bool
}

var meaningsByThings = map[int]meanings{
	1: {1, map[string][]bool{}},
	2: {2, map[string][]bool{}},
	3: {3, map[string][]bool{}},
}

// meaningOf tells of each set whether it supports a text, and is nil for texts that are no sentences.
func meaningOf(things int, text string) []bool {
	if worldsByThings[things] == 0 || len(text) > 60 {
		return nil
	}
	return meaningsByThings[things].of(text)
}

func (m meanings) of(text string) []bool {
	if supported, ok := m.found[text]; ok {
		return supported
	}
	supported := m.make(text)
	m.found[text] = supported
	return supported
}

func (m meanings) make(text string) []bool {
	switch {
	case text == "":
		return nil
	case text[0] == '!' || text[0] == '?':
		return m.ofOne(text[0], m.of(text[1:]))
	case text[0] == '(' && text[len(text)-1] == ')':
		return m.ofPair(text)
	}
	return m.ofWord(text)
}

func (m meanings) ofWord(text string) []bool {
	thing := slices.Index([]string{"a", "b", "c"}[:m.things], text)
	if thing < 0 && text != "0" && text != "1" {
		return nil
	}
	return m.each(func(set int) bool {
		for world := range worldsByThings[m.things] {
			so := text == "1" || thing >= 0 && has(world, thing)
			if has(set, world) && !so {
				return false
			}
		}
		return true
	})
}

func (m meanings) ofOne(sign byte, without []bool) []bool {
	if without == nil {
		return nil
	}
	return m.each(func(set int) bool {
		denied := true
		for world := range worldsByThings[m.things] {
			denied = denied && !(has(set, world) && without[1<<world])
		}
		return denied || sign == '?' && without[set]
	})
}

func (m meanings) ofPair(text string) []bool {
	first, sign, second := takenApart(text)
	return m.joined(sign, m.of(first), m.of(second))
}

// takenApart returns what is in the brackets of a text before and behind the first sign that stands in no inner brackets, and the sign; nothing if there is none.
func takenApart(text string) (first string, sign byte, second string) {
	depth := 0
	for i := range len(text) {
		switch text[i] {
		case '(':
			depth++
		case ')':
			depth--
		case '&', '|', '>':
			if depth == 1 {
				return text[1:i], text[i], text[i+1 : len(text)-1]
			}
		}
	}
	return "", 0, ""
}

func (m meanings) joined(sign byte, first []bool, second []bool) []bool {
	if first == nil || second == nil {
		return nil
	}
	return m.each(func(set int) bool {
		switch sign {
		case '&':
			return first[set] && second[set]
		case '|':
			return first[set] || second[set]
		}
		return allWithin(set, func(part int) bool { return !first[part] || second[part] })
	})
}

func (m meanings) each(supports func(set int) bool) []bool {
	supported := make([]bool, setsFor(m.things))
	for set := range supported {
		supported[set] = supports(set)
	}
	return supported
}

// truthIn is the set of the worlds that, alone, support a sentence with a meaning.
func truthIn(things int, supported []bool) int {
	worlds := 0
	for world := range worldsByThings[things] {
		if supported[1<<world] {
			worlds |= 1 << world
		}
	}
	return worlds
}

// shortSentences are all sentences of up to so many bytes.
func shortSentences(things int, longest int) []string {
	words := []string{"0", "1", "a", "b", "c"}
	byLength := [][]string{nil, words[:2+things]}
	for length := 2; length <= longest; length++ {
		var list []string
		for _, without := range byLength[length-1] {
			list = append(list, "!"+without, "?"+without)
		}
		for size := 1; size < length-3; size++ {
			for _, first := range byLength[size] {
				for _, second := range byLength[length-3-size] {
					list = append(list, "("+first+"&"+second+")", "("+first+"|"+second+")", "("+first+">"+second+")")
				}
			}
		}
		byLength = append(byLength, list)
	}
	return slices.Concat(byLength...)
}

// randomSentence returns a sentence of just so many bytes.
func randomSentence(source *rand.Rand, things int, length int) string {
	if length == 1 {
		return string("01abcabcabc"[source.Intn(2+things)])
	}
	if length < 5 || source.Intn(6) == 0 {
		return string("!?"[source.Intn(2)]) + randomSentence(source, things, length-1)
	}
	size := 1 + source.Intn(length-4)
	first, second := randomSentence(source, things, size), randomSentence(source, things, length-3-size)
	return "(" + first + string("&|>"[source.Intn(3)]) + second + ")"
}

// nested puts a sentence into brackets again and again, as long as it is not too long.
func nested(before string, inner string, behind string) string {
	for len(before)+len(inner)+len(behind) <= 60 {
		inner = before + inner + behind
	}
	return inner
}

// neverSo are sentences that only the empty set supports.
func neverSo(things int) []string {
	list := []string{"0", "!1", "(a&!a)", "(!a&a)", "!?a", "!(a|!a)", "!!0", "!(a>a)", "(0|0)", "(a&0)", "(0&?a)", "(1>0)", "(?a>0)", "(?a&!?a)", "((a&!a)|0)", "(?1&!1)", "((a|!a)>0)", "!!(a&!a)", "(!1|!!0)"}
	if things > 1 {
		list = append(list, "((a&b)&!b)", "(?b>(a&!a))", "!(?a&?b)", "!(a>?b)", "!(?a>?b)")
	}
	if things > 2 {
		list = append(list, "((a&b)&(!a&c))", "!((?a|?b)|?c)", "(?c>!1)")
	}
	return list
}

// underConditions are sentences with questions under conditions, or as conditions.
func underConditions(things int) []string {
	list := []string{"(a>?a)", "(?a>a)", "(?a>?a)", "(?a>!a)", "(!a>?a)", "(0>?a)", "(?a>0)", "(1>?a)", "(?a>1)", "((a|!a)>?a)", "(?a>(a|!a))", "((a|!a)>a)", "(?(a>?a)>?a)", "((?a>a)>a)", "((?a>a)>?a)", "(?!a>?a)", "(?a>!?a)", "(??a>?a)"}
	if things > 1 {
		list = append(list, "(a>?b)", "(?a>b)", "(?a>?b)", "(?b>?a)", "(!a>?b)", "(?a>(b|!b))", "((a|b)>a)", "((a|b)>(a|b))", "((a|b)>?a)", "(?a>(b|a))", "((?a>b)>?b)", "((?a>?b)>?a)", "(?a>(?b>a))", "((a>?b)>?a)", "?(?a>b)", "!(?a>b)", "(?(a|b)>?b)", "((?a&?b)>?(a&b))", "(?a>(b>?a))")
	}
	if things > 2 {
		list = append(list, "((?a&?b)>?c)", "(?a>(?b&?c))", "(?a>(?b>?c))", "((?a>?b)>?c)", "(c>?(a|b))", "((a|b)>?c)", "((a|(b|c))>?a)", "(?a>(b|c))", "((?a|?b)>(?c|a))")
	}
	return list
}

// longSentences are of just MaxText bytes, or a little shorter.
func longSentences(things int) []string {
	last := string("abc"[things-1])
	list := []string{
		strings.Repeat("!", 59) + "a", strings.Repeat("?", 59) + last, strings.Repeat("!?", 29) + "!" + last, strings.Repeat("!", 59) + "0",
		nested("(", "a", "&"+last+")"), nested("(", last, "|a)"), nested("(", "a", ">"+last+")"), nested("(a>", last, ")"), nested("(?a>", last, ")"), nested("(", "?a", ">?"+last+")"), nested("?(", last, ">a)"), nested("!(", "a", "|"+last+")"), nested("(1&", last, ")"),
	}
	source := rand.New(rand.NewSource(int64(60 + things)))
	for range 60 {
		list = append(list, randomSentence(source, things, 60))
	}
	return list
}

// sampleSentences are short sentences, edge cases, and sentences of every length.
func sampleSentences(things int) []string {
	list := slices.Concat(shortSentences(things, 6), neverSo(things), underConditions(things), longSentences(things))
	source := rand.New(rand.NewSource(int64(things)))
	for length := 1; length <= 60; length++ {
		for range 4 {
			list = append(list, randomSentence(source, things, length))
		}
	}
	return list
}

// sentencesToPair are fewer sentences than sampleSentences, for tests of every two.
func sentencesToPair(things int) []string {
	list := slices.Concat(shortSentences(things, 2), neverSo(things)[:6], underConditions(things), longSentences(things)[:12])
	source := rand.New(rand.NewSource(int64(2 * things)))
	for length := 3; length <= 60; length++ {
		list = append(list, randomSentence(source, things, length))
	}
	return list
}

// sampled yields each sentence of sampleSentences, for 1, 2 and 3 things.
func sampled() iter.Seq2[int, string] {
	return func(yield func(int, string) bool) {
		for things := 1; things <= 3; things++ {
			for _, s := range sampleSentences(things) {
				if !yield(things, s) {
					return
				}
			}
		}
	}
}

// issueOfSentence returns the issue of a text that has to be a sentence.
func issueOfSentence(t *testing.T, things int, s string) []int {
	t.Helper()
	issue, ok := impl.IssueOf(things, s)
	if !ok {
		t.Fatalf("IssueOf(%d, %q) = %v, false", things, s, issue)
	}
	return issue
}

// refusesText checks that a text is taken by no function for a sentence.
func refusesText(t *testing.T, things int, text string) {
	t.Helper()
	if issue, ok := impl.IssueOf(things, text); issue != nil || ok {
		t.Fatalf("IssueOf(%d, %q) = %v, %v", things, text, issue, ok)
	}
	for _, set := range []int{0, 1, 3} {
		if impl.Supports(things, set, text) {
			t.Fatalf("Supports(%d, %d, %q) = true", things, set, text)
		}
	}
	if impl.PlainOk(things, text) {
		t.Fatalf("PlainOk(%d, %q) = true", things, text)
	}
	if got := impl.TrueIn(things, text); got != -1 {
		t.Fatalf("TrueIn(%d, %q) = %d", things, text, got)
	}
	if impl.EntailsOf(things, "0", text) || impl.EntailsOf(things, text, "1") || impl.EntailsOf(things, text, text) {
		t.Fatalf("EntailsOf of %q is true for %d things", text, things)
	}
}

// checkText checks what is read of a text, be it a sentence or not.
func checkText(t *testing.T, things int, text string) {
	t.Helper()
	supported := meaningOf(things, text)
	if supported == nil {
		refusesText(t, things, text)
		return
	}
	wanted := issueSettledBy(things, func(set int) bool { return supported[set] })
	if issue := issueOfSentence(t, things, text); !slices.Equal(issue, wanted) {
		t.Fatalf("IssueOf(%d, %q) = %v, not %v", things, text, issue, wanted)
	}
	if got := impl.TrueIn(things, text); got != truthIn(things, supported) {
		t.Fatalf("TrueIn(%d, %q) = %d, not %d", things, text, got, truthIn(things, supported))
	}
}

func TestConstantOfSentences(t *testing.T) {
	if impl.MaxText != 60 {
		t.Fatal(impl.MaxText)
	}
}

func TestSentencesToTestAreSentences(t *testing.T) {
	for things, s := range sampled() {
		if len(s) > 60 || meaningOf(things, s) == nil {
			t.Fatalf("%d things: %q", things, s)
		}
	}
	for things := 1; things <= 3; things++ {
		for _, s := range neverSo(things) {
			if supported := meaningOf(things, s); supported == nil || slices.Contains(supported[1:], true) {
				t.Fatalf("%d things: %q may be so", things, s)
			}
		}
	}
}

func TestIssueOfExamples(t *testing.T) {
	examples := []struct {
		things int
		text   string
		issue  []int
	}{
		{1, "0", []int{0}}, {2, "0", []int{0}}, {3, "0", []int{0}},
		{1, "1", []int{3}}, {2, "1", []int{15}}, {3, "1", []int{255}},
		{1, "a", []int{2}}, {2, "a", []int{10}}, {3, "a", []int{170}},
		{2, "b", []int{12}}, {3, "b", []int{204}}, {3, "c", []int{240}},
		{1, "!a", []int{1}}, {2, "!a", []int{5}}, {2, "!b", []int{3}}, {3, "!c", []int{15}},
		{1, "?a", []int{1, 2}}, {2, "?a", []int{5, 10}}, {2, "?b", []int{3, 12}}, {3, "?c", []int{15, 240}},
		{2, "(a&b)", []int{8}}, {2, "(a|b)", []int{10, 12}}, {2, "(a>b)", []int{13}}, {2, "(b>a)", []int{11}},
		{2, "(?a&?b)", []int{1, 2, 4, 8}}, {2, "(?a|?b)", []int{3, 5, 10, 12}}, {2, "?(a|b)", []int{1, 10, 12}},
		{2, "(a>?b)", []int{7, 13}}, {2, "(?a>b)", []int{12}}, {2, "(?a>?b)", []int{3, 6, 9, 12}}, {2, "(?a>?a)", []int{15}},
		{2, "((a|b)>a)", []int{11}}, {2, "((a|b)>(a|b))", []int{15}}, {2, "(1>(a|b))", []int{10, 12}}, {2, "(0>(a|b))", []int{15}},
		{2, "!(a|b)", []int{1}}, {2, "!!(a|b)", []int{14}}, {2, "!?a", []int{0}}, {2, "!!?a", []int{15}}, {2, "??a", []int{5, 10}}, {2, "?!a", []int{5, 10}},
		{1, "(a&!a)", []int{0}}, {1, "!1", []int{0}}, {1, "!0", []int{3}}, {1, "?0", []int{3}}, {1, "?1", []int{3}}, {1, "(0|a)", []int{2}}, {1, "(a|0)", []int{2}},
		{3, "(?a>?b)", []int{51, 102, 153, 204}}, {3, "((?a&?b)&?c)", []int{1, 2, 4, 8, 16, 32, 64, 128}}, {3, "((a|b)|c)", []int{170, 204, 240}}, {3, "(c>?a)", []int{95, 175}},
	}
	for _, example := range examples {
		if issue := issueOfSentence(t, example.things, example.text); !slices.Equal(issue, example.issue) {
			t.Errorf("IssueOf(%d, %q) = %v, not %v", example.things, example.text, issue, example.issue)
		}
	}
}

func TestIssueOf(t *testing.T) {
	for things, s := range sampled() {
		checkText(t, things, s)
	}
}

func TestAllShortTexts(t *testing.T) {
	for things := 1; things <= 3; things++ {
		for text := range textsOf("01abcd!?()&|>[ \x00\xff", 4) {
			checkText(t, things, text)
		}
		for text := range textsOf("a0!?()&|>", 5) {
			checkText(t, things, text)
		}
	}
}

// textsOf yields all texts of up to so many of some bytes.
func textsOf(bytes string, longest int) iter.Seq[string] {
	return func(yield func(string) bool) {
		texts := []string{""}
		for length := range longest + 1 {
			var longer []string
			for _, text := range texts {
				if !yield(text) {
					return
				}
				for i := range len(bytes) {
					if length < longest {
						longer = append(longer, text+bytes[i:i+1])
					}
				}
			}
			texts = longer
		}
	}
}

func TestSupportsExamples(t *testing.T) {
	examples := []struct {
		things int
		text   string
		sets   []int
	}{
		{1, "1", []int{0, 1, 2, 3}}, {1, "0", []int{0}}, {1, "a", []int{0, 2}}, {1, "!a", []int{0, 1}}, {1, "?a", []int{0, 1, 2}}, {1, "!?a", []int{0}},
		{1, "(a&!a)", []int{0}}, {1, "(a|!a)", []int{0, 1, 2}}, {1, "(a>!a)", []int{0, 1}}, {1, "(?a>a)", []int{0, 2}}, {1, "(a>?a)", []int{0, 1, 2, 3}}, {1, "!!(a|!a)", []int{0, 1, 2, 3}},
		{2, "(a&b)", []int{0, 8}}, {2, "(a|b)", []int{0, 2, 4, 8, 10, 12}}, {2, "(?a>b)", []int{0, 4, 8, 12}}, {2, "!(a|b)", []int{0, 1}},
		{2, "(?a>?b)", []int{0, 1, 2, 3, 4, 6, 8, 9, 12}}, {2, "(a>?b)", []int{0, 1, 2, 3, 4, 5, 6, 7, 8, 9, 12, 13}},
	}
	for _, example := range examples {
		for set := range setsFor(example.things) {
			if got := impl.Supports(example.things, set, example.text); got != slices.Contains(example.sets, set) {
				t.Errorf("Supports(%d, %d, %q) = %v", example.things, set, example.text, got)
			}
		}
	}
}

func TestSupports(t *testing.T) {
	for things, s := range sampled() {
		supported := meaningOf(things, s)
		for set := range setsFor(things) {
			if got := impl.Supports(things, set, s); got != supported[set] {
				t.Fatalf("Supports(%d, %d, %q) = %v", things, set, s, got)
			}
		}
		for _, set := range wrongSets(things) {
			if impl.Supports(things, set, s) {
				t.Fatalf("Supports(%d, %d, %q) = true", things, set, s)
			}
		}
	}
}

func TestEmptySetSupportsEverySentence(t *testing.T) {
	for things, s := range sampled() {
		if !impl.Supports(things, 0, s) || !impl.Settles(things, issueOfSentence(t, things, s), 0) {
			t.Fatalf("%d things: the empty set does not support %q", things, s)
		}
	}
}

func TestSentencesThatAreNeverSo(t *testing.T) {
	for things := 1; things <= 3; things++ {
		all := setsFor(things) - 1
		for _, s := range neverSo(things) {
			checkIssue(t, "IssueOf "+s, things, issueOfSentence(t, things, s), []int{0})
			checkIssue(t, "IssueOf !"+s, things, issueOfSentence(t, things, "!"+s), []int{all})
			checkIssue(t, "IssueOf ?"+s, things, issueOfSentence(t, things, "?"+s), []int{all})
			checkIssue(t, "IssueOf if "+s, things, issueOfSentence(t, things, "("+s+">0)"), []int{all})
			if got := impl.TrueIn(things, s); got != 0 {
				t.Fatalf("TrueIn(%d, %q) = %d", things, s, got)
			}
			for set := range setsFor(things) {
				if impl.Supports(things, set, s) != (set == 0) {
					t.Fatalf("Supports(%d, %d, %q) = %v", things, set, s, set != 0)
				}
			}
			for _, other := range underConditions(things) {
				if !impl.EntailsOf(things, s, other) {
					t.Fatalf("%d things: %q does not follow from %q", things, other, s)
				}
			}
			if impl.EntailsOf(things, "a", s) || impl.EntailsOf(things, "?a", s) || impl.EntailsOf(things, "1", s) || !impl.EntailsOf(things, s, "0") {
				t.Fatalf("%d things: %q", things, s)
			}
		}
	}
}

func TestQuestionsUnderConditions(t *testing.T) {
	for things := 1; things <= 3; things++ {
		for _, s := range underConditions(things) {
			checkText(t, things, s)
			if impl.PlainOk(things, s) {
				t.Fatalf("PlainOk(%d, %q) = true", things, s)
			}
		}
	}
	if !impl.EntailsOf(2, "(?a>?b)", "(a>?b)") || impl.EntailsOf(2, "(a>?b)", "(?a>?b)") || !impl.EntailsOf(2, "(?a>b)", "b") || impl.EntailsOf(2, "(?a>?b)", "?b") {
		t.Fatal("questions under conditions")
	}
}

func TestPlainOk(t *testing.T) {
	for things, s := range sampled() {
		if got := impl.PlainOk(things, s); got == strings.ContainsAny(s, "?|") {
			t.Fatalf("PlainOk(%d, %q) = %v", things, s, got)
		}
	}
	for _, s := range []string{"0", "1", "a", "!a", "(a&b)", "(a>!b)", "!!(a>(b&0))", strings.Repeat("!", 59) + "b"} {
		if !impl.PlainOk(2, s) {
			t.Errorf("PlainOk(2, %q) = false", s)
		}
	}
	for _, s := range []string{"?a", "(a|b)", "!?a", "(a>?b)", "(?a>b)", "(a&(a|b))", "!!(a|b)", "?1", "(0|0)", "c", "a&b", "(a>!b", "", "!", strings.Repeat("!", 60) + "b"} {
		if impl.PlainOk(2, s) {
			t.Errorf("PlainOk(2, %q) = true", s)
		}
	}
}

func TestTrueInExamples(t *testing.T) {
	for s, wanted := range map[string]int{"0": 0, "1": 15, "a": 10, "b": 12, "!a": 5, "?a": 15, "(a|b)": 14, "(a&b)": 8, "(a>b)": 13, "(?a>b)": 12, "(a>?b)": 15, "(?a>?b)": 15, "(a&!a)": 0, "!1": 0, "!(a|b)": 1, "!?a": 0, "c": -1, "a|b": -1, "": -1} {
		if got := impl.TrueIn(2, s); got != wanted {
			t.Errorf("TrueIn(2, %q) = %d, not %d", s, got, wanted)
		}
	}
}

func TestEntailsOf(t *testing.T) {
	for things := 1; things <= 3; things++ {
		sentences := sentencesToPair(things)
		for _, first := range sentences {
			for _, second := range sentences {
				wanted := true
				for set, supported := range meaningOf(things, first) {
					wanted = wanted && (!supported || meaningOf(things, second)[set])
				}
				if got := impl.EntailsOf(things, first, second); got != wanted {
					t.Fatalf("EntailsOf(%d, %q, %q) = %v", things, first, second, got)
				}
			}
		}
	}
}

func TestP10SentencesRaiseIssues(t *testing.T) {
	for things, s := range sampled() {
		issue := issueOfSentence(t, things, s)
		if !impl.IssueOk(things, issue) {
			t.Fatalf("IssueOf(%d, %q) = %v, which is no issue", things, s, issue)
		}
		granted := impl.GrantedBy(things, issue)
		if len(s)+2 <= impl.MaxText {
			checkIssue(t, "IssueOf !!"+s, things, issueOfSentence(t, things, "!!"+s), impl.StatementOf(things, granted))
		} else {
			refusesText(t, things, "!!"+s)
		}
		if len(s)+1 <= impl.MaxText {
			whether := issueOfSentence(t, things, "?"+s)
			if got := impl.GrantedBy(things, whether); got != setsFor(things)-1 {
				t.Fatalf("%d things: ?%s is %v, and grants %d", things, s, whether, got)
			}
		} else {
			refusesText(t, things, "?"+s)
		}
	}
}

func TestP11ToSupportIsToSettle(t *testing.T) {
	for things, s := range sampled() {
		issue := issueOfSentence(t, things, s)
		supported := make([]bool, setsFor(things))
		for set := range supported {
			supported[set] = impl.Supports(things, set, s)
			if settled := impl.Settles(things, issue, set); supported[set] != settled {
				t.Fatalf("%d things: %d supports %q: %v, and settles %v: %v", things, set, s, supported[set], issue, settled)
			}
		}
		for set := range supported {
			if supported[set] && !allWithin(set, func(part int) bool { return supported[part] }) {
				t.Fatalf("%d things: %d supports %q, and a set within does not", things, set, s)
			}
		}
	}
}

func TestP12WithoutOrAndWhetherNothingIsAsked(t *testing.T) {
	for things := 1; things <= 3; things++ {
		plain := 0
		for _, s := range sampleSentences(things) {
			if !impl.PlainOk(things, s) {
				continue
			}
			plain++
			checkIssue(t, "IssueOf "+s, things, issueOfSentence(t, things, s), []int{impl.TrueIn(things, s)})
		}
		if plain < 100 {
			t.Fatalf("%d things: only %d plain sentences", things, plain)
		}
	}
}

func TestP13WhatIsGrantedIsTrue(t *testing.T) {
	for things, s := range sampled() {
		all := setsFor(things) - 1
		so := impl.TrueIn(things, s)
		if granted := impl.GrantedBy(things, issueOfSentence(t, things, s)); so != granted {
			t.Fatalf("TrueIn(%d, %q) = %d, and granted is %d", things, s, so, granted)
		}
		if len(s) < impl.MaxText {
			if not := impl.TrueIn(things, "!"+s); not != all-so {
				t.Fatalf("TrueIn(%d, %q) = %d, and with an exclamation mark %d", things, s, so, not)
			}
		} else {
			refusesText(t, things, "!"+s)
		}
	}
}

func TestP14ConsequencesAreConditions(t *testing.T) {
	for things := 1; things <= 3; things++ {
		all := setsFor(things) - 1
		sentences := sentencesToPair(things)
		for _, first := range sentences {
			for _, second := range sentences {
				entails := impl.EntailsOf(things, first, second)
				condition := "(" + first + ">" + second + ")"
				if supported := impl.Supports(things, all, condition); len(condition) <= impl.MaxText && supported != entails || len(condition) > impl.MaxText && supported {
					t.Fatalf("EntailsOf(%d, %q, %q) = %v, and the condition %v", things, first, second, entails, supported)
				}
				if entails && !isWithin(impl.TrueIn(things, first), impl.TrueIn(things, second)) {
					t.Fatalf("%d things: %q entails %q, and is true elsewhere", things, first, second)
				}
			}
		}
	}
}

func TestSentencesOfJustMaxTextBytes(t *testing.T) {
	for things := 1; things <= 3; things++ {
		for _, s := range longSentences(things) {
			checkText(t, things, s)
			for len(s) < impl.MaxText {
				s = "!" + s
			}
			checkText(t, things, s)
			if _, ok := impl.IssueOf(things, s); !ok || !impl.Supports(things, 0, s) || impl.TrueIn(things, s) < 0 || !impl.EntailsOf(things, s, s) {
				t.Fatalf("%d things: %q is refused", things, s)
			}
			refusesText(t, things, "!"+s)
			refusesText(t, things, "?"+s)
			refusesText(t, things, s+")")
		}
	}
	source := rand.New(rand.NewSource(61))
	for length := 61; length <= 200; length++ {
		refusesText(t, 3, randomSentence(source, 3, length))
	}
}

func TestWrongNumbersOfThings(t *testing.T) {
	for _, things := range wrongThings {
		for _, s := range slices.Concat(shortSentences(3, 5), longSentences(3), []string{"", "(", "d"}) {
			refusesText(t, things, s)
		}
	}
}

func TestLettersAreTheFirstOnes(t *testing.T) {
	for _, s := range []string{"b", "c", "!b", "?c", "(a&b)", "(b&a)", "(a|c)", "(c>a)", "(a>!?b)", "((a&a)|b)"} {
		refusesText(t, 1, s)
	}
	for _, s := range []string{"c", "!c", "?c", "(a&c)", "(c&b)", "(a|(b>c))"} {
		refusesText(t, 2, s)
		if _, ok := impl.IssueOf(3, s); !ok {
			t.Fatalf("%q is refused", s)
		}
	}
	for _, s := range []string{"d", "A", "z", "!d", "(a&d)", "`", "(d>a)", "\u00e1", "(a&\u0430)"} {
		for things := 1; things <= 3; things++ {
			refusesText(t, things, s)
		}
	}
}

func TestTextsThatBreakOffOrGoOn(t *testing.T) {
	for things, s := range sampled() {
		for length := range len(s) {
			refusesText(t, things, s[:length])
		}
		for _, more := range []string{"0", "1", "a", "!", "?", "(", ")", "&", "|", ">", " ", "\n", "\x00", "&a", s} {
			refusesText(t, things, s+more)
		}
	}
}

func TestTextsWithOneByteChanged(t *testing.T) {
	for things := 1; things <= 3; things++ {
		for _, s := range slices.Concat(neverSo(things), underConditions(things), longSentences(things)[:15]) {
			for at := range len(s) {
				for _, other := range []byte("01abcdA!?()&|>[] 2\x00\x80") {
					checkText(t, things, s[:at]+string([]byte{other})+s[at+1:])
				}
			}
		}
	}
}

func TestEveryOtherByteIsRefused(t *testing.T) {
	for other := range 256 {
		if strings.IndexByte("01abc!?()&|>", byte(other)) >= 0 {
			continue
		}
		for _, s := range []string{"_", "!_", "_a", "a_", "(_a&b)", "(a_b)", "(a&_)", "(a&b_", "(a&b)_", "(?a>!_)", "_a&b)"} {
			refusesText(t, 3, strings.Replace(s, "_", string([]byte{byte(other)}), 1))
		}
	}
}

func TestTextsWithOneByteMoreOrLess(t *testing.T) {
	for things := 1; things <= 3; things++ {
		for _, s := range slices.Concat(neverSo(things), underConditions(things), longSentences(things)) {
			for at := range len(s) + 1 {
				for _, more := range []string{"0", "a", "!", "?", "(", ")", "&", "|", ">", " "} {
					checkText(t, things, s[:at]+more+s[at:])
				}
				if at < len(s) {
					checkText(t, things, s[:at]+s[at+1:])
				}
			}
		}
	}
}

func TestWrongSetsSupportNothing(t *testing.T) {
	for things := 1; things <= 3; things++ {
		for _, set := range slices.Concat(wrongSets(things), []int{math.MinInt + 1, -2, -256, 256, 257, 511, 65536}) {
			for _, s := range []string{"1", "0", "a", "!0", "?1", "(a>a)", "", "("} {
				if impl.Supports(things, set, s) {
					t.Fatalf("Supports(%d, %d, %q) = true", things, set, s)
				}
			}
		}
	}
}

func TestIssuesOfSentencesAreNewMemory(t *testing.T) {
	for things, s := range sampled() {
		first := issueOfSentence(t, things, s)
		second := issueOfSentence(t, things, s)
		wanted := slices.Clone(second)
		overwrite(first, -7)
		if !slices.Equal(second, wanted) || !slices.Equal(issueOfSentence(t, things, s), wanted) {
			t.Fatalf("IssueOf(%d, %q) returns the same memory twice", things, s)
		}
	}
}

// wildNumbers are numbers of things and sets, right and wrong.
var wildNumbers = []int{math.MinInt, -1, 0, 1, 2, 3, 4, 15, 255, 256, 64, math.MaxInt}

// wildTexts are texts of any bytes, of any length.
func wildTexts() []string {
	texts := []string{"", "\x00", "\xff\xfe", "(", ")", "()", "!", "?", "(a", "(a&", "(a&b", "((", "))", "&", "a&b", "[a]b", "(a&b)", "(?a>?b)"}
	for _, long := range []string{"!", "?", "(", "(a>", ")", "a", "\x80", "(a&b)"} {
		texts = append(texts, strings.Repeat(long, 60), strings.Repeat(long, 1<<20))
	}
	source := rand.New(rand.NewSource(256))
	for range 3000 {
		text := make([]byte, source.Intn(70))
		for i := range text {
			text[i] = byte(source.Intn(256))
		}
		signs := make([]byte, source.Intn(70))
		for i := range signs {
			signs[i] = "01abc!?((&|>))"[source.Intn(14)]
		}
		texts = append(texts, string(text), string(signs))
	}
	return texts
}

func TestSentencesNeverPanic(t *testing.T) {
	for _, text := range wildTexts() {
		for _, things := range wildNumbers {
			impl.IssueOf(things, text)
			impl.PlainOk(things, text)
			impl.TrueIn(things, text)
			impl.EntailsOf(things, text, "a")
			impl.EntailsOf(things, "(a>b)", text)
			for _, set := range wildNumbers {
				impl.Supports(things, set, text)
			}
		}
	}
}
