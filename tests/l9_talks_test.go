package tests

import (
	"fmt"
	"iter"
	"math/rand"
	"regexp"
	"slices"
	"strings"
	"testing"

	"loop.example/openissues/impl"
)

// The model of talks takes what sentences mean from meaningOf and changesOf, and the forms of lines from regular expressions.

func stateIs(things int, s impl.State) bool {
	if s.Known < 1 || s.Known >= setsFor(things) || len(s.Open) > 4 {
		return false
	}
	different := map[string]bool{}
	for _, question := range s.Open {
		supported := meaningOf(things, question)
		if supported == nil || supported[s.Known] {
			return false
		}
		different[question] = true
	}
	return len(different) == len(s.Open)
}

func talkIs(t impl.Talk) bool {
	if worldsByThings[t.Things] == 0 || len(t.Past) > 10 {
		return false
	}
	for _, s := range append([]impl.State{t.Now}, t.Past...) {
		if !stateIs(t.Things, s) {
			return false
		}
	}
	return true
}

// stateTold is a state after a sentence is told, if it can be.
func stateTold(things int, s impl.State, supported []bool) (impl.State, bool) {
	after := impl.State{}
	for world := range worldsByThings[things] {
		if has(s.Known, world) && supported[1<<world] {
			after.Known += 1 << world
		}
	}
	for _, question := range s.Open {
		if !meaningOf(things, question)[after.Known] {
			after.Open = append(after.Open, question)
		}
	}
	return after, after.Known != 0 && after.Known != s.Known
}

// stateAsked is a state after a question is raised, if it can be. What a question grants are the worlds of all sets that support it.
func stateAsked(s impl.State, question string, supported []bool) (impl.State, bool) {
	granted := 0
	for set, supports := range supported {
		if supports {
			granted |= set
		}
	}
	open := append(slices.Clone(s.Open), question)
	return impl.State{Known: s.Known, Open: open}, !supported[s.Known] && isWithin(s.Known, granted) && len(open) <= 4 && !slices.Contains(s.Open, question)
}

// talkAfter is a talk after a deed, and whether it can be done.
func talkAfter(t impl.Talk, d impl.Deed) (impl.Talk, bool) {
	if d.Kind == 2 {
		last := len(t.Past) - 1
		if d.Text != "" || last < 0 {
			return t, false
		}
		return impl.Talk{Things: t.Things, Now: t.Past[last], Past: slices.Clone(t.Past[:last])}, true
	}
	supported := meaningOf(t.Things, d.Text)
	if supported == nil || d.Kind != 0 && d.Kind != 1 {
		return t, false
	}
	now, ok := stateTold(t.Things, t.Now, supported)
	if d.Kind == 1 {
		now, ok = stateAsked(t.Now, d.Text, supported)
	}
	if !ok {
		return t, false
	}
	past := append(slices.Clone(t.Past), t.Now)
	if len(past) == 11 {
		past = past[1:]
	}
	return impl.Talk{Things: t.Things, Now: now, Past: past}, true
}

func talkAfterAll(t impl.Talk, list []impl.Deed) (impl.Talk, int) {
	count := 0
	for _, d := range list {
		after, done := talkAfter(t, d)
		t = after
		if done {
			count++
		}
	}
	return t, count
}

var deedForm = regexp.MustCompile(`\A(?:(tell|ask) ([ -~]+)|back)\z`)

// deedOf is the deed of a line, if it is one.
func deedOf(line string) (impl.Deed, bool) {
	parts := deedForm.FindStringSubmatch(line)
	switch {
	case parts == nil:
		return impl.Deed{}, false
	case parts[1] == "tell":
		return impl.Deed{Kind: 0, Text: parts[2]}, true
	case parts[1] == "ask":
		return impl.Deed{Kind: 1, Text: parts[2]}, true
	}
	return impl.Deed{Kind: 2}, true
}

var judgeForm = regexp.MustCompile(`(?s)\A(settled|possible|sense) (.*)\z`)

// judgement is the answer to a line that asks something of a sentence.
func judgement(t impl.Talk, asked string, text string) string {
	supported, changes := meaningOf(t.Things, text), []int(nil)
	if asked == "sense" {
		changes = changesOf(t.Things, text)
	}
	yes := false
	switch {
	case asked == "sense" && changes != nil:
		yes = changes[t.Now.Known] >= 0
	case asked == "settled" && supported != nil:
		yes = supported[t.Now.Known]
	case asked == "possible" && supported != nil:
		yes = truthIn(t.Things, supported)&t.Now.Known > 0
	default:
		return "what"
	}
	return map[bool]string{true: "yes", false: "no"}[yes]
}

// talkAfterLine is a talk after a line, and the answer.
func talkAfterLine(t impl.Talk, line string) (impl.Talk, string) {
	if d, ok := deedOf(line); ok {
		after, done := talkAfter(t, d)
		return after, map[bool]string{true: "ok", false: "no"}[done]
	}
	if parts := judgeForm.FindStringSubmatch(line); parts != nil {
		return t, judgement(t, parts[1], parts[2])
	}
	last := "none"
	for _, question := range t.Now.Open {
		last = question
	}
	answers := map[string]string{"known": fmt.Sprint(t.Now.Known), "open": fmt.Sprint(len(t.Now.Open)), "now": last, "past": fmt.Sprint(len(t.Past))}
	if answer, ok := answers[line]; ok {
		return t, answer
	}
	return t, "what"
}

func talkAfterLines(t impl.Talk, lines []string) (impl.Talk, []string) {
	var answers []string
	for _, line := range lines {
		after, answer := talkAfterLine(t, line)
		t, answers = after, append(answers, answer)
	}
	return t, answers
}

func tell(text string) impl.Deed { return impl.Deed{Kind: impl.TkTell, Text: text} }

func ask(text string) impl.Deed { return impl.Deed{Kind: impl.TkAsk, Text: text} }

func back() impl.Deed { return impl.Deed{Kind: impl.TkBack} }

// newTalk is a talk in which all worlds are held for possible.
func newTalk(things int) impl.Talk {
	return impl.Talk{Things: things, Now: impl.State{Known: setsFor(things) - 1}}
}

func sameState(a impl.State, b impl.State) bool {
	return a.Known == b.Known && slices.Equal(a.Open, b.Open)
}

func sameTalk(a impl.Talk, b impl.Talk) bool {
	return a.Things == b.Things && sameState(a.Now, b.Now) && slices.EqualFunc(a.Past, b.Past, sameState)
}

// isNoTalk reports whether a talk is the zero value.
func isNoTalk(t impl.Talk) bool {
	return t.Things == 0 && t.Now.Known == 0 && t.Now.Open == nil && t.Past == nil
}

// sentencesToSay are short and long sentences, some that are never so or always so, and some that take something for granted.
func sentencesToSay(things int) []string {
	list := slices.Concat(shortSentences(things, 3), neverSo(things)[:6], underConditions(things), longSentences(things)[:20])
	list = append(list, "(a|!a)", "!(a&!a)", "?(a>a)", "(a|a)", "(?a&a)", "(?a|0)")
	if things > 1 {
		list = append(list, "(a|b)", "(a&b)", "(b|a)", "!(a|b)", "(?a&?b)", "(?a|?b)", "(?a&b)", "?(a|b)", "((a|b)&?b)", "!(a&b)", "((a|!b)|b)", "(!a|!b)")
	}
	if things > 2 {
		list = append(list, "(a|(b|c))", "!(a&(b&c))", "(a>(b>?c))", "((a|b)&(b|c))", "(c|!c)", "!((a|b)|c)", "(?a&(?b&?c))", "!((a&b)&!c)", "!((!a&b)&c)", "(?c&(a|b))", "((a&b)|c)")
	}
	return list
}

// randomState returns a state with so many open questions.
func randomState(source *rand.Rand, things int, sentences []string, open int) impl.State {
	s := impl.State{Known: 1 + source.Intn(setsFor(things)-1)}
	for len(s.Open) < open {
		question := sentences[source.Intn(len(sentences))]
		if !meaningOf(things, question)[s.Known] && !slices.Contains(s.Open, question) {
			s.Open = append(s.Open, question)
		}
	}
	return s
}

// talksToTry are talks with any sets, with up to 4 open questions, and with up to 10 states of before, be there deeds that lead to them or not.
func talksToTry(things int) []impl.Talk {
	sentences := sentencesToSay(things)
	source := rand.New(rand.NewSource(int64(900 + things)))
	talks := []impl.Talk{newTalk(things)}
	for _, past := range []int{0, 0, 1, 2, 9, 10} {
		for open := range 5 {
			made := impl.Talk{Things: things, Now: randomState(source, things, sentences, open)}
			for range past {
				made.Past = append(made.Past, randomState(source, things, sentences, source.Intn(5)))
			}
			talks = append(talks, made)
		}
	}
	for known := 1; known < setsFor(things); known += 1 + known/9 {
		talks = append(talks, impl.Talk{Things: things, Now: impl.State{Known: known}})
	}
	return talks
}

// talksTried yields each talk of talksToTry, for 1, 2 and 3 things.
func talksTried() iter.Seq[impl.Talk] {
	return func(yield func(impl.Talk) bool) {
		for things := 1; things <= 3; things++ {
			for _, talk := range talksToTry(things) {
				if !yield(talk) {
					return
				}
			}
		}
	}
}

// deedsToTry are all deeds with sentences to say, and deeds that can never be done.
func deedsToTry(things int) []impl.Deed {
	list := slices.Concat([]impl.Deed{back()}, deedsNeverDone(things))
	for _, s := range sentencesToSay(things) {
		list = append(list, tell(s), ask(s))
	}
	return list
}

// deedsNeverDone are deeds of other kinds, with texts that are no sentences, and TkBack with a text.
func deedsNeverDone(things int) []impl.Deed {
	var list []impl.Deed
	for _, kind := range []int{-1 << 63, -2, -1, 3, 4, 100, 1<<63 - 1} {
		for _, text := range []string{"", "a", "?a", "!a", "back", "1"} {
			list = append(list, impl.Deed{Kind: kind, Text: text})
		}
	}
	texts := []string{"", " ", "a ", " a", "?a ", "  ?a", "a\n", "d", "?d", "A", "a|!a", "(a)", "(a|!a", "a)", "[a]1", "[1]a", "tell a", "ask ?a", "back", "\x00", "\xff", "?a\x00", strings.Repeat("!", 60) + "a", strings.Repeat("?", 60) + "a", "(" + strings.Repeat("!", 56) + "a|a)", "abc"[things:] + "z"}
	if things < 3 {
		texts = append(texts, "abc"[things:things+1], "?"+"abc"[things:things+1])
	}
	for _, text := range texts {
		list = append(list, tell(text), ask(text))
	}
	for _, text := range []string{" ", "a", "?a", "0", "1", "back", "\n", "\x00"} {
		list = append(list, impl.Deed{Kind: impl.TkBack, Text: text})
	}
	return list
}

// someDeeds are deeds in any order, of which one of three puts back what was before.
func someDeeds(source *rand.Rand, things int, count int) []impl.Deed {
	deeds := deedsToTry(things)
	list := make([]impl.Deed, count)
	for i := range list {
		list[i] = deeds[source.Intn(len(deeds))]
		if source.Intn(3) == 0 {
			list[i] = back()
		}
	}
	return list
}

// checkDeed checks a talk after a deed, and returns it.
func checkDeed(t *testing.T, talk impl.Talk, d impl.Deed) impl.Talk {
	t.Helper()
	wanted, done := talkAfter(talk, d)
	got, ok := impl.TalkDo(talk, d)
	if ok != done || !sameTalk(got, wanted) {
		t.Fatalf("TalkDo(%v, %v) = %v, %v, not %v, %v", talk, d, got, ok, wanted, done)
	}
	return got
}

func TestConstantsOfTalks(t *testing.T) {
	if impl.TkTell != 0 || impl.TkAsk != 1 || impl.TkBack != 2 || impl.MaxOpen != 4 || impl.MaxPast != 10 || impl.MaxLines != 40 {
		t.Fatal(impl.TkTell, impl.TkAsk, impl.TkBack, impl.MaxOpen, impl.MaxPast, impl.MaxLines)
	}
}

func TestExamplesOfTheDocument(t *testing.T) {
	lines := [][2]string{
		{"known", "15"}, {"now", "none"}, {"ask ?a", "ok"}, {"ask (a|b)", "no"}, {"tell (a|b)", "ok"}, {"ask (a|b)", "ok"}, {"open", "2"}, {"now", "(a|b)"},
		{"settled !!(a|b)", "yes"}, {"sense [a]b", "no"}, {"tell !b", "ok"}, {"known", "2"}, {"open", "0"}, {"sense [a]b", "yes"}, {"back", "ok"}, {"known", "14"},
	}
	talk := impl.TalkNew(2)
	var all, wanted []string
	for _, line := range lines {
		after, answer := impl.TalkLine(talk, line[0])
		if answer != line[1] {
			t.Fatalf("%q is answered by %q, not by %q", line[0], answer, line[1])
		}
		talk, all, wanted = after, append(all, line[0]), append(wanted, line[1])
	}
	said, answers := impl.TalkSay(impl.TalkNew(2), all)
	if !sameTalk(said, talk) || !slices.Equal(answers, wanted) {
		t.Fatal(said, answers)
	}
	before := impl.State{Known: 15, Open: []string{"?a"}}
	last := impl.State{Known: 14, Open: []string{"?a", "(a|b)"}}
	if !sameTalk(said, impl.Talk{Things: 2, Now: last, Past: []impl.State{{Known: 15}, before, {Known: 14, Open: []string{"?a"}}}}) {
		t.Fatal(said)
	}
}

func TestTalksToTryAreTalks(t *testing.T) {
	full := map[int]bool{}
	for talk := range talksTried() {
		if !talkIs(talk) {
			t.Fatalf("%v is no talk", talk)
		}
		if len(talk.Past) == 10 && len(talk.Now.Open) == 4 {
			full[talk.Things] = true
		}
	}
	if len(full) != 3 {
		t.Fatal("no talks that are full")
	}
}

func TestTalkOk(t *testing.T) {
	for talk := range talksTried() {
		if !impl.TalkOk(talk) {
			t.Fatalf("TalkOk(%v) = false", talk)
		}
	}
}

// TestQuestionsOfTalksMayBeOpenThoughTheyCouldNotBeRaised has open questions that are never settled, or that take something for granted that is not known.
func TestQuestionsOfTalksMayBeOpenThoughTheyCouldNotBeRaised(t *testing.T) {
	for things := 1; things <= 3; things++ {
		for _, question := range slices.Concat([]string{"a", "!a", "(?a&a)"}, neverSo(things)) {
			talk := newTalk(things)
			talk.Now.Open = []string{question}
			talk.Past = []impl.State{{Known: talk.Now.Known, Open: []string{"?a", question}}}
			if !impl.TalkOk(talk) {
				t.Fatalf("TalkOk(%v) = false", talk)
			}
			checkDeed(t, newTalk(things), ask(question))
			if _, ok := impl.TalkDo(newTalk(things), ask(question)); ok {
				t.Fatalf("%d things: %q is raised", things, question)
			}
		}
	}
}

// wrongStates are states that no talk of a number of things has.
func wrongStates(things int) []impl.State {
	all := setsFor(things) - 1
	list := []impl.State{{}, {Open: []string{"?a"}}, {Open: []string{"0"}}}
	for _, known := range wrongSets(things) {
		list = append(list, impl.State{Known: known}, impl.State{Known: known, Open: []string{"?a"}})
	}
	for _, open := range [][]string{
		{"1"}, {"!0"}, {"(a|!a)0"}, {"?1"}, {"!!(a|!a)"}, {"(a>a)"}, {"?a", "1"}, {"1", "?a"}, {"?a", "?!a", "??a", "?1"},
		{""}, {" "}, {"none"}, {"d"}, {"?d"}, {"?a "}, {" ?a"}, {"?a\n"}, {"[a]1"}, {"(a|b"}, {"?a", ""}, {"", "?a"}, {"?a", "x", "?!a"}, {"?a", "?!a", "(?a|a)", "x"}, {strings.Repeat("?", 60) + "a"},
		{"?a", "?a"}, {"0", "0"}, {"?a", "?!a", "?a"}, {"?!a", "?a", "?a"}, {"?a", "0", "a", "?a"}, {"?a", "0", "?!a", "0"}, {"0", "?a", "?!a", "?!a"},
		{"?a", "?!a", "0", "!a", "a"}, {"?a", "?!a", "0", "!a", "?a"}, {"?a", "?!a", "0", "!a", "a", "(a|0)", "!!a", "!!!a"},
	} {
		list = append(list, impl.State{Known: all, Open: open})
	}
	for _, question := range []string{"a", "?a", "!!a", "(a|!a)", "?!a"} {
		list = append(list, impl.State{Known: 2, Open: []string{question}}, impl.State{Known: 2, Open: []string{"!a", question, "0"}})
	}
	if things < 3 {
		list = append(list, impl.State{Known: all, Open: []string{"?" + "abc"[things:things+1]}})
	}
	if things > 1 {
		list = append(list, impl.State{Known: 14, Open: []string{"!!(a|b)"}}, impl.State{Known: 9, Open: []string{"?b", "(?a>?b)"}}, impl.State{Known: 8, Open: []string{"(a|b)"}})
	}
	return list
}

// wrongTalks are talks that are none: with other numbers of things, with a wrong state now or before, and with too many states of before.
func wrongTalks() []impl.Talk {
	list := []impl.Talk{{}}
	for _, things := range wrongThings {
		for _, known := range []int{0, 1, 3, 15, 255} {
			list = append(list, impl.Talk{Things: things, Now: impl.State{Known: known}}, impl.Talk{Things: things, Now: impl.State{Known: known, Open: []string{"0"}}, Past: []impl.State{{Known: known}}})
		}
	}
	for things := 1; things <= 3; things++ {
		right := impl.State{Known: setsFor(things) - 1, Open: []string{"?a"}}
		for _, wrong := range wrongStates(things) {
			list = append(list, impl.Talk{Things: things, Now: wrong}, impl.Talk{Things: things, Now: wrong, Past: []impl.State{right}})
			for _, past := range []int{1, 2, 10} {
				for at := range past {
					before := slices.Repeat([]impl.State{right}, past)
					before[at] = wrong
					list = append(list, impl.Talk{Things: things, Now: right, Past: before})
				}
			}
		}
		for _, past := range []int{11, 12, 100} {
			list = append(list, impl.Talk{Things: things, Now: right, Past: slices.Repeat([]impl.State{right}, past)})
		}
	}
	return list
}

func TestWrongTalksAreRefused(t *testing.T) {
	for _, talk := range wrongTalks() {
		if talkIs(talk) || impl.TalkOk(talk) {
			t.Fatalf("TalkOk(%v) = true", talk)
		}
		for _, d := range []impl.Deed{tell("a"), ask("?a"), ask("??a"), back(), {Kind: 7}, {Kind: impl.TkBack, Text: "x"}} {
			if got, ok := impl.TalkDo(talk, d); ok || !isNoTalk(got) {
				t.Fatalf("TalkDo(%v, %v) = %v, %v", talk, d, got, ok)
			}
			for _, list := range [][]impl.Deed{nil, {d}, {d, back()}, slices.Repeat([]impl.Deed{d}, 41)} {
				if got, n := impl.TalkRun(talk, list); n != 0 || !isNoTalk(got) {
					t.Fatalf("TalkRun(%v, %v) = %v, %d", talk, list, got, n)
				}
			}
		}
		for _, line := range []string{"", "known", "open", "now", "past", "tell a", "ask ?a", "back", "settled 1", "possible a", "sense a", "sense", "what"} {
			if got, answer := impl.TalkLine(talk, line); answer != "" || !isNoTalk(got) {
				t.Fatalf("TalkLine(%v, %q) = %v, %q", talk, line, got, answer)
			}
			for _, lines := range [][]string{nil, {line}, {line, "back"}, slices.Repeat([]string{line}, 41)} {
				if got, answers := impl.TalkSay(talk, lines); answers != nil || !isNoTalk(got) {
					t.Fatalf("TalkSay(%v, %q) = %v, %q", talk, lines, got, answers)
				}
			}
		}
	}
}

func TestP49TalksCanForget(t *testing.T) {
	for talk := range talksTried() {
		talk.Past = nil
		if !impl.TalkOk(talk) {
			t.Fatalf("TalkOk(%v) = false", talk)
		}
		talk.Past = []impl.State{}
		if !impl.TalkOk(talk) {
			t.Fatalf("TalkOk(%v) = false with no states of before", talk)
		}
	}
}

func TestP50InNewTalksEverythingIsPossible(t *testing.T) {
	for things := 1; things <= 3; things++ {
		talk := impl.TalkNew(things)
		if !impl.TalkOk(talk) || !sameTalk(talk, newTalk(things)) {
			t.Fatalf("TalkNew(%d) = %v", things, talk)
		}
		if _, answer := impl.TalkLine(talk, "known"); answer != []string{"", "3", "15", "255"}[things] {
			t.Fatalf("%d things: %s is known", things, answer)
		}
	}
	for _, things := range wrongThings {
		if talk := impl.TalkNew(things); !isNoTalk(talk) || impl.TalkOk(talk) {
			t.Fatalf("TalkNew(%d) = %v", things, talk)
		}
	}
}

func TestTalkDo(t *testing.T) {
	for things := 1; things <= 3; things++ {
		deeds := deedsToTry(things)
		done := map[int]int{}
		for _, talk := range talksToTry(things) {
			for _, d := range deeds {
				checkDeed(t, talk, d)
				if _, ok := talkAfter(talk, d); ok {
					done[d.Kind]++
				}
			}
		}
		if done[0] < 150 || done[1] < 100 || done[2] < 20 {
			t.Fatalf("%d things: only %v deeds can be done", things, done)
		}
	}
}

// TestAllShortRunsOfDeeds goes on from each new talk with every deed that can be done, again and again.
func TestAllShortRunsOfDeeds(t *testing.T) {
	sentences := map[int][]string{
		1: shortSentences(1, 3),
		2: append(shortSentences(2, 2), "(a|b)", "(a&b)", "!(a&b)", "(?a&?b)", "(?a|?b)", "(a>?b)"),
		3: {"a", "!b", "c", "?a", "?b", "?c", "(a|b)", "!(a&b)", "(b>c)", "(?a&?c)", "(a>?b)", "0", "1", "(a|(b|c))"},
	}
	for things := 1; things <= 3; things++ {
		deeds := []impl.Deed{back()}
		for _, s := range sentences[things] {
			deeds = append(deeds, tell(s), ask(s))
		}
		var goOn func(talk impl.Talk, deedsLeft int)
		goOn = func(talk impl.Talk, deedsLeft int) {
			for _, d := range deeds {
				after := checkDeed(t, talk, d)
				if deedsLeft > 1 && !sameTalk(after, talk) {
					goOn(after, deedsLeft-1)
				}
			}
		}
		goOn(impl.TalkNew(things), 3)
	}
}

// checkRun checks which of some deeds are done, one after the other, and to which state they lead.
func checkRun(t *testing.T, talk impl.Talk, deeds string, done string, known int, open ...string) {
	t.Helper()
	got := ""
	for _, line := range strings.Split(deeds, ", ") {
		d, _ := deedOf(line)
		after, ok := impl.TalkDo(talk, d)
		got += map[bool]string{true: "y", false: "n"}[ok]
		if !ok && !sameTalk(after, talk) {
			t.Fatalf("%q cannot be done, and changes %v to %v", line, talk, after)
		}
		talk = after
	}
	if got != done || talk.Now.Known != known || !slices.Equal(talk.Now.Open, open) {
		t.Fatalf("%s: done %s, and %v", deeds, got, talk)
	}
}

func TestWhatIsNotPossibleIsNotTold(t *testing.T) {
	checkRun(t, newTalk(1), "tell 0, tell (a&!a), tell !1, tell !?a", "nnnn", 3)
	checkRun(t, newTalk(1), "tell a, tell !a, tell a, tell 0, tell ?a, tell 1", "ynnnnn", 2)
	checkRun(t, newTalk(2), "tell (a&!b), tell b, tell !a, tell !(a|b)", "ynnn", 2)
	checkRun(t, newTalk(2), "tell (a|b), tell (!a&!b), tell !b, tell b", "ynyn", 2)
	checkRun(t, newTalk(3), "tell (a>c), tell (a&!c), tell !c, tell a, tell b, tell !b", "ynynyn", 4)
}

func TestWhatIsSoInAllWorldsIsNotTold(t *testing.T) {
	checkRun(t, newTalk(1), "tell 1, tell !0, tell (a|!a), tell ?a, tell (a>?a), tell ?0", "nnnnnn", 3)
	checkRun(t, newTalk(2), "tell (a|b), tell (b|a), tell !(!a&!b), tell (a|(b&!a)), tell ?(a|b), tell (?a|b)", "ynnnnn", 14)
	checkRun(t, newTalk(2), "tell a, tell a, tell (a|b), tell (b>a), tell b, tell b, tell (a&b)", "ynnnynn", 8)
	checkRun(t, newTalk(3), "tell !c, tell !c, tell (c>b), tell (a|b), tell ((a|b)|c)", "ynnyn", 14)
}

func TestQuestionsThatAreSettledAreNotRaised(t *testing.T) {
	checkRun(t, newTalk(1), "ask 1, ask ?1, ask ?0, ask (a|!a)", "nnny", 3, "(a|!a)")
	checkRun(t, newTalk(1), "tell a, ask ?a, ask a, ask ?!a, ask (?a|a)", "ynnnn", 2)
	checkRun(t, newTalk(2), "tell !a, ask ?a, ask ?b, ask (?a>?b), ask (?b>?a), ask (a>?b), ask (?a|?b)", "ynyynnn", 5, "?b", "(?a>?b)")
	checkRun(t, newTalk(2), "tell !(a&b), tell (a|b), ask !(a&b), ask ?a, ask ?(a&b), ask (?a>?b), ask (?b|a)", "yynynny", 6, "?a", "(?b|a)")
}

func TestQuestionsThatAreOpenAreNotRaised(t *testing.T) {
	checkRun(t, newTalk(1), "ask ?a, ask ?a, ask ?!a, ask ?a, ask ?!a, back, ask ?!a", "ynynnyy", 3, "?a", "?!a")
	checkRun(t, newTalk(2), "ask ?b, ask (?a&?b), ask ?b, tell a, ask (?a&?b), ask ?b, back, back, ask (?a&?b)", "yynynnyyy", 15, "?b", "(?a&?b)")
}

func TestQuestionsThatTakeSomethingForGrantedAreNotRaised(t *testing.T) {
	checkRun(t, newTalk(1), "ask a, ask !a, ask 0, ask (?a&a), ask (a&!a)", "nnnnn", 3)
	checkRun(t, newTalk(2), "ask (a|b), ask (?a&b), ask a, tell b, ask (a|b), ask (?a&b), ask (?a&!b), ask ?a", "nnnynyny", 12, "(?a&b)", "?a")
	checkRun(t, newTalk(2), "ask (a|b), tell !(a&b), ask (a|b), tell (a|b), ask (a|b), ask !(a&b), ask (!a|!b)", "nynyyny", 6, "(a|b)", "(!a|!b)")
	checkRun(t, newTalk(3), "ask (a|(b|c)), tell (a|b), ask (a|(b|c)), ask (a|b), ask (b|c), tell (b|c), ask (b|c)", "nyyynyy", 236, "(a|(b|c))", "(a|b)", "(b|c)")
}

func TestAtMostMaxOpenQuestionsAreOpen(t *testing.T) {
	for things := 1; things <= 3; things++ {
		checkRun(t, newTalk(things), "ask ?a, ask ?!a, ask ??a, ask (?a|a), ask (a|!a), ask ?a, back, ask (a|!a), ask (?a|a)", "yyyynnyyn", setsFor(things)-1, "?a", "?!a", "??a", "(a|!a)")
	}
	checkRun(t, newTalk(2), "ask ?a, ask ?b, ask (?a&?b), ask ?(a|b), ask ?(a&b), tell a, ask (?b|a), ask ?(a&b)", "yyyynyny", 10, "?b", "(?a&?b)", "?(a&b)")
}

func TestWhatIsToldSettlesSomeOpenQuestions(t *testing.T) {
	checkRun(t, newTalk(2), "ask ?a, ask ?(a&b), ask ?b, tell a", "yyyy", 10, "?(a&b)", "?b")
	checkRun(t, newTalk(2), "ask ?a, ask ?(a&b), ask ?b, tell !b", "yyyy", 3, "?a")
	checkRun(t, newTalk(2), "ask ?a, ask ?(a&b), ask ?b, tell (a|b), tell !b", "yyyyy", 2)
	checkRun(t, newTalk(2), "ask ?a, ask ?(a&b), ask ?b, tell (a|b)", "yyyy", 14, "?a", "?(a&b)", "?b")
	checkRun(t, newTalk(3), "ask ?c, ask (?a>?b), ask ?(a&c), ask ?b, tell (a&b)", "yyyyy", 136, "?c", "?(a&c)")
	checkRun(t, newTalk(3), "ask ?c, ask (?a>?b), ask ?(a&c), ask ?b, tell !c", "yyyyy", 15, "(?a>?b)", "?b")
	checkRun(t, newTalk(3), "ask ?c, ask (?a>?b), ask ?(a&c), ask ?b, tell ((a&b)|(!a&!b)), tell !(a&c), back, back", "yyyyyyyy", 255, "?c", "(?a>?b)", "?(a&c)", "?b")
	checkRun(t, newTalk(3), "ask ?c, ask (?a>?b), ask ?(a&c), ask ?b, tell ((a&b)|(!a&!b)), tell !(a&c)", "yyyyyy", 25, "?c", "?b")
}

func TestWithNothingBeforeNothingIsPutBack(t *testing.T) {
	for talk := range talksTried() {
		talk.Past = nil
		if got, ok := impl.TalkDo(talk, back()); ok || !sameTalk(got, talk) {
			t.Fatalf("TalkDo(%v, back) = %v, %v", talk, got, ok)
		}
	}
	checkRun(t, newTalk(1), "back, tell a, back, back, ask ?a, back, back", "nyynyyn", 3)
}

func TestTkBackWithATextPutsNothingBack(t *testing.T) {
	for talk := range talksTried() {
		for _, text := range []string{" ", "a", "?a", "back", "\x00", "1", "0"} {
			if got, ok := impl.TalkDo(talk, impl.Deed{Kind: impl.TkBack, Text: text}); ok || !sameTalk(got, talk) {
				t.Fatalf("TalkDo(%v, back with %q) = %v, %v", talk, text, got, ok)
			}
		}
	}
}

func TestAtMostMaxPastStatesOfBeforeAreKept(t *testing.T) {
	talk := newTalk(3)
	var states []impl.State
	for i, line := range []string{"ask ?a", "ask ?b", "ask ?c", "tell !(a&(b&c))", "ask (?a>?b)", "tell !(b&c)", "tell (b|c)", "tell !(a&b)", "tell !c", "ask ?(a&b)", "back", "back", "tell !(!a&c)", "tell c"} {
		d, _ := deedOf(line)
		after := checkDeed(t, talk, d)
		switch {
		case line == "back":
			states = states[:len(states)-1]
		case !sameTalk(after, talk):
			states = append(states, talk.Now)
		}
		talk = after
		if !slices.EqualFunc(talk.Past, states[max(0, len(states)-10):], sameState) {
			t.Fatalf("after %d deeds: %v, and %v were before", i+1, talk, states)
		}
	}
	for things := 1; things <= 3; things++ {
		for _, past := range []int{8, 9, 10} {
			talk := newTalk(things)
			for i := range past {
				talk.Past = append(talk.Past, impl.State{Known: 1 + i%2, Open: []string{"0", strings.Repeat("!", 2*i) + "0"}[:i%2]})
			}
			for _, line := range []string{"tell a", "ask ?a"} {
				d, _ := deedOf(line)
				after := checkDeed(t, talk, d)
				kept := append(slices.Clone(talk.Past), talk.Now)
				if past == 10 {
					kept = kept[1:]
				}
				if !slices.EqualFunc(after.Past, kept, sameState) || len(after.Past) > 10 {
					t.Fatalf("%q: %v after %v", line, after, talk)
				}
			}
		}
	}
}

func TestP35WhatWasDoneCanBeUndone(t *testing.T) {
	for things := 1; things <= 3; things++ {
		deeds := deedsToTry(things)
		for _, talk := range talksToTry(things) {
			for _, d := range deeds {
				after, ok := impl.TalkDo(talk, d)
				if !ok && !sameTalk(after, talk) {
					t.Fatalf("%v cannot be done, and changes %v to %v", d, talk, after)
				}
				if !ok || d.Kind == impl.TkBack {
					continue
				}
				undone, undoneOk := impl.TalkDo(after, back())
				if !undoneOk || !sameState(undone.Now, talk.Now) {
					t.Fatalf("%v: %v, and back: %v, %v", d, talk, undone, undoneOk)
				}
				if forgotten := len(talk.Past) / 10; !slices.EqualFunc(undone.Past, talk.Past[forgotten:], sameState) || undone.Things != talk.Things {
					t.Fatalf("%v: %v, and back: %v", d, talk, undone)
				}
			}
		}
	}
}

func TestP35WhatIsToldIsTrueAndNoOpenQuestionIsSettled(t *testing.T) {
	for things := 1; things <= 3; things++ {
		for _, talk := range talksToTry(things) {
			for _, d := range deedsToTry(things) {
				after, ok := impl.TalkDo(talk, d)
				if so := impl.TrueIn(things, d.Text); ok && d.Kind == impl.TkTell && (!isWithin(after.Now.Known, so) || after.Now.Known == 0) {
					t.Fatalf("%v after %v is told, which is true in %d", after, d, so)
				}
				for _, question := range after.Now.Open {
					if issue := issueOfSentence(t, things, question); impl.Settles(things, issue, after.Now.Known) {
						t.Fatalf("%v has a question that is settled: %q", after, question)
					}
				}
			}
		}
	}
}

// runsToTry yields talks with lists of at most MaxLines deeds.
func runsToTry() iter.Seq2[impl.Talk, []impl.Deed] {
	return func(yield func(impl.Talk, []impl.Deed) bool) {
		source := rand.New(rand.NewSource(936))
		for things := 1; things <= 3; things++ {
			for i, talk := range slices.Concat(slices.Repeat([]impl.Talk{newTalk(things)}, 60), talksToTry(things)) {
				count := source.Intn(41)
				if i%5 == 0 {
					count = 40
				}
				if !yield(talk, someDeeds(source, things, count)) {
					return
				}
			}
		}
	}
}

func TestTalkRun(t *testing.T) {
	longest := 0
	for talk, list := range runsToTry() {
		wanted, count := talkAfterAll(talk, list)
		if got, n := impl.TalkRun(talk, list); n != count || !sameTalk(got, wanted) {
			t.Fatalf("TalkRun(%v, %v) = %v, %d, not %v, %d", talk, list, got, n, wanted, count)
		}
		longest = max(longest, count)
	}
	if longest < 20 {
		t.Fatalf("at most %d deeds are done", longest)
	}
	for talk := range talksTried() {
		for _, list := range [][]impl.Deed{nil, {}, {{Kind: 3}}, slices.Repeat([]impl.Deed{tell("0")}, 40)} {
			if got, n := impl.TalkRun(talk, list); n != 0 || !sameTalk(got, talk) {
				t.Fatalf("TalkRun(%v, %v) = %v, %d", talk, list, got, n)
			}
		}
	}
}

func TestAtMostMaxLinesDeedsAreRun(t *testing.T) {
	for talk := range talksTried() {
		for _, d := range []impl.Deed{back(), ask("?a"), tell("a"), tell("0"), {Kind: 9}} {
			list := slices.Repeat([]impl.Deed{d}, 40)
			wanted, count := talkAfterAll(talk, list)
			if got, n := impl.TalkRun(talk, list); n != count || !sameTalk(got, wanted) {
				t.Fatalf("TalkRun(%v, 40 of %v) = %v, %d", talk, d, got, n)
			}
			for _, more := range []int{41, 42, 1000} {
				if got, n := impl.TalkRun(talk, slices.Repeat([]impl.Deed{d}, more)); n != 0 || !isNoTalk(got) {
					t.Fatalf("TalkRun(%v, %d of %v) = %v, %d", talk, more, d, got, n)
				}
			}
		}
	}
	all := slices.Repeat([]impl.Deed{ask("?a"), back()}, 20)
	if got, n := impl.TalkRun(newTalk(2), all); n != 40 || !sameTalk(got, newTalk(2)) {
		t.Fatal(got, n)
	}
}

func TestP36WhateverIsDoneItIsATalk(t *testing.T) {
	for talk, list := range runsToTry() {
		got, n := impl.TalkRun(talk, list)
		if !impl.TalkOk(got) || !talkIs(got) || n > len(list) {
			t.Fatalf("TalkRun(%v, %v) = %v, %d, which is no talk", talk, list, got, n)
		}
		for cut := 0; cut <= len(list); cut += 1 + cut/6 {
			half, first := impl.TalkRun(talk, list[:cut])
			whole, second := impl.TalkRun(half, list[cut:])
			if !sameTalk(whole, got) || first+second != n {
				t.Fatalf("TalkRun(%v, %v) = %v, %d, and in two parts, cut at %d, %v, %d and %d", talk, list, got, n, cut, whole, first, second)
			}
		}
	}
	for things := 1; things <= 3; things++ {
		for _, talk := range talksToTry(things) {
			for _, d := range deedsToTry(things) {
				if got, _ := impl.TalkDo(talk, d); !impl.TalkOk(got) {
					t.Fatalf("TalkDo(%v, %v) = %v, which is no talk", talk, d, got)
				}
			}
		}
	}
}
