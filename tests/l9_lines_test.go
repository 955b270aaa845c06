package tests

import (
	"fmt"
	"iter"
	"math/rand"
	"slices"
	"strings"
	"testing"

	"loop.example/openissues/impl"
)

// linesToSay are deeds, questions and other lines with sentences to say.
func linesToSay(things int) []string {
	lines := slices.Concat([]string{"known", "open", "now", "past", "back"}, linesThatAreNoDeeds, linesWithoutAnswer, []string{"tell  a", "tell a ", "ask  ?a", "ask ?a ", "tell d", "ask d", "ask [a]1", "tell a|b", "tell " + strings.Repeat("!", 60) + "a", "ask " + strings.Repeat("?", 60) + "a"})
	for _, s := range slices.Concat(sentencesToSay(things), []string{"abc"[things-1 : things], "d", "", "[a]1", "a ", "none"}) {
		lines = append(lines, "tell "+s, "ask "+s, "settled "+s, "possible "+s, "sense "+s)
	}
	for _, s := range slices.Concat(grantingNothing(things), bracketsUnderSigns(things), longLoaded(things)[:20]) {
		lines = append(lines, "sense "+s)
	}
	return lines
}

// linesWithoutAnswer are lines that are answered by what for all talks.
var linesWithoutAnswer = []string{
	"what", "ok", "yes", "no", "none", "Known", "known ", " known", "known\n", "known a", "knowns", "open ", " open", "open\n", "open 1", "opened", "now ", " now", "now\n", "now?", "no\x00w", "past ", " past", "past\n", "past 0", "pas", "known open",
	"settled", "settled ", "settled  a", " settled a", "settled a ", "settled a\n", "settled\ta", "settled d", "settled a|b", "settled (a|b", "settled [1]a", "settled none", "settled?a", "settle a", "Settled a", "settled  ", "settled\n", "settled " + strings.Repeat("!", 60) + "a",
	"possible", "possible ", "possible  a", " possible a", "possible a ", "possible a\n", "possible\ta", "possible d", "possible a|b", "possible (a|b", "possible [1]a", "possible none", "possible?a", "possibly a", "Possible a", "possible  ", "possible\n", "possible " + strings.Repeat("!", 60) + "a",
	"sense", "sense ", "sense  a", " sense a", "sense a ", "sense a\n", "sense\ta", "sense d", "sense a|b", "sense (a|b", "sense [1", "sense [1]", "sense 1]a", "sense []a", "sense ?a", "sense (a&?a)", "sense [?a]1", "sense [a]?a", "sense none", "sense[a]a", "senses a", "Sense a", "sense  ", "sense\n", "sense " + strings.Repeat("!", 60) + "a",
}

// checkLine checks a talk after a line, and the answer.
func checkLine(t *testing.T, talk impl.Talk, line string) {
	t.Helper()
	wanted, answer := talkAfterLine(talk, line)
	if got, said := impl.TalkLine(talk, line); said != answer || !sameTalk(got, wanted) {
		t.Fatalf("TalkLine(%v, %q) = %v, %q, not %v, %q", talk, line, got, said, wanted, answer)
	}
}

func TestTalkLine(t *testing.T) {
	for things := 1; things <= 3; things++ {
		lines := linesToSay(things)
		for i, talk := range talksToTry(things) {
			for j := i % things; j < len(lines); j += things {
				checkLine(t, talk, lines[j])
			}
		}
	}
}

func TestTalkLineExamples(t *testing.T) {
	talk := impl.Talk{Things: 2, Now: impl.State{Known: 14, Open: []string{"?a", "(a|!a)", "0"}}, Past: []impl.State{{Known: 15, Open: []string{"?b"}}, {Known: 15}}}
	for _, e := range [][2]string{
		{"known", "14"}, {"open", "3"}, {"now", "0"}, {"past", "2"}, {"back", "ok"}, {"tell a", "ok"}, {"ask ?b", "ok"}, {"ask ?a", "no"}, {"tell (a|b)", "no"}, {"tell 0", "no"}, {"ask a", "no"}, {"ask 1", "no"},
		{"settled (a|b)", "no"}, {"settled !!(a|b)", "yes"}, {"settled a", "no"}, {"settled ?a", "no"}, {"settled ?(a|b)", "no"}, {"settled ?!!(a|b)", "yes"}, {"settled 1", "yes"}, {"settled 0", "no"}, {"settled (!a>?b)", "yes"}, {"settled !(a|b)", "no"},
		{"possible a", "yes"}, {"possible (a&b)", "yes"}, {"possible !(a|b)", "no"}, {"possible 0", "no"}, {"possible 1", "yes"}, {"possible ?a", "yes"}, {"possible !?a", "no"},
		{"sense a", "yes"}, {"sense 0", "yes"}, {"sense [a]b", "no"}, {"sense [(a|b)]a", "yes"}, {"sense [0]1", "no"}, {"sense [1]0", "yes"}, {"sense (a&[a]b)", "yes"}, {"sense (!a>[b]1)", "yes"}, {"sense (!a>[a]1)", "no"}, {"sense [a]", "what"}, {"sense ?a", "what"},
		{"settled", "what"}, {"settled ", "what"}, {"settled c", "what"}, {"possible c", "what"}, {"sense c", "what"}, {"tell c", "no"}, {"ask ?c", "no"}, {"tell", "what"}, {"tell ", "what"}, {"tell  a", "no"}, {"tell a ", "no"}, {" tell a", "what"}, {"tell a\n", "what"}, {"settled [1]1", "what"}, {"possible [1]1", "what"},
	} {
		if _, answer := impl.TalkLine(talk, e[0]); answer != e[1] {
			t.Fatalf("%q is answered by %q, not by %q", e[0], answer, e[1])
		}
	}
	for i, past := range []string{"0", "1", "2", "9", "10"} {
		talk.Past = slices.Repeat([]impl.State{{Known: 15}}, []int{0, 1, 2, 9, 10}[i])
		if _, answer := impl.TalkLine(talk, "past"); answer != past {
			t.Fatalf("%s states of before are %q", past, answer)
		}
	}
	talk.Now.Open = nil
	for i := range 5 {
		if _, answer := impl.TalkLine(talk, "open"); answer != fmt.Sprint(i) {
			t.Fatalf("%d questions are %q", i, answer)
		}
		talk.Now.Open = append(talk.Now.Open, strings.Repeat("?", 1+i)+"b")
	}
}

func TestOtherLinesAreAnsweredByWhat(t *testing.T) {
	for talk := range talksTried() {
		for _, line := range slices.Concat(linesWithoutAnswer, linesThatAreNoDeeds) {
			switch line {
			case "known", "open", "now", "past", "settled a", "possible a", "sense a":
				continue
			}
			if got, answer := impl.TalkLine(talk, line); answer != "what" || !sameTalk(got, talk) {
				t.Fatalf("TalkLine(%v, %q) = %v, %q", talk, line, got, answer)
			}
		}
	}
}

func TestLinesWithOneByteChanged(t *testing.T) {
	talk := impl.Talk{Things: 2, Now: impl.State{Known: 7, Open: []string{"?a"}}, Past: []impl.State{{Known: 15}}}
	for _, line := range []string{"known", "open", "now", "past", "back", "tell a", "ask ?b", "settled a", "possible a", "sense [a]b"} {
		for at := range len(line) + 1 {
			checkLine(t, talk, line[:at])
			checkLine(t, talk, line[at:])
			for b := range 256 {
				checkLine(t, talk, line[:at]+string([]byte{byte(b)})+line[at:])
				checkLine(t, talk, line[:at]+string([]byte{byte(b)})+line[min(at+1, len(line)):])
			}
		}
	}
}

// talksToSay yields talks with at most MaxLines lines, of which many can be done.
func talksToSay() iter.Seq2[impl.Talk, []string] {
	return func(yield func(impl.Talk, []string) bool) {
		source := rand.New(rand.NewSource(938))
		for things := 1; things <= 3; things++ {
			others := linesToSay(things)
			for i, talk := range slices.Concat(slices.Repeat([]impl.Talk{newTalk(things)}, 40), talksToTry(things)) {
				count := source.Intn(41)
				if i%5 == 0 {
					count = 40
				}
				var lines []string
				for i, d := range someDeeds(source, things, count) {
					line := impl.DeedText(d)
					if line == "" || source.Intn(2) == 0 {
						line = others[source.Intn(len(others))]
					}
					if source.Intn(5) == 0 {
						line = []string{"known", "open", "now", "past"}[i%4]
					}
					lines = append(lines, line)
				}
				if !yield(talk, lines) {
					return
				}
			}
		}
	}
}

func TestTalkSay(t *testing.T) {
	told := map[string]int{}
	for talk, lines := range talksToSay() {
		wanted, answers := talkAfterLines(talk, lines)
		got, said := impl.TalkSay(talk, lines)
		if !slices.Equal(said, answers) || !sameTalk(got, wanted) {
			t.Fatalf("TalkSay(%v, %q) = %v, %q, not %v, %q", talk, lines, got, said, wanted, answers)
		}
		for _, answer := range said {
			told[answer]++
		}
	}
	for _, answer := range []string{"ok", "no", "yes", "what", "none", "0", "1", "2", "3", "15"} {
		if told[answer] == 0 {
			t.Fatalf("nothing is answered by %q", answer)
		}
	}
	for talk := range talksTried() {
		for _, lines := range [][]string{nil, {}} {
			if got, answers := impl.TalkSay(talk, lines); len(answers) != 0 || !sameTalk(got, talk) {
				t.Fatalf("TalkSay(%v, nothing) = %v, %q", talk, got, answers)
			}
		}
	}
}

func TestAtMostMaxLinesLinesAreSaid(t *testing.T) {
	for talk := range talksTried() {
		for _, line := range []string{"", "known", "back", "ask ?a", "tell a", "sense [a]1", "x"} {
			lines := slices.Repeat([]string{line}, 40)
			wanted, answers := talkAfterLines(talk, lines)
			if got, said := impl.TalkSay(talk, lines); !slices.Equal(said, answers) || len(said) != 40 || !sameTalk(got, wanted) {
				t.Fatalf("TalkSay(%v, 40 of %q) = %v, %q", talk, line, got, said)
			}
			for _, more := range []int{41, 42, 1000} {
				if got, said := impl.TalkSay(talk, slices.Repeat([]string{line}, more)); said != nil || !isNoTalk(got) {
					t.Fatalf("TalkSay(%v, %d of %q) = %v, %q", talk, more, line, got, said)
				}
			}
		}
	}
}

func TestP38TwoPartsOfTheLinesLeadToTheSame(t *testing.T) {
	for talk, lines := range talksToSay() {
		whole, answers := impl.TalkSay(talk, lines)
		if !impl.TalkOk(whole) || len(answers) != len(lines) || slices.Contains(answers, "") {
			t.Fatalf("TalkSay(%v, %q) = %v, %q", talk, lines, whole, answers)
		}
		for cut := 0; cut <= len(lines); cut += 1 + cut/6 {
			half, first := impl.TalkSay(talk, lines[:cut])
			got, second := impl.TalkSay(half, lines[cut:])
			if !sameTalk(got, whole) || !slices.Equal(slices.Concat(first, second), answers) {
				t.Fatalf("TalkSay(%v, %q) = %v, %q, and in two parts, cut at %d, %v, %q and %q", talk, lines, whole, answers, cut, got, first, second)
			}
		}
	}
}

func TestP38TheLastOpenQuestionIsNotSettled(t *testing.T) {
	open := 0
	for talk, lines := range talksToSay() {
		for cut := 0; cut <= len(lines); cut += 1 + cut/4 {
			after, _ := impl.TalkSay(talk, lines[:cut])
			_, question := impl.TalkLine(after, "now")
			if question == "none" {
				continue
			}
			open++
			if got, answers := impl.TalkSay(after, []string{"now", "settled " + question}); answers[0] != question || answers[1] != "no" || !sameTalk(got, after) {
				t.Fatalf("%v: %q", after, answers)
			}
		}
	}
	if open < 300 {
		t.Fatalf("only %d questions are open", open)
	}
}

func TestP54QuestionsChangeNothing(t *testing.T) {
	for things := 1; things <= 3; things++ {
		lines := slices.Concat(linesToSay(things), wildTexts()[:200])
		for i, talk := range talksToTry(things) {
			for j := i % 3; j < len(lines); j += 3 {
				got, answer := impl.TalkLine(talk, lines[j])
				if !impl.TalkOk(got) || answer == "" || answer != "ok" && !sameTalk(got, talk) {
					t.Fatalf("TalkLine(%v, %q) = %v, %q", talk, lines[j], got, answer)
				}
			}
			for _, line := range []string{" ", ""} {
				if got, answer := impl.TalkLine(talk, line); answer != "what" || !sameTalk(got, talk) {
					t.Fatalf("TalkLine(%v, %q) = %v, %q", talk, line, got, answer)
				}
			}
		}
	}
}
