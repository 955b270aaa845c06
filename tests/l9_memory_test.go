package tests

import (
	"fmt"
	"math/rand"
	"slices"
	"testing"

	"loop.example/openissues/impl"
)

// spaciousState returns a copy of a state with room behind its open questions, all of which is filled.
func spaciousState(s impl.State) impl.State {
	room := slices.Repeat([]string{"room"}, len(s.Open)+6)
	copy(room, s.Open)
	return impl.State{Known: s.Known, Open: room[:len(s.Open)]}
}

// spaciousTalk returns a copy of a talk with room behind each of its lists, all of which is filled.
func spaciousTalk(t impl.Talk) impl.Talk {
	var past []impl.State
	for _, before := range t.Past {
		past = append(past, spaciousState(before))
	}
	for range 12 {
		past = append(past, spaciousState(impl.State{Known: -9, Open: []string{"behind", "all"}}))
	}
	return impl.Talk{Things: t.Things, Now: spaciousState(t.Now), Past: past[:len(t.Past)]}
}

// opensOf are the open questions of all states of a talk, those in the room behind its states of before among them, with the room behind each.
func opensOf(t impl.Talk) [][]string {
	opens := [][]string{t.Now.Open[:cap(t.Now.Open)]}
	for _, before := range t.Past[:cap(t.Past)] {
		opens = append(opens, before.Open[:cap(before.Open)])
	}
	return opens
}

// wholeTalk describes a talk with all the room in it.
func wholeTalk(t impl.Talk) string {
	return fmt.Sprintf("%v %d %v %q", t, len(t.Past), t.Past[:cap(t.Past)], opensOf(t))
}

// checkApart checks that no two lists of a result share memory, by filling all of them, and that the argument stays as it is then.
func checkApart(t *testing.T, name string, given impl.Talk, before string, got impl.Talk) {
	t.Helper()
	if wholeTalk(given) != before {
		t.Fatalf("%s writes into its argument %s", name, before)
	}
	opens := opensOf(got)
	for i, open := range opens {
		for j := range open {
			open[j] = fmt.Sprint(i)
		}
	}
	for i, open := range opens {
		if slices.ContainsFunc(open, func(question string) bool { return question != fmt.Sprint(i) }) {
			t.Fatalf("%s returns lists of questions with the same memory for %s", name, before)
		}
	}
	states := got.Past[:cap(got.Past)]
	for i := range states {
		states[i] = impl.State{Known: -5}
	}
	if wholeTalk(given) != before {
		t.Fatalf("%s returns memory of its argument %s", name, before)
	}
}

func TestTalksAreNewMemory(t *testing.T) {
	for talk := range talksTried() {
		given := spaciousTalk(talk)
		before := wholeTalk(given)
		impl.TalkOk(given)
		for _, d := range []impl.Deed{tell("a"), tell("!a"), ask("?a"), ask("(a|!a)"), ask("0"), tell("0"), back(), {Kind: 8}, {Kind: impl.TkBack, Text: "a"}} {
			wanted, _ := talkAfter(talk, d)
			for range 2 {
				got, _ := impl.TalkDo(given, d)
				if !sameTalk(got, wanted) {
					t.Fatalf("TalkDo(%v, %v) = %v", given, d, got)
				}
				checkApart(t, "TalkDo", given, before, got)
			}
			for _, list := range [][]impl.Deed{nil, {d}, {d, back()}, {back(), d}, {d, d, back(), back()}, {back(), back(), d, tell("a"), ask("??a"), back(), ask("?!a")}} {
				got, _ := impl.TalkRun(given, list)
				checkApart(t, "TalkRun", given, before, got)
			}
		}
		for _, line := range []string{"tell a", "tell !a", "ask ?a", "back", "tell 0", "known", "open", "now", "past", "settled a", "possible a", "sense [a]1", "", "x"} {
			wanted, _ := talkAfterLine(talk, line)
			for range 2 {
				got, _ := impl.TalkLine(given, line)
				if !sameTalk(got, wanted) {
					t.Fatalf("TalkLine(%v, %q) = %v", given, line, got)
				}
				checkApart(t, "TalkLine", given, before, got)
			}
			for _, lines := range [][]string{nil, {line}, {line, "back"}, {"back", line}, {"back", "back", line, "tell a", "ask ??a", "back", "ask ?!a"}} {
				got, _ := impl.TalkSay(given, lines)
				checkApart(t, "TalkSay", given, before, got)
			}
		}
	}
	for things := 1; things <= 3; things++ {
		first := impl.TalkNew(things)
		checkApart(t, "TalkNew", newTalk(things), wholeTalk(newTalk(things)), first)
		if !sameTalk(impl.TalkNew(things), newTalk(things)) {
			t.Fatalf("TalkNew(%d) returns the same memory twice", things)
		}
	}
}

func TestListsOfDeedsAndLinesAreNotWrittenInto(t *testing.T) {
	for talk, list := range runsToTry() {
		room := append(slices.Clone(list), slices.Repeat([]impl.Deed{{Kind: 77, Text: "room"}}, 5)...)
		given := room[:len(list)]
		before := slices.Clone(room)
		impl.TalkRun(talk, given)
		impl.JournalText(given)
		if !slices.Equal(room, before) {
			t.Fatalf("%v is written into", list)
		}
	}
	for talk, lines := range talksToSay() {
		room := append(slices.Clone(lines), slices.Repeat([]string{"room"}, 5)...)
		before := slices.Clone(room)
		_, answers := impl.TalkSay(talk, room[:len(lines)])
		wanted := slices.Clone(answers)
		for i := range answers[:cap(answers)] {
			answers[:cap(answers)][i] = "filled"
		}
		if !slices.Equal(room, before) {
			t.Fatalf("%q is written into", lines)
		}
		if _, again := impl.TalkSay(talk, room[:len(lines)]); !slices.Equal(again, wanted) {
			t.Fatalf("TalkSay(%v, %q) returns the same memory twice", talk, lines)
		}
	}
	for _, list := range journalsToTry() {
		text := impl.JournalText(list)
		first, _ := impl.ReadJournal(text)
		for i := range first[:cap(first)] {
			first[:cap(first)][i] = impl.Deed{Kind: 77}
		}
		if second, _ := impl.ReadJournal(text); !slices.Equal(second, list) {
			t.Fatalf("ReadJournal(%q) returns the same memory twice", text)
		}
	}
}

// wildTalks are talks and others with any numbers, any texts, and any number of states of before.
func wildTalks() []impl.Talk {
	talks := wrongTalks()
	texts := wildTexts()
	source := rand.New(rand.NewSource(999))
	for i := range 600 {
		number := func() int { return wildNumbers[source.Intn(len(wildNumbers))] }
		state := func() impl.State {
			s := impl.State{Known: number()}
			for range source.Intn(6) {
				s.Open = append(s.Open, texts[source.Intn(len(texts))])
			}
			return s
		}
		talk := impl.Talk{Things: number(), Now: state()}
		for range source.Intn(13) {
			talk.Past = append(talk.Past, state())
		}
		if i%2 == 0 {
			talk.Now.Open = nil
		}
		talks = append(talks, talk)
	}
	return append(talks, impl.Talk{Things: 2, Now: impl.State{Known: 15, Open: texts}}, impl.Talk{Things: 2, Now: impl.State{Known: 15}, Past: make([]impl.State, 1<<20)})
}

func TestTalksNeverPanic(t *testing.T) {
	for _, talk := range wildTalks() {
		impl.TalkOk(talk)
		for _, d := range []impl.Deed{{}, tell("a"), ask("?a"), back(), {Kind: -1}} {
			impl.TalkDo(talk, d)
			impl.TalkRun(talk, []impl.Deed{d, d})
		}
		impl.TalkSay(talk, []string{"", "now", "back", "tell a"})
	}
	for _, things := range wildNumbers {
		impl.TalkNew(things)
	}
	talks := slices.Collect(talksTried())
	for i, text := range wildTexts() {
		talk := talks[i%len(talks)]
		impl.ReadDeed(text)
		impl.ReadJournal(text)
		impl.ReadJournal("back\n" + text)
		for kind := -1; kind <= 3; kind++ {
			d := impl.Deed{Kind: kind, Text: text}
			impl.DeedText(d)
			impl.JournalText([]impl.Deed{d, d})
			impl.TalkDo(talk, d)
			impl.TalkRun(talk, []impl.Deed{d, back(), d})
		}
		for _, word := range []string{"", "tell ", "ask ", "back ", "settled ", "possible ", "sense "} {
			if got, answer := impl.TalkLine(talk, word+text); !impl.TalkOk(got) || answer == "" {
				t.Fatalf("TalkLine(%v, %q) = %v, %q", talk, word+text, got, answer)
			}
		}
	}
}
