package tests

import (
	"math/rand"
	"regexp"
	"slices"
	"strings"
	"testing"

	"loop.example/openissues/impl"
)

// textsOfDeeds are texts of deeds, with sentences and without.
func textsOfDeeds() []string {
	list := []string{"back", "tell a", "ask ?a", "tell  ", "ask  ", "tell ~", "ask ~", "tell !", "tell  a", "ask a ", "tell tell a", "ask ask", "tell back", "ask tell ask", "tell known", "ask [a]b", "tell ~ ~ ", "ask d", "tell \"", "tell \\n", "tell a\\", "tell " + strings.Repeat("!", 60) + "a", "ask " + strings.Repeat(" ", 5000), "tell " + strings.Repeat("~", 70000)}
	for things := 1; things <= 3; things++ {
		for _, s := range sentencesToSay(things) {
			list = append(list, "tell "+s, "ask "+s)
		}
	}
	return list
}

// checkDeedLine checks whether a line is the text of a deed.
func checkDeedLine(t *testing.T, line string) {
	t.Helper()
	wanted, is := deedOf(line)
	got, ok := impl.ReadDeed(line)
	if ok != is || got != wanted {
		t.Fatalf("ReadDeed(%q) = %v, %v", line, got, ok)
	}
	if ok && impl.DeedText(got) != line {
		t.Fatalf("DeedText(%v) = %q, not %q", got, impl.DeedText(got), line)
	}
}

func TestDeedText(t *testing.T) {
	for _, text := range textsOfDeeds() {
		word, more, _ := strings.Cut(text, " ")
		kind := map[string]int{"tell": 0, "ask": 1, "back": 2}[word]
		if got := impl.DeedText(impl.Deed{Kind: kind, Text: more}); got != text {
			t.Fatalf("DeedText of %q is %q", text, got)
		}
	}
	for _, kind := range []int{-1 << 63, -1, 3, 4, 1<<63 - 1} {
		for _, text := range []string{"", "a", "back", "~", " "} {
			if got := impl.DeedText(impl.Deed{Kind: kind, Text: text}); got != "" {
				t.Fatalf("DeedText of kind %d, %q is %q", kind, text, got)
			}
		}
	}
	for _, kind := range []int{impl.TkTell, impl.TkAsk} {
		if got := impl.DeedText(impl.Deed{Kind: kind}); got != "" {
			t.Fatalf("DeedText of kind %d without a text is %q", kind, got)
		}
	}
	for _, text := range []string{" ", "a", "back", "\n", "\x00", "0"} {
		if got := impl.DeedText(impl.Deed{Kind: impl.TkBack, Text: text}); got != "" {
			t.Fatalf("DeedText of TkBack with %q is %q", text, got)
		}
	}
}

func TestTextsHaveBytesFromTheSpaceToTheTilde(t *testing.T) {
	for b := range 256 {
		one := string([]byte{byte(b)})
		for _, text := range []string{one, one + "a", "a" + one, "a" + one + "b", one + one, " " + one + " ", strings.Repeat("~", 100) + one, one + strings.Repeat(" ", 100)} {
			printable := b >= 32 && b <= 126
			for kind, word := range []string{"tell ", "ask "} {
				d, wanted := impl.Deed{Kind: kind, Text: text}, ""
				if printable {
					wanted = word + text
				}
				if got := impl.DeedText(d); got != wanted {
					t.Fatalf("DeedText(%v) = %q, not %q", d, got, wanted)
				}
				read, ok := impl.ReadDeed(word + text)
				if ok != printable || ok && read != d || !ok && read != (impl.Deed{}) {
					t.Fatalf("ReadDeed(%q) = %v, %v", word+text, read, ok)
				}
			}
		}
	}
	for _, text := range []string{"\u00e1", "a\u00e1", "\u2265", "\U0001F600", "a\xc3", "\xff", "\x7f", "\x1f", "\t", "\r"} {
		for _, word := range []string{"tell ", "ask "} {
			checkDeedLine(t, word+text)
			if d, ok := impl.ReadDeed(word + text); ok {
				t.Fatalf("ReadDeed(%q) = %v, true", word+text, d)
			}
		}
	}
}

// linesThatAreNoDeeds are lines in which something is missing, or is there that may not be.
var linesThatAreNoDeeds = []string{
	"", " ", "  ", "\n", "\x00", "tell", "tell ", "ask", "ask ", "back ", " back", "back\n", "\nback", "back\r", "back back", "back 1", "backa", "Back", "BACK", "bac", "b",
	" tell a", "  tell a", "tell a\n", "tell\ta", "tell\na", "tell:a", "tella", "Tell a", "TELL a", "tel a", "tells a", "ttell a", "\ntell a", "tell a\r", "tell a\nask b", "tell a\x00", "\x00tell a", "tell \n", "tell \x7f", "tell a\x7f",
	" ask ?a", "ask ?a\n", "ask?a", "Ask ?a", "as ?a", "asks ?a", "ask\t?a", "aask ?a", "askask", "ask \x1f", "ask a\x80", "0", "a", "?a", "1 a", "known", "open", "now", "past", "settled a", "possible a", "sense a",
}

func TestReadDeed(t *testing.T) {
	for _, line := range textsOfDeeds() {
		checkDeedLine(t, line)
		if _, ok := impl.ReadDeed(line); !ok {
			t.Fatalf("%q is not read", line)
		}
	}
	for _, line := range slices.Concat(linesThatAreNoDeeds, wildTexts()) {
		checkDeedLine(t, line)
	}
	for _, line := range linesThatAreNoDeeds {
		if d, ok := impl.ReadDeed(line); ok || d != (impl.Deed{}) {
			t.Fatalf("ReadDeed(%q) = %v, %v", line, d, ok)
		}
	}
	for line := range textsOf("askbcetl \n", 4) {
		checkDeedLine(t, line)
		checkDeedLine(t, "ask"+line)
		checkDeedLine(t, "tell"+line)
	}
	for _, line := range []string{"back", "tell a", "ask ?a", "tell (a|b)", "ask  "} {
		for at := range len(line) + 1 {
			checkDeedLine(t, line[:at])
			checkDeedLine(t, line[at:])
			for b := range 256 {
				checkDeedLine(t, line[:at]+string([]byte{byte(b)})+line[at:])
				checkDeedLine(t, line[:at]+string([]byte{byte(b)})+line[min(at+1, len(line)):])
			}
		}
	}
}

// wildDeeds are deeds of any kinds, with any texts.
func wildDeeds() []impl.Deed {
	var list []impl.Deed
	for i, text := range wildTexts() {
		list = append(list, impl.Deed{Kind: i % 3, Text: text}, impl.Deed{Kind: wildNumbers[i%len(wildNumbers)], Text: text})
	}
	return list
}

func TestP51TextsOfDeedsAreRead(t *testing.T) {
	for things := 1; things <= 3; things++ {
		for _, d := range slices.Concat(deedsToTry(things), wildDeeds()) {
			text := impl.DeedText(d)
			if got, ok := impl.ReadDeed(text); text != "" && (!ok || got != d) {
				t.Fatalf("ReadDeed(DeedText(%v)) = %v, %v", d, got, ok)
			}
		}
	}
}

func TestP52ReadTextsAreCanonical(t *testing.T) {
	for _, line := range slices.Concat(textsOfDeeds(), linesThatAreNoDeeds, wildTexts()) {
		if d, ok := impl.ReadDeed(line); ok && impl.DeedText(d) != line {
			t.Fatalf("DeedText(%v) = %q, not %q", d, impl.DeedText(d), line)
		}
		if d, ok := impl.ReadDeed(line + "\n"); ok || d != (impl.Deed{}) {
			t.Fatalf("ReadDeed(%q) = %v, %v", line+"\n", d, ok)
		}
	}
}

// journalsToTry are lists of deeds with texts, of up to MaxLines and of more.
func journalsToTry() [][]impl.Deed {
	texts := textsOfDeeds()
	var all []impl.Deed
	for _, text := range texts {
		d, _ := deedOf(text)
		all = append(all, d)
	}
	source := rand.New(rand.NewSource(937))
	lists := [][]impl.Deed{nil, {}, {back()}, {tell("a")}, {ask(" ")}, {back(), back()}, slices.Repeat([]impl.Deed{back()}, 40), slices.Repeat([]impl.Deed{ask("?a")}, 41), all}
	for count := range 50 {
		var list []impl.Deed
		for range count {
			d := all[source.Intn(len(all))]
			if len(d.Text) <= 70 {
				list = append(list, d)
			}
		}
		lists = append(lists, list)
	}
	return lists
}

func TestJournalText(t *testing.T) {
	for _, list := range journalsToTry() {
		var lines []string
		for _, d := range list {
			lines = append(lines, impl.DeedText(d)+"\n")
		}
		if got := impl.JournalText(list); got != strings.Join(lines, "") {
			t.Fatalf("JournalText(%v) = %q", list, got)
		}
	}
	if got := impl.JournalText([]impl.Deed{tell("a"), back(), ask("?b"), tell(" ")}); got != "tell a\nback\nask ?b\ntell  \n" {
		t.Fatalf("%q", got)
	}
}

func TestJournalsWithADeedWithoutATextHaveNone(t *testing.T) {
	wrong := []impl.Deed{{Kind: 0}, {Kind: 1}, {Kind: 2, Text: "a"}, {Kind: 2, Text: " "}, {Kind: 3}, {Kind: -1, Text: "a"}, tell("\n"), tell("a\n"), ask("\x1f"), ask("a\x7f"), tell("\xff"), ask("\u00e1")}
	right := []impl.Deed{tell("a"), back(), ask("?b")}
	for _, d := range wrong {
		for at := range len(right) + 1 {
			if got := impl.JournalText(slices.Insert(slices.Clone(right), at, d)); got != "" {
				t.Fatalf("JournalText with %v at %d is %q", d, at, got)
			}
		}
		if got := impl.JournalText([]impl.Deed{d}); got != "" {
			t.Fatalf("JournalText of %v is %q", d, got)
		}
	}
}

var journalForm = regexp.MustCompile(`\A(?:(?:(?:tell|ask) [ -~]+|back)\n)*`)

// checkAnyJournal checks which deeds are read of a text by the form of journals.
func checkAnyJournal(t *testing.T, text string) {
	t.Helper()
	read := journalForm.FindString(text)
	var list []impl.Deed
	for line := range strings.Lines(read) {
		d, _ := deedOf(strings.TrimSuffix(line, "\n"))
		list = append(list, d)
	}
	checkJournal(t, text, len(read), list...)
}

// checkJournal checks which deeds are read of a text, and how many bytes they have.
func checkJournal(t *testing.T, text string, size int, wanted ...impl.Deed) {
	t.Helper()
	if got, n := impl.ReadJournal(text); n != size || !slices.Equal(got, wanted) {
		t.Fatalf("ReadJournal(%q) = %v, %d, not %v, %d", text, got, n, wanted, size)
	}
}

func TestReadJournalExamples(t *testing.T) {
	checkJournal(t, "", 0)
	checkJournal(t, "\n", 0)
	checkJournal(t, " \n", 0)
	checkJournal(t, "back", 0)
	checkJournal(t, "back\n", 5, back())
	checkJournal(t, "back\nback", 5, back())
	checkJournal(t, "back\nback\n", 10, back(), back())
	checkJournal(t, "back\n\nback\n", 5, back())
	checkJournal(t, "\nback\n", 0)
	checkJournal(t, "back\n\n", 5, back())
	checkJournal(t, "back\r\n", 0)
	checkJournal(t, "back \n", 0)
	checkJournal(t, " back\n", 0)
	checkJournal(t, "tell a\nask ?b\nback", 14, tell("a"), ask("?b"))
	checkJournal(t, "tell a\nask ?b\nback\n", 19, tell("a"), ask("?b"), back())
	checkJournal(t, "tell a\nknown\nask ?b\n", 7, tell("a"))
	checkJournal(t, "tell a\nask \nask ?b\n", 7, tell("a"))
	checkJournal(t, "tell a\ntell\nask ?b\n", 7, tell("a"))
	checkJournal(t, "tell  \nask  a \nTell a\n", 15, tell(" "), ask(" a "))
	checkJournal(t, "tell 0\ntell 0\nask d\nback\n", 25, tell("0"), tell("0"), ask("d"), back())
	checkJournal(t, "tell a\x00\n", 0)
	checkJournal(t, "back\ntell \x80\nback\n", 5, back())
	checkJournal(t, strings.Repeat("back\n", 1000)+"back", 5000, slices.Repeat([]impl.Deed{back()}, 1000)...)
}

func TestP37WhereverAJournalIsCutItsFirstDeedsAreRead(t *testing.T) {
	for _, list := range journalsToTry() {
		text := impl.JournalText(list)
		if len(text) > 60000 {
			continue
		}
		count, size := 0, 0
		for cut := range len(text) + 1 {
			if cut > 0 && text[cut-1] == '\n' {
				count++
				size = cut
			}
			checkJournal(t, text[:cut], size, list[:count]...)
		}
		if count != len(list) {
			t.Fatalf("%d of %v are read", count, list)
		}
		for _, more := range []string{"\n", " ", "tell", "tell a", "back", "known\nback\n", "\x00\n", " back\n", "back\r\n"} {
			checkJournal(t, text+more, size, list...)
		}
	}
}

func TestReadJournal(t *testing.T) {
	journal := "tell a\nask ?b\nback\ntell  \nask !(a|b)\nback\n"
	for at := range len(journal) + 1 {
		checkAnyJournal(t, journal[at:])
		for b := range 256 {
			checkAnyJournal(t, journal[:at]+string([]byte{byte(b)})+journal[at:])
			checkAnyJournal(t, journal[:at]+string([]byte{byte(b)})+journal[min(at+1, len(journal)):])
		}
		for behind := at; behind <= len(journal); behind++ {
			checkAnyJournal(t, journal[:at]+journal[behind:])
		}
	}
	for _, line := range slices.Concat(linesThatAreNoDeeds, wildTexts()) {
		checkAnyJournal(t, line)
		checkAnyJournal(t, line+"\n")
		checkAnyJournal(t, "back\n"+line+"\nback\n")
	}
}

func TestP37JournalTextIsWhatWasRead(t *testing.T) {
	var texts []string
	for _, list := range journalsToTry() {
		text := impl.JournalText(list)
		texts = append(texts, text, text+"back", text+"\n", text+"x\nback\n", text[len(text)/3:], text[:len(text)/2])
	}
	for _, text := range slices.Concat(texts, wildTexts(), linesThatAreNoDeeds) {
		if list, n := impl.ReadJournal(text); impl.JournalText(list) != text[:n] {
			t.Fatalf("JournalText(%v) = %q, and %d bytes of %q were read", list, impl.JournalText(list), n, text)
		}
	}
}

// TestP37SaidLineByLine cuts the journal of each run at some bytes.
func TestP37SaidLineByLine(t *testing.T) {
	for talk, list := range runsToTry() {
		list = slices.DeleteFunc(list, func(d impl.Deed) bool { return impl.DeedText(d) == "" })
		journal := impl.JournalText(list)
		for cut := len(journal); cut >= 0; cut -= 1 + len(journal)/5 {
			read, _ := impl.ReadJournal(journal[:cut])
			var lines []string
			for _, d := range read {
				lines = append(lines, impl.DeedText(d))
			}
			run, count := impl.TalkRun(talk, read)
			said, answers := impl.TalkSay(talk, lines)
			if !sameTalk(run, said) || len(answers) != len(read) {
				t.Fatalf("TalkRun(%v, %v) = %v, and said line by line it is %v", talk, read, run, said)
			}
			done := slices.DeleteFunc(answers, func(answer string) bool { return answer == "no" })
			if len(done) != count || slices.ContainsFunc(done, func(answer string) bool { return answer != "ok" }) {
				t.Fatalf("%d deeds of %v are done, and the answers but no are %q", count, read, done)
			}
			if wanted, _ := talkAfterAll(talk, list[:len(read)]); !sameTalk(run, wanted) {
				t.Fatalf("%v after %v: %v, not %v", talk, read, run, wanted)
			}
		}
	}
}

func TestP53JournalsAreRead(t *testing.T) {
	lists := journalsToTry()
	for things := 1; things <= 3; things++ {
		source := rand.New(rand.NewSource(int64(953 + things)))
		for count := range 60 {
			lists = append(lists, someDeeds(source, things, count%5))
		}
	}
	for _, list := range lists {
		text := impl.JournalText(list)
		if text == "" {
			continue
		}
		if got, n := impl.ReadJournal(text); n != len(text) || !slices.Equal(got, list) {
			t.Fatalf("ReadJournal(JournalText(%v)) = %v, %d", list, got, n)
		}
	}
}

// TestLongJournalsAreReadQuickly has a journal of many lines, and one long line.
func TestLongJournalsAreReadQuickly(t *testing.T) {
	many := strings.Repeat("tell a\nback\n", 200000)
	if list, n := impl.ReadJournal(many); len(list) != 400000 || n != len(many) || impl.JournalText(list) != many {
		t.Fatal(len(list), n)
	}
	long := "tell " + strings.Repeat("~", 1<<22) + "\n"
	if list, n := impl.ReadJournal(long); len(list) != 1 || n != len(long) {
		t.Fatal(len(list), n)
	}
}
