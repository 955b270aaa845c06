package tests

import (
	"iter"
	"math"
	"math/rand"
	"slices"
	"testing"

	"loop.example/openissues/impl"
)

// wrongBondSets are numbers that are no set of things.
func wrongBondSets(things int) []int {
	count := worldsByThings[things]
	return []int{math.MinInt, -count, -1, count, count + 1, 1 << 32, math.MaxInt}
}

func isThings(things int, set int) bool {
	return set >= 0 && set < worldsByThings[things]
}

// allBonds are all dependences, by ascending From, and then by ascending To.
func allBonds(things int) []impl.Bond {
	var list []impl.Bond
	for from := range worldsByThings[things] {
		for to := range worldsByThings[things] {
			list = append(list, impl.Bond{From: from, To: to})
		}
	}
	return list
}

// wrongBonds are dependences of which a set is none of things.
func wrongBonds(things int) []impl.Bond {
	var list []impl.Bond
	for _, wrong := range wrongBondSets(things) {
		list = append(list, impl.Bond{From: wrong}, impl.Bond{To: wrong}, impl.Bond{From: wrong, To: 1}, impl.Bond{From: 1, To: wrong}, impl.Bond{From: wrong, To: wrong})
	}
	return list
}

// tellSame reports whether each of some things is so in both of two worlds or in none of them.
func tellSame(world int, other int, things int) bool {
	for thing := range 3 {
		if has(things, thing) && has(world, thing) != has(other, thing) {
			return false
		}
	}
	return true
}

// dependsIn reports whether a dependence holds in a set of worlds.
func dependsIn(set int, d impl.Bond) bool {
	for world := range 8 {
		for other := range 8 {
			if has(set, world) && has(set, other) && tellSame(world, other, d.From) && !tellSame(world, other, d.To) {
				return false
			}
		}
	}
	return true
}

// closedUnder is what is in every set of things that has those of a set in it, and with all things of a From all things of its To.
func closedUnder(things int, list []impl.Bond, from int) int {
	common := worldsByThings[things] - 1
	for set := range worldsByThings[things] {
		broken := slices.ContainsFunc(list, func(d impl.Bond) bool { return isWithin(d.From, set) && !isWithin(d.To, set) })
		if isWithin(from, set) && !broken {
			common &= set
		}
	}
	return common
}

// keysIn are the sets of things on which all things depend, and on no set of fewer of them.
func keysIn(things int, set int) []int {
	all := worldsByThings[things] - 1
	var keys []int
	for from := range all + 1 {
		least := dependsIn(set, impl.Bond{From: from, To: all})
		for fewer := range from {
			least = least && !(isWithin(fewer, from) && dependsIn(set, impl.Bond{From: fewer, To: all}))
		}
		if least {
			keys = append(keys, from)
		}
	}
	return keys
}

// bondsIn are the dependences of one thing on others that hold in a set of worlds.
func bondsIn(things int, set int) []impl.Bond {
	return slices.DeleteFunc(allBonds(things), func(d impl.Bond) bool {
		one := slices.Contains([]int{1, 2, 4}, d.To)
		return !one || isWithin(d.To, d.From) || !dependsIn(set, d)
	})
}

// bondLists yields lists of at most 8 dependences: all of up to two of them, all of three for fewer than 3 things, and some of every length.
func bondLists(things int) iter.Seq[[]impl.Bond] {
	return func(yield func([]impl.Bond) bool) {
		all := allBonds(things)
		if !yield(nil) || !yield([]impl.Bond{}) {
			return
		}
		for _, one := range all {
			if !yield([]impl.Bond{one}) {
				return
			}
			for _, two := range all {
				if !yield([]impl.Bond{one, two}) {
					return
				}
				for _, three := range all {
					if things < 3 && !yield([]impl.Bond{one, two, three}) {
						return
					}
				}
			}
		}
		source := rand.New(rand.NewSource(int64(8 * things)))
		for length := 3; length <= 8; length++ {
			for range 400 {
				if !yield(randomBonds(source, things, length)) {
					return
				}
			}
		}
	}
}

// randomBonds returns so many dependences, of small sets of things rather than of great ones, so that not all follows.
func randomBonds(source *rand.Rand, things int, length int) []impl.Bond {
	count := worldsByThings[things]
	var list []impl.Bond
	for range length {
		list = append(list, impl.Bond{From: source.Intn(count) | source.Intn(count), To: source.Intn(count) & source.Intn(count)})
	}
	return list
}

// chains are lists of up to 8 dependences, of which each one needs those before it, or those behind it.
func chains() [][]impl.Bond {
	forth := []impl.Bond{{From: 0, To: 1}, {From: 1, To: 2}, {From: 3, To: 4}}
	back := []impl.Bond{{From: 3, To: 4}, {From: 1, To: 2}, {From: 0, To: 1}}
	fill := slices.Repeat([]impl.Bond{{From: 7, To: 7}}, 5)
	return [][]impl.Bond{forth, back, slices.Concat(forth, fill), slices.Concat(fill, forth), slices.Concat(back, fill), slices.Concat(fill, back)}
}

// checkClosed checks what is closed, and what follows, by a list of dependences that is right.
func checkClosed(t *testing.T, things int, list []impl.Bond) {
	t.Helper()
	for from := range worldsByThings[things] {
		wanted := closedUnder(things, list, from)
		if got := impl.ClosedBy(things, list, from); got != wanted {
			t.Fatalf("ClosedBy(%d, %v, %d) = %d, not %d", things, list, from, got, wanted)
		}
		for to := range worldsByThings[things] {
			d := impl.Bond{From: from, To: to}
			if got := impl.BondFollows(things, list, d); got != isWithin(to, wanted) {
				t.Fatalf("BondFollows(%d, %v, %v) = %v", things, list, d, got)
			}
		}
	}
}

// closesNothing checks that a list of dependences is taken for none, for a number of things.
func closesNothing(t *testing.T, things int, list []impl.Bond) {
	t.Helper()
	for _, from := range []int{0, 1, -1, 3, 7, 8} {
		if got := impl.ClosedBy(things, list, from); got != -1 {
			t.Fatalf("ClosedBy(%d, %v, %d) = %d", things, list, from, got)
		}
		for _, d := range []impl.Bond{{}, {From: from}, {From: from, To: from}, {From: 1, To: from}, {From: -1, To: -1}} {
			if impl.BondFollows(things, list, d) {
				t.Fatalf("BondFollows(%d, %v, %v) = true", things, list, d)
			}
		}
	}
}

// checkBonds checks that a result is the list of dependences that it should be.
func checkBonds(t *testing.T, things int, set int, got []impl.Bond, wanted []impl.Bond) {
	t.Helper()
	if !slices.Equal(got, wanted) {
		t.Fatalf("BondsOf(%d, %d) = %v, not %v", things, set, got, wanted)
	}
}

// checkKeys checks that a result is the list of keys that it should be.
func checkKeys(t *testing.T, things int, set int, got []int, wanted []int) {
	t.Helper()
	if !slices.Equal(got, wanted) {
		t.Fatalf("KeysOf(%d, %d) = %v, not %v", things, set, got, wanted)
	}
}

// setsAndBonds yields each set of worlds with each dependence.
func setsAndBonds(things int) iter.Seq2[int, impl.Bond] {
	return func(yield func(int, impl.Bond) bool) {
		for set := range setsFor(things) {
			for _, d := range allBonds(things) {
				if !yield(set, d) {
					return
				}
			}
		}
	}
}

func TestBondOk(t *testing.T) {
	for things := 1; things <= 3; things++ {
		for from := -9; from <= 17; from++ {
			for to := -9; to <= 17; to++ {
				d := impl.Bond{From: from, To: to}
				if got := impl.BondOk(things, d); got != (isThings(things, from) && isThings(things, to)) {
					t.Errorf("BondOk(%d, %v) = %v", things, d, got)
				}
			}
		}
		for _, d := range wrongBonds(things) {
			if impl.BondOk(things, d) {
				t.Errorf("BondOk(%d, %v) = true", things, d)
			}
		}
	}
	for _, things := range wrongThings {
		for _, d := range slices.Concat(allBonds(3), wrongBonds(3)) {
			if impl.BondOk(things, d) {
				t.Errorf("BondOk(%d, %v) = true", things, d)
			}
		}
	}
}

func TestP44NothingMayDependOnNothing(t *testing.T) {
	for things := 1; things <= impl.MaxThings; things++ {
		if !impl.BondOk(things, impl.Bond{}) || !impl.BondOk(things, impl.Bond{From: 0, To: 0}) {
			t.Errorf("%d things", things)
		}
	}
	for _, things := range wrongThings {
		if impl.BondOk(things, impl.Bond{}) {
			t.Errorf("%d things", things)
		}
	}
}

func TestHoldsInExamples(t *testing.T) {
	examples := []struct {
		things int
		set    int
		d      impl.Bond
		holds  bool
	}{
		{2, 9, impl.Bond{From: 1, To: 2}, true}, {2, 6, impl.Bond{From: 1, To: 2}, true}, {2, 15, impl.Bond{From: 1, To: 2}, false}, {2, 5, impl.Bond{From: 1, To: 2}, false}, {2, 3, impl.Bond{From: 1, To: 2}, true},
		{2, 5, impl.Bond{From: 2, To: 1}, true}, {2, 3, impl.Bond{From: 2, To: 1}, false}, {2, 7, impl.Bond{From: 1, To: 2}, false}, {2, 7, impl.Bond{From: 2, To: 1}, false}, {2, 15, impl.Bond{From: 3, To: 3}, true},
		{2, 3, impl.Bond{From: 0, To: 2}, true}, {2, 12, impl.Bond{From: 0, To: 2}, true}, {2, 10, impl.Bond{From: 0, To: 1}, true}, {2, 10, impl.Bond{From: 0, To: 2}, false}, {2, 10, impl.Bond{From: 0, To: 3}, false}, {2, 8, impl.Bond{From: 0, To: 3}, true},
		{1, 3, impl.Bond{From: 0, To: 1}, false}, {1, 2, impl.Bond{From: 0, To: 1}, true}, {1, 3, impl.Bond{From: 1, To: 0}, true}, {1, 3, impl.Bond{From: 1, To: 1}, true},
		{3, 129, impl.Bond{From: 4, To: 3}, true}, {3, 105, impl.Bond{From: 3, To: 4}, true}, {3, 105, impl.Bond{From: 1, To: 4}, false}, {3, 105, impl.Bond{From: 6, To: 1}, true}, {3, 255, impl.Bond{From: 6, To: 1}, false}, {3, 255, impl.Bond{From: 7, To: 7}, true}, {3, 195, impl.Bond{From: 2, To: 4}, true}, {3, 195, impl.Bond{From: 4, To: 1}, false},
	}
	for _, example := range examples {
		if got := impl.HoldsIn(example.things, example.set, example.d); got != example.holds {
			t.Errorf("HoldsIn(%d, %d, %v) = %v", example.things, example.set, example.d, got)
		}
	}
}

func TestHoldsIn(t *testing.T) {
	for things := 1; things <= 3; things++ {
		for set, d := range setsAndBonds(things) {
			if got := impl.HoldsIn(things, set, d); got != dependsIn(set, d) {
				t.Fatalf("HoldsIn(%d, %d, %v) = %v", things, set, d, got)
			}
		}
	}
}

func TestAllDependsInTheEmptySetAndInOneWorld(t *testing.T) {
	for things := 1; things <= 3; things++ {
		for _, set := range append(setsOfSize(things, 1), 0) {
			for _, d := range allBonds(things) {
				if !impl.HoldsIn(things, set, d) {
					t.Fatalf("HoldsIn(%d, %d, %v) = false", things, set, d)
				}
			}
			checkKeys(t, things, set, impl.KeysOf(things, set), []int{0})
			if got := impl.BondsOf(things, set); len(got) != things*worldsByThings[things]/2 {
				t.Fatalf("BondsOf(%d, %d) = %v", things, set, got)
			}
		}
	}
}

func TestThingsThatAreTheSameEverywhere(t *testing.T) {
	for things := 1; things <= 3; things++ {
		for set, d := range setsAndBonds(things) {
			same := 0
			for thing := range things {
				so := setsWhere(things, thing)
				if isWithin(set, so) || isWithin(set, setsFor(things)-1-so) {
					same |= 1 << thing
				}
			}
			if isWithin(d.To, same|d.From) && !impl.HoldsIn(things, set, d) {
				t.Fatalf("HoldsIn(%d, %d, %v) = false, and %d are the same everywhere", things, set, d, same)
			}
			if d.From == 0 && impl.HoldsIn(things, set, d) != isWithin(d.To, same) {
				t.Fatalf("HoldsIn(%d, %d, %v), and %d are the same everywhere", things, set, d, same)
			}
			if slices.ContainsFunc(impl.KeysOf(things, set), func(key int) bool { return key&same != 0 }) {
				t.Fatalf("KeysOf(%d, %d) = %v, and %d are the same everywhere", things, set, impl.KeysOf(things, set), same)
			}
		}
	}
}

// setsWhere is the set of the worlds in which a thing is so.
func setsWhere(things int, thing int) int {
	set := 0
	for world := range worldsByThings[things] {
		if has(world, thing) {
			set |= 1 << world
		}
	}
	return set
}

func TestWhatAlwaysHolds(t *testing.T) {
	for things := 1; things <= 3; things++ {
		all := worldsByThings[things] - 1
		for set := range setsFor(things) {
			for some := range all + 1 {
				for _, d := range []impl.Bond{{From: some, To: 0}, {From: some, To: some}, {From: all, To: some}} {
					if !impl.HoldsIn(things, set, d) {
						t.Fatalf("HoldsIn(%d, %d, %v) = false", things, set, d)
					}
				}
			}
		}
		for _, d := range allBonds(things) {
			if got := impl.HoldsIn(things, setsFor(things)-1, d); got != isWithin(d.To, d.From) {
				t.Fatalf("HoldsIn all worlds, %d things, %v: %v", things, d, got)
			}
		}
	}
}

func TestWrongDependencesHoldNowhere(t *testing.T) {
	for things := 1; things <= 3; things++ {
		for _, d := range wrongBonds(things) {
			for set := range setsFor(things) {
				if impl.HoldsIn(things, set, d) {
					t.Fatalf("HoldsIn(%d, %d, %v) = true", things, set, d)
				}
			}
		}
		for _, set := range wrongSets(things) {
			for _, d := range slices.Concat(allBonds(things), wrongBonds(things)) {
				if impl.HoldsIn(things, set, d) {
					t.Fatalf("HoldsIn(%d, %d, %v) = true", things, set, d)
				}
			}
		}
	}
	for _, things := range wrongThings {
		for set := range 16 {
			for _, d := range slices.Concat(allBonds(3), wrongBonds(3)) {
				if impl.HoldsIn(things, set, d) {
					t.Fatalf("HoldsIn(%d, %d, %v) = true", things, set, d)
				}
			}
		}
	}
}

func TestBondTextExamples(t *testing.T) {
	questions := []string{"1", "?a", "?b", "(?a&?b)", "?c", "(?a&?c)", "(?b&?c)", "(?a&(?b&?c))"}
	for things := 1; things <= 3; things++ {
		for _, d := range allBonds(things) {
			if got, wanted := impl.BondText(things, d), "("+questions[d.From]+">"+questions[d.To]+")"; got != wanted {
				t.Errorf("BondText(%d, %v) = %q, not %q", things, d, got, wanted)
			}
		}
	}
	if got := impl.BondText(3, impl.Bond{From: 7, To: 7}); got != "((?a&(?b&?c))>(?a&(?b&?c)))" {
		t.Error(got)
	}
	if got := impl.BondText(1, impl.Bond{}); got != "(1>1)" {
		t.Error(got)
	}
}

func TestWrongDependencesHaveNoText(t *testing.T) {
	for things := 1; things <= 3; things++ {
		for _, d := range wrongBonds(things) {
			if got := impl.BondText(things, d); got != "" {
				t.Errorf("BondText(%d, %v) = %q", things, d, got)
			}
		}
	}
	for _, things := range wrongThings {
		for _, d := range slices.Concat(allBonds(3), wrongBonds(3)) {
			if got := impl.BondText(things, d); got != "" {
				t.Errorf("BondText(%d, %v) = %q", things, d, got)
			}
		}
	}
}

func TestP45DependencesHaveSentences(t *testing.T) {
	for things := 1; things <= 3; things++ {
		texts := map[string]bool{}
		for _, d := range allBonds(things) {
			text := impl.BondText(things, d)
			issue := issueOfSentence(t, things, text)
			if got := impl.GrantedBy(things, issue); got != setsFor(things)-1 {
				t.Errorf("%d things: %q grants %d", things, text, got)
			}
			texts[text] = true
		}
		if len(texts) != len(allBonds(things)) {
			t.Errorf("%d things: %d texts", things, len(texts))
		}
	}
}

func TestP19DependencesAreConditionsBetweenQuestions(t *testing.T) {
	for things := 1; things <= 3; things++ {
		for set, d := range setsAndBonds(things) {
			holds := impl.HoldsIn(things, set, d)
			if holds != impl.Supports(things, set, impl.BondText(things, d)) {
				t.Fatalf("HoldsIn(%d, %d, %v) = %v, and the text is %q", things, set, d, holds, impl.BondText(things, d))
			}
			if holds && !allWithin(set, func(part int) bool { return impl.HoldsIn(things, part, d) }) {
				t.Fatalf("HoldsIn(%d, %d, %v), and not in a set within", things, set, d)
			}
		}
	}
}

func TestClosedByExamples(t *testing.T) {
	list := []impl.Bond{{From: 1, To: 2}, {From: 2, To: 4}}
	for from, wanted := range []int{0, 7, 6, 7, 4, 7, 6, 7} {
		if got := impl.ClosedBy(3, list, from); got != wanted {
			t.Errorf("ClosedBy(3, %v, %d) = %d, not %d", list, from, got, wanted)
		}
	}
	both := []impl.Bond{{From: 3, To: 4}, {From: 4, To: 1}}
	for from, wanted := range []int{0, 1, 2, 7, 5, 5, 7, 7} {
		if got := impl.ClosedBy(3, both, from); got != wanted {
			t.Errorf("ClosedBy(3, %v, %d) = %d, not %d", both, from, got, wanted)
		}
	}
	for _, chain := range chains() {
		for from := range 8 {
			if got := impl.ClosedBy(3, chain, from); got != 7 {
				t.Errorf("ClosedBy(3, %v, %d) = %d", chain, from, got)
			}
		}
	}
}

func TestBondFollowsExamples(t *testing.T) {
	list := []impl.Bond{{From: 1, To: 2}, {From: 2, To: 4}}
	for _, d := range []impl.Bond{{From: 1, To: 4}, {From: 1, To: 7}, {From: 2, To: 6}, {From: 3, To: 4}, {From: 0, To: 0}, {From: 4, To: 4}, {From: 4, To: 0}, {From: 7, To: 1}} {
		if !impl.BondFollows(3, list, d) {
			t.Errorf("BondFollows(3, %v, %v) = false", list, d)
		}
	}
	for _, d := range []impl.Bond{{From: 4, To: 1}, {From: 0, To: 1}, {From: 0, To: 4}, {From: 2, To: 1}, {From: 6, To: 1}, {From: 4, To: 6}, {From: 0, To: 7}} {
		if impl.BondFollows(3, list, d) {
			t.Errorf("BondFollows(3, %v, %v) = true", list, d)
		}
	}
}

func TestClosedByAndBondFollows(t *testing.T) {
	for things := 1; things <= 3; things++ {
		for list := range bondLists(things) {
			checkClosed(t, things, list)
		}
	}
	for _, chain := range chains() {
		checkClosed(t, 3, chain)
	}
}

func TestNothingButPartsFollowsFromNothing(t *testing.T) {
	for things := 1; things <= 3; things++ {
		for _, none := range [][]impl.Bond{nil, {}, {{}}, slices.Repeat([]impl.Bond{{}}, 8)} {
			for from := range worldsByThings[things] {
				if got := impl.ClosedBy(things, none, from); got != from {
					t.Errorf("ClosedBy(%d, %v, %d) = %d", things, none, from, got)
				}
			}
			for _, d := range allBonds(things) {
				if got := impl.BondFollows(things, none, d); got != isWithin(d.To, d.From) {
					t.Errorf("BondFollows(%d, %v, %v) = %v", things, none, d, got)
				}
			}
		}
	}
}

func TestDependencesFromNothingAndOnAll(t *testing.T) {
	for things := 1; things <= 3; things++ {
		all := worldsByThings[things] - 1
		for from := range all + 1 {
			for to := range all + 1 {
				if got := impl.ClosedBy(things, []impl.Bond{{From: 0, To: to}}, from); got != from|to {
					t.Errorf("ClosedBy(%d, from nothing %d, %d) = %d", things, to, from, got)
				}
				if got := impl.ClosedBy(things, []impl.Bond{{From: all, To: to}}, from); got != from {
					t.Errorf("ClosedBy(%d, from all %d, %d) = %d", things, to, from, got)
				}
				if got := impl.ClosedBy(things, []impl.Bond{{From: to, To: to}}, from); got != from {
					t.Errorf("ClosedBy(%d, from %d on the same, %d) = %d", things, to, from, got)
				}
				wanted := from
				if isWithin(to, from) {
					wanted = all
				}
				if got := impl.ClosedBy(things, []impl.Bond{{From: to, To: all}}, from); got != wanted {
					t.Errorf("ClosedBy(%d, from %d on all, %d) = %d", things, to, from, got)
				}
			}
		}
	}
}

func TestEightDependencesAndNine(t *testing.T) {
	for things := 1; things <= 3; things++ {
		for _, d := range allBonds(things) {
			eight := slices.Repeat([]impl.Bond{d}, 8)
			checkClosed(t, things, eight)
			closesNothing(t, things, append(eight, d))
			closesNothing(t, things, append(eight, impl.Bond{}))
			closesNothing(t, things, slices.Repeat([]impl.Bond{d}, 1000))
		}
		source := rand.New(rand.NewSource(int64(9 * things)))
		for range 300 {
			nine := randomBonds(source, things, 9)
			checkClosed(t, things, nine[:8])
			closesNothing(t, things, nine)
		}
	}
}

func TestListsInWhichOneDependenceIsNone(t *testing.T) {
	for things := 1; things <= 3; things++ {
		for _, wrong := range wrongBonds(things) {
			closesNothing(t, things, []impl.Bond{wrong})
			for _, d := range []impl.Bond{{}, {From: 1, To: 1}, {From: 0, To: 1}, {From: 1, To: 0}} {
				for length := 2; length <= 8; length++ {
					for at := range length {
						list := slices.Repeat([]impl.Bond{d}, length)
						list[at] = wrong
						closesNothing(t, things, list)
					}
				}
			}
		}
	}
	closesNothing(t, 1, []impl.Bond{{From: 1, To: 2}})
	closesNothing(t, 2, []impl.Bond{{From: 1, To: 2}, {From: 2, To: 4}})
}

func TestWrongSetsOfThingsAreNotClosed(t *testing.T) {
	for things := 1; things <= 3; things++ {
		all := worldsByThings[things] - 1
		for _, list := range [][]impl.Bond{nil, {{}}, {{From: 0, To: all}}, {{From: all, To: all}}, slices.Repeat([]impl.Bond{{From: 0, To: all}}, 8)} {
			for _, wrong := range wrongBondSets(things) {
				if got := impl.ClosedBy(things, list, wrong); got != -1 {
					t.Errorf("ClosedBy(%d, %v, %d) = %d", things, list, wrong, got)
				}
			}
			for _, wrong := range wrongBonds(things) {
				if impl.BondFollows(things, list, wrong) {
					t.Errorf("BondFollows(%d, %v, %v) = true", things, list, wrong)
				}
			}
		}
	}
}

func TestDependencesOfWrongNumbersOfThings(t *testing.T) {
	for _, things := range wrongThings {
		for _, list := range [][]impl.Bond{nil, {}, {{}}, {{From: 1, To: 1}}, {{From: 0, To: 1}, {From: 1, To: 0}}, slices.Repeat([]impl.Bond{{}}, 8), slices.Repeat([]impl.Bond{{}}, 9)} {
			closesNothing(t, things, list)
		}
		for set := range 256 {
			if got := impl.KeysOf(things, set); got != nil {
				t.Errorf("KeysOf(%d, %d) = %v", things, set, got)
			}
			if got := impl.BondsOf(things, set); got != nil {
				t.Errorf("BondsOf(%d, %d) = %v", things, set, got)
			}
		}
	}
}

func TestP20ClosedTwiceIsClosedOnce(t *testing.T) {
	for things := 1; things <= 3; things++ {
		for list := range bondLists(things) {
			for from := range worldsByThings[things] {
				closed := impl.ClosedBy(things, list, from)
				if !isThings(things, closed) || !isWithin(from, closed) {
					t.Fatalf("ClosedBy(%d, %v, %d) = %d", things, list, from, closed)
				}
				if again := impl.ClosedBy(things, list, closed); again != closed {
					t.Fatalf("ClosedBy(%d, %v, %d) = %d", things, list, closed, again)
				}
				for more := range worldsByThings[things] {
					if greater := impl.ClosedBy(things, list, from|more); !isWithin(closed, greater) {
						t.Fatalf("ClosedBy(%d, %v, %d) = %d, and of %d it is %d", things, list, from, closed, from|more, greater)
					}
				}
			}
		}
	}
}

// setsIn has a bit for each set of worlds.
type setsIn [4]uint64

// placesOf tells of each dependence in which sets of worlds it holds.
func placesOf(things int) map[impl.Bond]setsIn {
	places := map[impl.Bond]setsIn{}
	for set, d := range setsAndBonds(things) {
		if impl.HoldsIn(things, set, d) {
			place := places[d]
			place[set/64] |= 1 << (set % 64)
			places[d] = place
		}
	}
	return places
}

func TestP21WhatIsNotClosedFailsSomewhere(t *testing.T) {
	for things := 1; things <= 3; things++ {
		places := placesOf(things)
		for list := range bondLists(things) {
			common := setsIn{^uint64(0), ^uint64(0), ^uint64(0), ^uint64(0)}
			for _, d := range list {
				for i := range common {
					common[i] &= places[d][i]
				}
			}
			for _, d := range allBonds(things) {
				everywhere := true
				for set := range setsFor(things) {
					if common[set/64]>>(set%64)&1 == 1 && places[d][set/64]>>(set%64)&1 == 0 {
						everywhere = false
						break
					}
				}
				if got := impl.BondFollows(things, list, d); got != everywhere {
					t.Fatalf("BondFollows(%d, %v, %v) = %v", things, list, d, got)
				}
			}
		}
	}
}

func TestKeysOfExamples(t *testing.T) {
	examples := []struct {
		things int
		set    int
		keys   []int
	}{
		{1, 0, []int{0}}, {1, 1, []int{0}}, {1, 2, []int{0}}, {1, 3, []int{1}},
		{2, 9, []int{1, 2}}, {2, 6, []int{1, 2}}, {2, 8, []int{0}}, {2, 3, []int{1}}, {2, 5, []int{2}}, {2, 7, []int{3}}, {2, 15, []int{3}}, {2, 12, []int{1}},
		{3, 255, []int{7}}, {3, 129, []int{1, 2, 4}}, {3, 3, []int{1}}, {3, 17, []int{4}}, {3, 15, []int{3}}, {3, 105, []int{3, 5, 6}}, {3, 195, []int{3, 5}}, {3, 165, []int{3, 6}}, {3, 153, []int{5, 6}},
		{3, 66, []int{1, 2, 4}}, {3, 9, []int{1, 2}}, {3, 33, []int{1, 4}}, {3, 65, []int{2, 4}}, {3, 37, []int{3, 6}}, {3, 11, []int{3}}, {3, 7, []int{3}}, {3, 67, []int{3, 5}}, {3, 97, []int{3, 5, 6}}, {3, 23, []int{7}}, {3, 254, []int{7}},
	}
	for _, example := range examples {
		checkKeys(t, example.things, example.set, impl.KeysOf(example.things, example.set), example.keys)
	}
}

func TestKeysOf(t *testing.T) {
	for things := 1; things <= 3; things++ {
		for set := range setsFor(things) {
			checkKeys(t, things, set, impl.KeysOf(things, set), keysIn(things, set))
		}
	}
}

func TestP22KeysTellWorldsFromEachOther(t *testing.T) {
	for things := 1; things <= 3; things++ {
		for set := range setsFor(things) {
			keys := impl.KeysOf(things, set)
			if len(keys) == 0 || !slices.IsSorted(keys) {
				t.Fatalf("KeysOf(%d, %d) = %v", things, set, keys)
			}
			for i, key := range keys {
				others := slices.Delete(slices.Clone(keys), i, i+1)
				if !isThings(things, key) || isWithinSome(key, others) {
					t.Fatalf("KeysOf(%d, %d) = %v", things, set, keys)
				}
				for world := range worldsByThings[things] {
					for other := range world {
						if has(set, world) && has(set, other) && tellSame(world, other, key) {
							t.Fatalf("KeysOf(%d, %d) = %v, and %d and %d tell the same", things, set, keys, world, other)
						}
					}
				}
			}
		}
	}
}

func TestBondsOfExamples(t *testing.T) {
	examples := []struct {
		things int
		set    int
		list   []impl.Bond
	}{
		{1, 3, nil}, {1, 0, []impl.Bond{{From: 0, To: 1}}}, {1, 1, []impl.Bond{{From: 0, To: 1}}},
		{2, 15, nil}, {2, 7, nil}, {2, 9, []impl.Bond{{From: 1, To: 2}, {From: 2, To: 1}}}, {2, 5, []impl.Bond{{From: 0, To: 1}, {From: 2, To: 1}}}, {2, 3, []impl.Bond{{From: 0, To: 2}, {From: 1, To: 2}}},
		{2, 0, []impl.Bond{{From: 0, To: 1}, {From: 0, To: 2}, {From: 1, To: 2}, {From: 2, To: 1}}}, {2, 4, []impl.Bond{{From: 0, To: 1}, {From: 0, To: 2}, {From: 1, To: 2}, {From: 2, To: 1}}},
		{3, 255, nil}, {3, 105, []impl.Bond{{From: 3, To: 4}, {From: 5, To: 2}, {From: 6, To: 1}}}, {3, 195, []impl.Bond{{From: 2, To: 4}, {From: 3, To: 4}, {From: 4, To: 2}, {From: 5, To: 2}}},
		{3, 15, []impl.Bond{{From: 0, To: 4}, {From: 1, To: 4}, {From: 2, To: 4}, {From: 3, To: 4}}},
		{3, 255 - 128, nil}, {3, 0, []impl.Bond{{From: 0, To: 1}, {From: 0, To: 2}, {From: 0, To: 4}, {From: 1, To: 2}, {From: 1, To: 4}, {From: 2, To: 1}, {From: 2, To: 4}, {From: 3, To: 4}, {From: 4, To: 1}, {From: 4, To: 2}, {From: 5, To: 2}, {From: 6, To: 1}}},
	}
	for _, example := range examples {
		checkBonds(t, example.things, example.set, impl.BondsOf(example.things, example.set), example.list)
	}
}

func TestBondsOf(t *testing.T) {
	for things := 1; things <= 3; things++ {
		for set := range setsFor(things) {
			checkBonds(t, things, set, impl.BondsOf(things, set), bondsIn(things, set))
		}
	}
}

// fewBonds yields parts of a list that are as long as they may be.
func fewBonds(list []impl.Bond) iter.Seq[[]impl.Bond] {
	return func(yield func([]impl.Bond) bool) {
		if len(list) <= 8 {
			yield(list)
			return
		}
		twice := slices.Concat(list, list)
		for at := range list {
			if !yield(twice[at : at+8]) {
				return
			}
		}
	}
}

func TestP23FewerWorldsHaveMoreDependences(t *testing.T) {
	for things := 1; things <= 3; things++ {
		for set := range setsFor(things) {
			list := impl.BondsOf(things, set)
			for _, d := range list {
				if !impl.BondOk(things, d) || !impl.HoldsIn(things, set, d) {
					t.Fatalf("BondsOf(%d, %d) = %v, and %v does not hold", things, set, list, d)
				}
			}
			for few := range fewBonds(list) {
				for _, d := range allBonds(things) {
					if impl.BondFollows(things, few, d) && !impl.HoldsIn(things, set, d) {
						t.Fatalf("BondsOf(%d, %d) = %v, from which %v follows, which does not hold", things, set, list, d)
					}
				}
			}
			for part := range setsFor(things) {
				if !isWithin(part, set) {
					continue
				}
				more := impl.BondsOf(things, part)
				for _, d := range list {
					if !impl.HoldsIn(things, part, d) || !slices.Contains(more, d) {
						t.Fatalf("BondsOf(%d, %d) = %v, and %v does not hold in %d", things, set, list, d, part)
					}
				}
			}
		}
	}
}

func TestWrongSetsHaveNoKeysAndNoDependences(t *testing.T) {
	for things := 1; things <= 3; things++ {
		for _, set := range wrongSets(things) {
			if got := impl.KeysOf(things, set); got != nil {
				t.Errorf("KeysOf(%d, %d) = %v", things, set, got)
			}
			if got := impl.BondsOf(things, set); got != nil {
				t.Errorf("BondsOf(%d, %d) = %v", things, set, got)
			}
		}
	}
}

func TestDependencesKeepArgumentsApart(t *testing.T) {
	for things := 1; things <= 3; things++ {
		for list := range bondLists(things) {
			// What stands in the room behind the list is no part of it.
			given := append(slices.Clone(list), wrongBonds(things)...)
			before := slices.Clone(given)
			calls := map[string]func(){
				"ClosedBy":                      func() { impl.ClosedBy(things, given[:len(list)], 1) },
				"BondFollows":                   func() { impl.BondFollows(things, given[:len(list)], impl.Bond{From: 1, To: 1}) },
				"ClosedBy, of a wrong list,":    func() { impl.ClosedBy(things, given, 1) },
				"BondFollows, of a wrong list,": func() { impl.BondFollows(things, given, impl.Bond{}) },
			}
			for name, call := range calls {
				call()
				if !slices.Equal(given, before) {
					t.Fatalf("%s writes into its argument, for %d things: %v was %v", name, things, given, before)
				}
			}
		}
	}
}

func TestKeysAndDependencesAreNewMemory(t *testing.T) {
	for things := 1; things <= 3; things++ {
		for set := range setsFor(things) {
			keys, other := impl.KeysOf(things, set), impl.KeysOf(things, set)
			overwrite(keys, -7)
			if !slices.Equal(other, keysIn(things, set)) || !slices.Equal(impl.KeysOf(things, set), other) {
				t.Fatalf("KeysOf(%d, %d) returns the same memory twice", things, set)
			}
			bonds, others := impl.BondsOf(things, set), impl.BondsOf(things, set)
			clear(bonds[:cap(bonds)])
			if !slices.Equal(others, bondsIn(things, set)) || !slices.Equal(impl.BondsOf(things, set), others) {
				t.Fatalf("BondsOf(%d, %d) returns the same memory twice", things, set)
			}
		}
	}
}

func TestDependencesAreTheSameAtEachCall(t *testing.T) {
	for things := 1; things <= 3; things++ {
		for set := range setsFor(things) {
			for range 20 {
				checkKeys(t, things, set, impl.KeysOf(things, set), keysIn(things, set))
				checkBonds(t, things, set, impl.BondsOf(things, set), bondsIn(things, set))
			}
		}
	}
}

func TestDependencesNeverPanic(t *testing.T) {
	numbers := append([]int{math.MinInt + 1, -256, -64, -2, 5, 7, 8, 16, 31, 32, 62, 63, 65, 1 << 31, 1 << 62}, wildNumbers...)
	for _, things := range numbers {
		for _, one := range numbers {
			impl.KeysOf(things, one)
			impl.BondsOf(things, one)
			for _, other := range numbers {
				d := impl.Bond{From: one, To: other}
				impl.BondOk(things, d)
				impl.BondText(things, d)
				impl.HoldsIn(things, one, d)
				impl.HoldsIn(things, other, d)
				for _, list := range [][]impl.Bond{nil, {d}, {{}, d}, {d, {}}, {{From: 1, To: 1}, {From: other, To: one}, d}, slices.Repeat([]impl.Bond{d}, 8), slices.Repeat([]impl.Bond{d}, 100)} {
					impl.ClosedBy(things, list, one)
					impl.BondFollows(things, list, d)
				}
			}
		}
	}
}
