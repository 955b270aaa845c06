package tests

import (
	"iter"
	"math"
	"math/rand"
	"slices"
	"testing"

	"loop.example/openissues/impl"
)

// settledBy tells of each set whether it settles an issue.
func settledBy(things int, issue []int) []bool {
	settled := make([]bool, setsFor(things))
	for set := range settled {
		settled[set] = isWithinSome(set, issue)
	}
	return settled
}

// issueSettledBy is the issue of the sets for which something holds, if it holds for all that is within, too: those for which it no longer holds with any world more.
func issueSettledBy(things int, settles func(set int) bool) []int {
	var issue []int
	for set := range setsFor(things) {
		great := settles(set)
		for world := range worldsByThings[things] {
			great = great && (has(set, world) || !settles(set|1<<world))
		}
		if great {
			issue = append(issue, set)
		}
	}
	return issue
}

// allWithin reports whether something holds for all sets within a set.
func allWithin(set int, holds func(part int) bool) bool {
	for part := set; part > 0; part = (part - 1) & set {
		if !holds(part) {
			return false
		}
	}
	return holds(0)
}

// grantedBy is the set of the worlds that, alone, settle an issue.
func grantedBy(things int, issue []int) int {
	granted := 0
	for world := range worldsByThings[things] {
		if isWithinSome(1<<world, issue) {
			granted |= 1 << world
		}
	}
	return granted
}

// issuesToJoin are all issues for 1 and 2 things; for 3 the edge cases, with the longest issue among them, and some of every length.
func issuesToJoin(things int) [][]int {
	if things < 3 {
		return everyIssue(things)
	}
	issues := [][]int{{0}, {255}, {170}, {204}, {240}, {15}, {1}, {128}, {254}, {1, 2}, {85, 170}, {15, 240}, {51, 204}, {1, 254}, {136, 192}}
	for size := range 9 {
		issues = append(issues, setsOfSize(3, size))
	}
	longest := setsOfSize(3, 4)
	issues = append(issues, longest[:69], longest[1:], longest[:35], longest[35:])
	source := rand.New(rand.NewSource(2))
	for range 30 {
		var sets []int
		for range 2 + source.Intn(9) {
			sets = append(sets, source.Intn(256))
		}
		issues = append(issues, greatestOf(3, sets))
	}
	middle := slices.Concat(setsOfSize(3, 3), longest, setsOfSize(3, 5))
	for range 10 {
		var sets []int
		for range 20 + source.Intn(50) {
			sets = append(sets, middle[source.Intn(len(middle))])
		}
		issues = append(issues, greatestOf(3, sets))
	}
	return issues
}

// pairsToJoin yields each two of issuesToJoin, in both orders, and each one with itself.
func pairsToJoin(things int) iter.Seq2[[]int, []int] {
	return func(yield func([]int, []int) bool) {
		issues := issuesToJoin(things)
		for _, a := range issues {
			for _, b := range issues {
				if !yield(a, b) {
					return
				}
			}
		}
	}
}

// joiner is a function that puts two issues together.
type joiner struct {
	name string
	call func(things int, a []int, b []int) []int
}

var joiners = []joiner{{"BothIssues", impl.BothIssues}, {"EitherIssue", impl.EitherIssue}, {"IfIssue", impl.IfIssue}}

// changer is a function that makes an issue of one.
type changer struct {
	name string
	call func(things int, a []int) []int
}

var changers = []changer{{"NotIssue", impl.NotIssue}, {"WhetherIssue", impl.WhetherIssue}}

// checkIssue checks that a result is the issue that it should be.
func checkIssue(t *testing.T, name string, things int, got []int, wanted []int, arguments ...[]int) {
	t.Helper()
	if !slices.Equal(got, wanted) || !impl.IssueOk(things, got) {
		t.Fatalf("%s(%d, %v) = %v, not %v", name, things, arguments, got, wanted)
	}
}

func TestBothIssues(t *testing.T) {
	for things := 1; things <= 3; things++ {
		for a, b := range pairsToJoin(things) {
			one, other := settledBy(things, a), settledBy(things, b)
			wanted := issueSettledBy(things, func(set int) bool { return one[set] && other[set] })
			checkIssue(t, "BothIssues", things, impl.BothIssues(things, a, b), wanted, a, b)
		}
	}
}

func TestEitherIssue(t *testing.T) {
	for things := 1; things <= 3; things++ {
		for a, b := range pairsToJoin(things) {
			one, other := settledBy(things, a), settledBy(things, b)
			wanted := issueSettledBy(things, func(set int) bool { return one[set] || other[set] })
			checkIssue(t, "EitherIssue", things, impl.EitherIssue(things, a, b), wanted, a, b)
		}
	}
}

func TestIfIssue(t *testing.T) {
	for things := 1; things <= 3; things++ {
		for a, b := range pairsToJoin(things) {
			one, other := settledBy(things, a), settledBy(things, b)
			carried := make([]bool, setsFor(things))
			for set := range carried {
				carried[set] = allWithin(set, func(part int) bool { return !one[part] || other[part] })
			}
			wanted := issueSettledBy(things, func(set int) bool { return carried[set] })
			checkIssue(t, "IfIssue", things, impl.IfIssue(things, a, b), wanted, a, b)
		}
	}
}

func TestNotIssue(t *testing.T) {
	for things := 1; things <= 3; things++ {
		for _, a := range issuesToJoin(things) {
			granted := grantedBy(things, a)
			wanted := issueSettledBy(things, func(set int) bool { return set&granted == 0 })
			checkIssue(t, "NotIssue", things, impl.NotIssue(things, a), wanted, a)
			checkIssue(t, "IfIssue", things, impl.IfIssue(things, a, []int{0}), wanted, a, []int{0})
		}
	}
}

func TestWhetherIssue(t *testing.T) {
	for things := 1; things <= 3; things++ {
		for _, a := range issuesToJoin(things) {
			settled, granted := settledBy(things, a), grantedBy(things, a)
			wanted := issueSettledBy(things, func(set int) bool { return settled[set] || set&granted == 0 })
			checkIssue(t, "WhetherIssue", things, impl.WhetherIssue(things, a), wanted, a)
		}
	}
}

func TestFollows(t *testing.T) {
	for things := 1; things <= 3; things++ {
		for a, b := range pairsToJoin(things) {
			one, other := settledBy(things, a), settledBy(things, b)
			wanted := true
			for set := range setsFor(things) {
				wanted = wanted && (!one[set] || other[set])
			}
			if got := impl.Follows(things, a, b); got != wanted {
				t.Fatalf("Follows(%d, %v, %v) = %v", things, a, b, got)
			}
		}
	}
}

func TestP4BothIsSettledByWhatSettlesBoth(t *testing.T) {
	for things := 1; things <= 3; things++ {
		for a, b := range pairsToJoin(things) {
			both := impl.BothIssues(things, a, b)
			for set := range setsFor(things) {
				if impl.Settles(things, both, set) != (isWithinSome(set, a) && isWithinSome(set, b)) {
					t.Fatalf("%d things: both of %v and %v is %v, and %d", things, a, b, both, set)
				}
			}
			granted := impl.GrantedBy(things, both)
			if !impl.SetOk(things, granted) || !isWithin(granted, impl.GrantedBy(things, a)) || !isWithin(granted, impl.GrantedBy(things, b)) {
				t.Fatalf("%d things: both of %v and %v grants %d", things, a, b, granted)
			}
		}
	}
}

func TestP5EitherIsSettledByWhatSettlesOne(t *testing.T) {
	for things := 1; things <= 3; things++ {
		for a, b := range pairsToJoin(things) {
			either := impl.EitherIssue(things, a, b)
			for set := range setsFor(things) {
				if impl.Settles(things, either, set) != (isWithinSome(set, a) || isWithinSome(set, b)) {
					t.Fatalf("%d things: either of %v and %v is %v, and %d", things, a, b, either, set)
				}
			}
			checkIssue(t, "BothIssues", things, impl.BothIssues(things, a, either), a, a, either)
			checkIssue(t, "EitherIssue", things, impl.EitherIssue(things, a, impl.BothIssues(things, a, b)), a, a, b)
		}
	}
}

func TestP6ConditionsAreCarriedOver(t *testing.T) {
	for things := 1; things <= 3; things++ {
		issues := issuesToJoin(things)
		for _, a := range issues {
			both := make([][]int, len(issues))
			for i, c := range issues {
				both[i] = impl.BothIssues(things, c, a)
			}
			for _, b := range issues {
				condition := impl.IfIssue(things, a, b)
				for i, c := range issues {
					if impl.Follows(things, c, condition) != impl.Follows(things, both[i], b) {
						t.Fatalf("%d things: %v, %v under %v", things, c, b, a)
					}
				}
			}
		}
	}
}

func TestP6StatementsGoIntoEitherOfTwo(t *testing.T) {
	for things := 1; things <= 3; things++ {
		step := map[int]int{1: 1, 2: 1, 3: 37}[things]
		for told := 0; told < setsFor(things); told += step {
			a := impl.StatementOf(things, told)
			for b, c := range pairsToJoin(things) {
				apart := impl.EitherIssue(things, impl.IfIssue(things, a, b), impl.IfIssue(things, a, c))
				checkIssue(t, "IfIssue", things, impl.IfIssue(things, a, impl.EitherIssue(things, b, c)), apart, a, b, c)
			}
		}
	}
}

func TestP6OtherConditionsMayStayOutside(t *testing.T) {
	a, b, c := []int{5, 10}, []int{5}, []int{10}
	apart := impl.EitherIssue(2, impl.IfIssue(2, a, b), impl.IfIssue(2, a, c))
	checkIssue(t, "IfIssue", 2, impl.IfIssue(2, a, impl.EitherIssue(2, b, c)), []int{15}, a, b, c)
	checkIssue(t, "EitherIssue", 2, apart, []int{5, 10}, a, b, c)
}

func TestP7DeniedTwiceItIsGranted(t *testing.T) {
	for things := 1; things <= 3; things++ {
		all := setsFor(things) - 1
		for _, a := range issuesToJoin(things) {
			granted := impl.GrantedBy(things, a)
			denied := impl.NotIssue(things, a)
			checkIssue(t, "NotIssue", things, denied, impl.StatementOf(things, all-granted), a)
			checkIssue(t, "NotIssue", things, impl.NotIssue(things, denied), impl.StatementOf(things, granted), denied)
		}
	}
}

func TestP8WhetherTakesNothingForGranted(t *testing.T) {
	for things := 1; things <= 3; things++ {
		for _, a := range issuesToJoin(things) {
			whether := impl.WhetherIssue(things, a)
			if granted := impl.GrantedBy(things, whether); granted != setsFor(things)-1 {
				t.Fatalf("%d things: whether %v is %v, and grants %d", things, a, whether, granted)
			}
			checkIssue(t, "WhetherIssue", things, impl.WhetherIssue(things, whether), whether, whether)
			if !impl.Follows(things, a, whether) {
				t.Fatalf("%d things: whether %v is %v, and does not follow", things, a, whether)
			}
		}
	}
}

func TestP9WhatFollowsIsSettled(t *testing.T) {
	for things := 1; things <= 3; things++ {
		all := setsFor(things) - 1
		for a, b := range pairsToJoin(things) {
			follows := impl.Follows(things, a, b)
			if both := impl.BothIssues(things, a, b); follows != slices.Equal(both, a) {
				t.Fatalf("Follows(%d, %v, %v) = %v, and both is %v", things, a, b, follows, both)
			}
			if condition := impl.IfIssue(things, a, b); follows != impl.Settles(things, condition, all) {
				t.Fatalf("Follows(%d, %v, %v) = %v, and the condition is %v", things, a, b, follows, condition)
			}
		}
	}
}

func TestTogetherWithWhatOnlyTheEmptySetSettles(t *testing.T) {
	none := []int{0}
	for things := 1; things <= 3; things++ {
		all := setsFor(things) - 1
		checkIssue(t, "NotIssue", things, impl.NotIssue(things, none), []int{all}, none)
		checkIssue(t, "NotIssue", things, impl.NotIssue(things, []int{all}), none, []int{all})
		checkIssue(t, "WhetherIssue", things, impl.WhetherIssue(things, none), []int{all}, none)
		checkIssue(t, "WhetherIssue", things, impl.WhetherIssue(things, []int{all}), []int{all}, []int{all})
		for _, a := range issuesToJoin(things) {
			checkIssue(t, "BothIssues", things, impl.BothIssues(things, a, none), none, a, none)
			checkIssue(t, "BothIssues", things, impl.BothIssues(things, none, a), none, none, a)
			checkIssue(t, "EitherIssue", things, impl.EitherIssue(things, a, none), a, a, none)
			checkIssue(t, "EitherIssue", things, impl.EitherIssue(things, none, a), a, none, a)
			checkIssue(t, "IfIssue", things, impl.IfIssue(things, none, a), []int{all}, none, a)
			if !impl.Follows(things, none, a) {
				t.Fatalf("%d things: %v does not follow from %v", things, a, none)
			}
			if impl.Follows(things, a, none) != slices.Equal(a, none) {
				t.Fatalf("%d things: %v follows from %v", things, none, a)
			}
		}
	}
}

func TestTogetherWithWhatEverySetSettles(t *testing.T) {
	for things := 1; things <= 3; things++ {
		every := []int{setsFor(things) - 1}
		for _, a := range issuesToJoin(things) {
			checkIssue(t, "BothIssues", things, impl.BothIssues(things, a, every), a, a, every)
			checkIssue(t, "EitherIssue", things, impl.EitherIssue(things, a, every), every, a, every)
			checkIssue(t, "IfIssue", things, impl.IfIssue(things, every, a), a, every, a)
			checkIssue(t, "IfIssue", things, impl.IfIssue(things, a, every), every, a, every)
			checkIssue(t, "IfIssue", things, impl.IfIssue(things, a, a), every, a, a)
		}
	}
}

func TestLongestIssueTogether(t *testing.T) {
	longest, fewer, more := setsOfSize(3, 4), setsOfSize(3, 3), setsOfSize(3, 5)
	halves := impl.EitherIssue(3, longest[35:], longest[:35])
	if len(halves) != impl.MaxParts {
		t.Fatal(len(halves))
	}
	checkIssue(t, "EitherIssue", 3, halves, longest, longest[35:], longest[:35])
	checkIssue(t, "EitherIssue", 3, impl.EitherIssue(3, longest, fewer), longest, longest, fewer)
	checkIssue(t, "EitherIssue", 3, impl.EitherIssue(3, longest, more), more, longest, more)
	checkIssue(t, "BothIssues", 3, impl.BothIssues(3, longest, longest), longest, longest, longest)
	checkIssue(t, "BothIssues", 3, impl.BothIssues(3, more, longest), longest, more, longest)
	checkIssue(t, "BothIssues", 3, impl.BothIssues(3, longest[:35], longest), longest[:35], longest[:35], longest)
	checkIssue(t, "IfIssue", 3, impl.IfIssue(3, []int{255}, longest), longest, []int{255}, longest)
	checkIssue(t, "IfIssue", 3, impl.IfIssue(3, longest, fewer), fewer, longest, fewer)
	checkIssue(t, "IfIssue", 3, impl.IfIssue(3, more, longest), longest, more, longest)
	checkIssue(t, "NotIssue", 3, impl.NotIssue(3, longest), []int{0}, longest)
	checkIssue(t, "WhetherIssue", 3, impl.WhetherIssue(3, longest), longest, longest)
	if !impl.Follows(3, longest, more) || !impl.Follows(3, longest, longest) || impl.Follows(3, longest, fewer) || impl.Follows(3, longest, longest[1:]) {
		t.Fatal("Follows")
	}
}

func TestTogetherRefusesWrongIssues(t *testing.T) {
	for things := 1; things <= 3; things++ {
		wrong := wrongIssues(things)
		for i, bad := range wrong {
			for _, change := range changers {
				refuses(t, change.name, things, change.call(things, bad), bad)
			}
			// Behind the right ones stands a wrong one, for both lists to be wrong.
			for _, other := range [][]int{{0}, {1}, {1, 2}, {setsFor(things) - 1}, wrong[(i+1)%len(wrong)], bad} {
				refusesPair(t, things, bad, other)
				refusesPair(t, things, other, bad)
			}
		}
	}
}

func TestTogetherRefusesWrongNumbersOfThings(t *testing.T) {
	for _, things := range wrongThings {
		for _, a := range [][]int{nil, {0}, {1}, {1, 2}, {10}, {5, 10}, {255}} {
			for _, change := range changers {
				refuses(t, change.name, things, change.call(things, a), a)
			}
			for _, b := range [][]int{{0}, {1}, {1, 2}, {12}, a} {
				refusesPair(t, things, a, b)
			}
		}
	}
}

// refuses checks the result for arguments that are wrong.
func refuses(t *testing.T, name string, things int, got []int, arguments ...[]int) {
	t.Helper()
	if got != nil {
		t.Fatalf("%s(%d, %v) = %v", name, things, arguments, got)
	}
}

// refusesPair checks the results of all functions of two issues if one of them is wrong.
func refusesPair(t *testing.T, things int, a []int, b []int) {
	t.Helper()
	for _, join := range joiners {
		refuses(t, join.name, things, join.call(things, a, b), a, b)
	}
	if impl.Follows(things, a, b) {
		t.Fatalf("Follows(%d, %v, %v) = true", things, a, b)
	}
}

// listsToJoin are issues and lists that are none.
func listsToJoin(things int) [][]int {
	lists := [][]int{nil, {0}, {setsFor(things) - 1}, {1}, {1, 2}, {2, 1}, {1, 1}, {-1}, slices.Repeat([]int{1}, 71)}
	if things > 1 {
		lists = append(lists, []int{5, 10}, []int{10, 5}, []int{3, 5, 6}, []int{1, 6, 8})
	}
	if things == 3 {
		lists = append(lists, setsOfSize(3, 4), setsOfSize(3, 3), setsOfSize(3, 4)[:35], append(setsOfSize(3, 4), 255))
	}
	return lists
}

func TestTogetherKeepsArgumentsApart(t *testing.T) {
	for _, things := range []int{0, 1, 2, 3, 4} {
		for _, a := range listsToJoin(things) {
			for _, change := range changers {
				keepsApart(t, change.name, a, func(list []int) []int { return change.call(things, list) })
			}
			for _, b := range listsToJoin(things) {
				for _, join := range joiners {
					// The other list has room behind it, too, so that it might be handed out as a result.
					other := spacious(b)
					keepsApart(t, join.name, a, func(list []int) []int { return join.call(things, list, other) })
					keepsApart(t, join.name, a, func(list []int) []int { return join.call(things, other, list) })
				}
				other := spacious(b)
				keepsApart(t, "Follows", a, func(list []int) []int { return truth(impl.Follows(things, list, other)) })
				keepsApart(t, "Follows", a, func(list []int) []int { return truth(impl.Follows(things, other, list)) })
			}
		}
	}
}

func truth(is bool) []int {
	if is {
		return []int{1}
	}
	return []int{0}
}

func TestTogetherWithTheSameMemory(t *testing.T) {
	for _, list := range [][]int{{0}, {15}, {10}, {5, 10}, {3, 5, 6}, {1, 2, 4, 8}, {3, 5, 6, 9, 10, 12}} {
		for _, join := range joiners {
			keepsApart(t, join.name, list, func(list []int) []int { return join.call(2, list, list) })
			keepsApart(t, join.name, list, func(list []int) []int { return join.call(2, list[:1], list) })
			keepsApart(t, join.name, list, func(list []int) []int { return join.call(2, list, list[len(list)-1:]) })
		}
	}
}

func TestTogetherNeverPanics(t *testing.T) {
	numbers := []int{math.MinInt, -64, -1, 0, 1, 2, 3, 4, 15, 16, 62, 63, 64, 65, 255, 256, 1 << 32, math.MaxInt}
	for _, things := range numbers {
		for _, first := range numbers {
			for _, second := range numbers {
				lists := [][]int{nil, {}, {first}, {first, second}, {second, first, second}, slices.Repeat([]int{first, second}, 100)}
				for _, a := range lists {
					impl.NotIssue(things, a)
					impl.WhetherIssue(things, a)
					for _, b := range lists {
						impl.BothIssues(things, a, b)
						impl.EitherIssue(things, a, b)
						impl.IfIssue(things, a, b)
						impl.Follows(things, a, b)
					}
				}
			}
		}
	}
}
