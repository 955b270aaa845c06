package tests

import (
	"math"
	"slices"
	"testing"

	"loop.example/openissues/impl"
)

func TestConstantsOfIssues(t *testing.T) {
	if impl.MaxThings != 3 || impl.MaxParts != 70 {
		t.Fatal(impl.MaxThings, impl.MaxParts)
	}
}

func TestWorldsOf(t *testing.T) {
	for things, wanted := range worldsByThings {
		if got := impl.WorldsOf(things); got != wanted {
			t.Errorf("WorldsOf(%d) = %d, not %d", things, got, wanted)
		}
	}
	for _, things := range wrongThings {
		if got := impl.WorldsOf(things); got != -1 {
			t.Errorf("WorldsOf(%d) = %d, not -1", things, got)
		}
	}
}

func TestP39AThingMoreDoublesTheWorlds(t *testing.T) {
	for things := 1; things < impl.MaxThings; things++ {
		if impl.WorldsOf(things+1) != 2*impl.WorldsOf(things) {
			t.Errorf("%d things: %d, and with one more: %d", things, impl.WorldsOf(things), impl.WorldsOf(things+1))
		}
	}
}

func TestSetOk(t *testing.T) {
	for things := 1; things <= 3; things++ {
		for set := -300; set <= 300; set++ {
			if got := impl.SetOk(things, set); got != isSet(things, set) {
				t.Errorf("SetOk(%d, %d) = %v", things, set, got)
			}
		}
		for _, set := range wrongSets(things) {
			if impl.SetOk(things, set) {
				t.Errorf("SetOk(%d, %d)", things, set)
			}
		}
	}
	for _, things := range wrongThings {
		for _, set := range []int{math.MinInt, -1, 0, 1, 15, 255, math.MaxInt} {
			if impl.SetOk(things, set) {
				t.Errorf("SetOk(%d, %d)", things, set)
			}
		}
	}
}

func TestP40NoneAndAllAreSets(t *testing.T) {
	for things, all := range map[int]int{1: 3, 2: 15, 3: 255} {
		if !impl.SetOk(things, 0) || !impl.SetOk(things, all) || impl.SetOk(things, all+1) || impl.SetOk(things, -1) {
			t.Errorf("%d things", things)
		}
	}
}

func TestIssueOk(t *testing.T) {
	for things := 1; things <= 3; things++ {
		for _, issue := range rightIssues(things) {
			if !impl.IssueOk(things, issue) {
				t.Errorf("IssueOk(%d, %v) = false", things, issue)
			}
			for _, wrong := range wrongThings {
				if impl.IssueOk(wrong, issue) {
					t.Errorf("IssueOk(%d, %v) = true", wrong, issue)
				}
			}
		}
		for _, issue := range wrongIssues(things) {
			if impl.IssueOk(things, issue) {
				t.Errorf("IssueOk(%d, %v) = true", things, issue)
			}
		}
		for _, list := range rightLists(things) {
			if got := impl.IssueOk(things, list); got != isIssue(things, list) {
				t.Errorf("IssueOk(%d, %v) = %v", things, list, got)
			}
		}
	}
}

func TestIssueOkOfAllShortLists(t *testing.T) {
	for things := 1; things <= 2; things++ {
		for a := -1; a <= setsFor(things); a++ {
			for b := -1; b <= setsFor(things); b++ {
				for c := -1; c <= setsFor(things); c++ {
					list := []int{a, b, c}
					for size := range 4 {
						if got := impl.IssueOk(things, list[:size]); got != isIssue(things, list[:size]) {
							t.Fatalf("IssueOk(%d, %v) = %v", things, list[:size], got)
						}
					}
				}
			}
		}
	}
}

func TestLongestIssue(t *testing.T) {
	longest := setsOfSize(3, 4)
	if len(longest) != impl.MaxParts || !impl.IssueOk(3, longest) || impl.IssueOk(2, longest) {
		t.Fatal(len(longest))
	}
	if got := impl.IssueFrom(3, longest); !slices.Equal(got, longest) {
		t.Fatal(got)
	}
}

func TestP41PartsOfIssuesAreIssues(t *testing.T) {
	for things := 1; things <= 3; things++ {
		for _, issue := range rightIssues(things) {
			for size := len(issue); size >= 1; size-- {
				if !impl.IssueOk(things, issue[:size]) {
					t.Fatalf("IssueOk(%d, %v) = false", things, issue[:size])
				}
			}
		}
	}
}

func TestIssueFrom(t *testing.T) {
	for things := 1; things <= 3; things++ {
		for _, list := range rightLists(things) {
			if got, wanted := impl.IssueFrom(things, list), greatestOf(things, list); !slices.Equal(got, wanted) {
				t.Fatalf("IssueFrom(%d, %v) = %v, not %v", things, list, got, wanted)
			}
			for _, wrong := range wrongThings {
				if got := impl.IssueFrom(wrong, list); got != nil {
					t.Fatalf("IssueFrom(%d, %v) = %v", wrong, list, got)
				}
			}
		}
		for _, list := range wrongParts(things) {
			if got := impl.IssueFrom(things, list); got != nil {
				t.Errorf("IssueFrom(%d, %v) = %v", things, list, got)
			}
		}
	}
}

func TestP1OnlyTheGreatestSetsCount(t *testing.T) {
	for things := 1; things <= 3; things++ {
		for _, list := range rightLists(things) {
			issue := impl.IssueFrom(things, list)
			if !impl.IssueOk(things, issue) {
				t.Fatalf("IssueFrom(%d, %v) = %v, which is no issue", things, list, issue)
			}
			for _, set := range list {
				if !impl.Settles(things, issue, set) {
					t.Fatalf("IssueFrom(%d, %v) = %v, which %d does not settle", things, list, issue, set)
				}
			}
			if again := impl.IssueFrom(things, issue); !slices.Equal(again, issue) {
				t.Fatalf("IssueFrom(%d, %v) = %v", things, issue, again)
			}
		}
	}
}

func TestSettles(t *testing.T) {
	for things := 1; things <= 3; things++ {
		for _, issue := range rightIssues(things) {
			for set := range setsFor(things) {
				if got := impl.Settles(things, issue, set); got != isWithinSome(set, issue) {
					t.Fatalf("Settles(%d, %v, %d) = %v", things, issue, set, got)
				}
			}
			for _, set := range wrongSets(things) {
				if impl.Settles(things, issue, set) {
					t.Fatalf("Settles(%d, %v, %d) = true", things, issue, set)
				}
			}
			for _, wrong := range wrongThings {
				if impl.Settles(wrong, issue, 0) {
					t.Fatalf("Settles(%d, %v, 0) = true", wrong, issue)
				}
			}
		}
		for _, issue := range wrongIssues(things) {
			for set := range setsFor(things) {
				if impl.Settles(things, issue, set) {
					t.Fatalf("Settles(%d, %v, %d) = true", things, issue, set)
				}
			}
		}
	}
}

func TestP2WhoKnowsMoreSettlesMore(t *testing.T) {
	for things := 1; things <= 3; things++ {
		for _, issue := range rightIssues(things) {
			if !impl.Settles(things, issue, 0) {
				t.Fatalf("the empty set does not settle %v", issue)
			}
			for set := range setsFor(things) {
				for part := range setsFor(things) {
					if isWithin(part, set) && impl.Settles(things, issue, set) && !impl.Settles(things, issue, part) {
						t.Fatalf("%d things: %d settles %v, and %d does not", things, set, issue, part)
					}
				}
			}
		}
	}
}

func TestP2IssuesSettledByTheSameSetsAreTheSame(t *testing.T) {
	for things := 1; things <= 3; things++ {
		known := map[string][]int{}
		for _, issue := range rightIssues(things) {
			settling := make([]byte, setsFor(things))
			for set := range settling {
				if impl.Settles(things, issue, set) {
					settling[set] = 1
				}
			}
			if other, ok := known[string(settling)]; ok && !slices.Equal(other, issue) {
				t.Fatalf("%d things: %v and %v are settled by the same sets", things, other, issue)
			}
			known[string(settling)] = issue
		}
	}
}

func TestIssueThatOnlyTheEmptySetSettles(t *testing.T) {
	for things := 1; things <= 3; things++ {
		issue := []int{0}
		if !impl.IssueOk(things, issue) || impl.GrantedBy(things, issue) != 0 {
			t.Errorf("%d things: %d", things, impl.GrantedBy(things, issue))
		}
		for set := range setsFor(things) {
			if impl.Settles(things, issue, set) != (set == 0) {
				t.Errorf("%d things: %d", things, set)
			}
		}
		if got := impl.IssueFrom(things, []int{0, 0, 0}); !slices.Equal(got, issue) {
			t.Errorf("%d things: %v", things, got)
		}
	}
}

func TestIssueThatEverySetSettles(t *testing.T) {
	for things := 1; things <= 3; things++ {
		all := setsFor(things) - 1
		issue := []int{all}
		if !impl.IssueOk(things, issue) || impl.GrantedBy(things, issue) != all {
			t.Errorf("%d things: %d", things, impl.GrantedBy(things, issue))
		}
		for set := range setsFor(things) {
			if !impl.Settles(things, issue, set) {
				t.Errorf("%d things: %d", things, set)
			}
			if got := impl.IssueFrom(things, []int{set, all, 0}); !slices.Equal(got, issue) {
				t.Errorf("%d things: %v", things, got)
			}
		}
	}
}

func TestGrantedBy(t *testing.T) {
	for things := 1; things <= 3; things++ {
		for _, issue := range rightIssues(things) {
			granted := impl.GrantedBy(things, issue)
			for world := range worldsByThings[things] {
				inSome := slices.ContainsFunc(issue, func(set int) bool { return has(set, world) })
				if has(granted, world) != inSome {
					t.Fatalf("GrantedBy(%d, %v) = %d", things, issue, granted)
				}
			}
			for _, wrong := range wrongThings {
				if got := impl.GrantedBy(wrong, issue); got != -1 {
					t.Fatalf("GrantedBy(%d, %v) = %d", wrong, issue, got)
				}
			}
		}
		for _, issue := range wrongIssues(things) {
			if got := impl.GrantedBy(things, issue); got != -1 {
				t.Errorf("GrantedBy(%d, %v) = %d", things, issue, got)
			}
		}
	}
}

func TestP3WhatIsSettledIsGranted(t *testing.T) {
	for things := 1; things <= 3; things++ {
		for _, issue := range rightIssues(things) {
			granted := impl.GrantedBy(things, issue)
			if !impl.SetOk(things, granted) {
				t.Fatalf("GrantedBy(%d, %v) = %d", things, issue, granted)
			}
			for set := range setsFor(things) {
				if impl.Settles(things, issue, set) && !isWithin(set, granted) {
					t.Fatalf("GrantedBy(%d, %v) = %d, without %d", things, issue, granted, set)
				}
			}
			if impl.Settles(things, issue, granted) != (len(issue) == 1) {
				t.Fatalf("GrantedBy(%d, %v) = %d", things, issue, granted)
			}
		}
	}
}

func TestStatementOf(t *testing.T) {
	for things := 1; things <= 3; things++ {
		for set := range setsFor(things) {
			got := impl.StatementOf(things, set)
			if !slices.Equal(got, []int{set}) || !impl.IssueOk(things, got) {
				t.Errorf("StatementOf(%d, %d) = %v", things, set, got)
			}
			overwrite(got, -7)
			if again := impl.StatementOf(things, set); !slices.Equal(again, []int{set}) {
				t.Errorf("StatementOf(%d, %d) = %v at the second call", things, set, again)
			}
		}
		for _, set := range wrongSets(things) {
			if got := impl.StatementOf(things, set); got != nil {
				t.Errorf("StatementOf(%d, %d) = %v", things, set, got)
			}
		}
	}
	for _, things := range wrongThings {
		if got := impl.StatementOf(things, 0); got != nil {
			t.Errorf("StatementOf(%d, 0) = %v", things, got)
		}
	}
}

func TestP42StatementsAreSettledByWhatIsWithin(t *testing.T) {
	for things := 1; things <= 3; things++ {
		for told := range setsFor(things) {
			statement := impl.StatementOf(things, told)
			for set := range setsFor(things) {
				if impl.Settles(things, statement, set) != isWithin(set, told) {
					t.Fatalf("%d things: StatementOf %d, %d", things, told, set)
				}
			}
		}
	}
}

func TestIssuesOf(t *testing.T) {
	for things := 1; things <= 2; things++ {
		got, wanted := impl.IssuesOf(things), everyIssue(things)
		if !slices.EqualFunc(got, wanted, slices.Equal[[]int]) {
			t.Errorf("IssuesOf(%d) = %v, not %v", things, got, wanted)
		}
	}
	if got, wanted := impl.IssuesOf(1), [][]int{{0}, {1}, {1, 2}, {2}, {3}}; !slices.EqualFunc(got, wanted, slices.Equal[[]int]) {
		t.Error(got)
	}
	for _, things := range append([]int{3}, wrongThings...) {
		if got := impl.IssuesOf(things); got != nil {
			t.Errorf("IssuesOf(%d) has %d", things, len(got))
		}
	}
}

func TestP43ThereAreSoManyIssues(t *testing.T) {
	for things, wanted := range map[int]int{1: 5, 2: 167} {
		list := impl.IssuesOf(things)
		if len(list) != wanted {
			t.Errorf("%d things: %d", things, len(list))
		}
		for i, issue := range list {
			if !impl.IssueOk(things, issue) {
				t.Errorf("%d things: %v", things, issue)
			}
			if i > 0 && slices.Compare(list[i-1], issue) >= 0 {
				t.Errorf("%d things: %v before %v", things, list[i-1], issue)
			}
		}
	}
}

func TestIssuesOfSharesNoMemory(t *testing.T) {
	for things := 1; things <= 2; things++ {
		wanted := everyIssue(things)
		list := impl.IssuesOf(things)
		for i, issue := range list {
			if !slices.Equal(issue, wanted[i]) {
				t.Fatalf("IssuesOf(%d)[%d] = %v after others were overwritten", things, i, issue)
			}
			overwrite(issue, -7)
		}
		for i, issue := range list {
			overwrite(issue, i)
		}
		for i, issue := range list {
			for _, value := range issue[:cap(issue)] {
				if value != i {
					t.Fatalf("IssuesOf(%d)[%d] shares memory with another row", things, i)
				}
			}
		}
		clear(list[:cap(list)])
		if !slices.EqualFunc(impl.IssuesOf(things), wanted, slices.Equal[[]int]) {
			t.Fatalf("IssuesOf(%d) at the second call", things)
		}
	}
}

func TestIssuesKeepArgumentsApart(t *testing.T) {
	for _, things := range append([]int{1, 2, 3}, wrongThings...) {
		for _, list := range listsForAll(things) {
			keepsApart(t, "IssueFrom", list, func(list []int) []int { return impl.IssueFrom(things, list) })
			keepsApart(t, "IssueOk", list, func(list []int) []int {
				impl.IssueOk(things, list)
				return nil
			})
			keepsApart(t, "Settles", list, func(list []int) []int {
				impl.Settles(things, list, 1)
				return nil
			})
			keepsApart(t, "GrantedBy", list, func(list []int) []int { return []int{impl.GrantedBy(things, list)} })
		}
	}
}

// listsForAll are lists of every kind, for right and wrong numbers of things.
func listsForAll(things int) [][]int {
	if worldsByThings[things] == 0 {
		things = 2
	}
	return slices.Concat(rightLists(things), rightIssues(things), wrongIssues(things))
}

func TestIssuesNeverPanic(t *testing.T) {
	numbers := []int{math.MinInt, math.MinInt + 1, -256, -65, -64, -2, -1, 0, 1, 2, 3, 4, 5, 15, 16, 31, 32, 62, 63, 64, 65, 255, 256, 1 << 31, 1 << 62, math.MaxInt}
	for _, things := range numbers {
		impl.WorldsOf(things)
		if things < 1 || things > 2 {
			impl.IssuesOf(things)
		}
		for _, a := range numbers {
			impl.SetOk(things, a)
			impl.StatementOf(things, a)
			for _, b := range numbers {
				for _, list := range [][]int{nil, {b}, {a, b}, {b, a, b}, slices.Repeat([]int{a, b}, 100)} {
					impl.IssueOk(things, list)
					impl.IssueFrom(things, list)
					impl.Settles(things, list, a)
					impl.GrantedBy(things, list)
				}
			}
		}
	}
}
