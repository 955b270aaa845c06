package tests

import (
	"math"
	"math/rand"
	"slices"
	"testing"
)

// The tests tell what is right by a model of their own, world by world, and take nothing from the program.

// worldsByThings has the number of worlds for each right number of things.
var worldsByThings = map[int]int{1: 2, 2: 4, 3: 8}

// wrongThings are numbers outside 1..MaxThings.
var wrongThings = []int{math.MinInt, -64, -1, 0, 4, 5, 6, 63, 64, 65, math.MaxInt}

// setsFor is how many sets of worlds there are.
func setsFor(things int) int {
	count := 1
	for range worldsByThings[things] {
		count *= 2
	}
	return count
}

// wrongSets are numbers that are no set of worlds.
func wrongSets(things int) []int {
	return []int{math.MinInt, -setsFor(things), -1, setsFor(things), setsFor(things) + 1, 1 << 32, math.MaxInt}
}

func isSet(things int, set int) bool {
	return worldsByThings[things] > 0 && set >= 0 && set < setsFor(things)
}

func has(set int, world int) bool {
	return set>>world%2 == 1
}

// isWithin looks at all worlds that there may be.
func isWithin(a int, b int) bool {
	for world := range 8 {
		if has(a, world) && !has(b, world) {
			return false
		}
	}
	return true
}

func isWithinSome(set int, others []int) bool {
	return slices.ContainsFunc(others, func(other int) bool { return isWithin(set, other) })
}

func areParts(things int, sets []int) bool {
	return len(sets) >= 1 && len(sets) <= 70 && !slices.ContainsFunc(sets, func(set int) bool { return !isSet(things, set) })
}

func isIssue(things int, sets []int) bool {
	if !areParts(things, sets) {
		return false
	}
	for i, a := range sets {
		for j, b := range sets {
			if i < j && a >= b || i != j && isWithin(a, b) {
				return false
			}
		}
	}
	return true
}

// greatestOf goes through all sets in ascending order and keeps those of the list that are within no other one of it.
func greatestOf(things int, sets []int) []int {
	var kept []int
	for set := range setsFor(things) {
		others := slices.DeleteFunc(slices.Clone(sets), func(other int) bool { return other == set })
		if len(others) < len(sets) && !isWithinSome(set, others) {
			kept = append(kept, set)
		}
	}
	return kept
}

// everyIssue tries all collections of sets for 1 or 2 things, and puts the issues in the order of rows.
func everyIssue(things int) [][]int {
	var list [][]int
	for chosen := 1; chosen < 1<<setsFor(things); chosen++ {
		var row []int
		for set := range setsFor(things) {
			if chosen>>set%2 == 1 {
				row = append(row, set)
			}
		}
		if isIssue(things, row) {
			list = append(list, row)
		}
	}
	slices.SortFunc(list, slices.Compare[[]int])
	return list
}

// setsOfSize are the sets of so many worlds; for 3 things those of 4 worlds make the longest issue.
func setsOfSize(things int, size int) []int {
	var list []int
	for set := range setsFor(things) {
		count := 0
		for world := range worldsByThings[things] {
			if has(set, world) {
				count++
			}
		}
		if count == size {
			list = append(list, set)
		}
	}
	return list
}

// rightLists are lists of 1..MaxParts sets, in any order, with repeated sets and sets within others among them.
func rightLists(things int) [][]int {
	all := setsFor(things) - 1
	lists := [][]int{{0}, {all}, {0, all}, {all, 0}, {0, 0}, {1, 1, 1}, {1, 2}, {2, 1}, {2, 1, 2, 3}, {1, 2, 3, all}, {all, 1, all}}
	for size := range worldsByThings[things] + 1 {
		lists = append(lists, setsOfSize(things, size))
	}
	lists = append(lists, slices.Repeat([]int{1}, 70), slices.Repeat([]int{2, 1}, 35))
	source := rand.New(rand.NewSource(int64(things)))
	for range 300 {
		var list []int
		for range 1 + source.Intn(9) {
			list = append(list, source.Intn(all+1))
		}
		lists = append(lists, list)
	}
	for range 40 {
		var list []int
		for range 70 {
			list = append(list, source.Intn(all+1))
		}
		lists = append(lists, list)
	}
	return lists
}

// rightIssues are all issues for 1 and 2 things, and many for 3.
func rightIssues(things int) [][]int {
	if things < 3 {
		return everyIssue(things)
	}
	var issues [][]int
	for _, list := range rightLists(things) {
		issues = append(issues, greatestOf(things, list))
	}
	return issues
}

// wrongParts are lists that are no list of 1..MaxParts sets.
func wrongParts(things int) [][]int {
	lists := [][]int{nil, {}, slices.Repeat([]int{1}, 71), slices.Repeat([]int{2, 1}, 40)}
	for _, wrong := range wrongSets(things) {
		lists = append(lists, []int{wrong}, []int{1, wrong}, []int{wrong, 1}, []int{1, 2, wrong})
	}
	return lists
}

// wrongIssues are lists that are no issue: those of wrongParts, and lists out of order, with repeated sets, or with sets within others.
func wrongIssues(things int) [][]int {
	all := setsFor(things) - 1
	lists := wrongParts(things)
	lists = append(lists, []int{2, 1}, []int{1, 1}, []int{1, 2, 2}, []int{1, 1, 2}, []int{0, 0}, []int{0, 1}, []int{1, 3}, []int{2, 3}, []int{1, 2, 3}, []int{1, all}, []int{0, all}, []int{all, 0}, []int{all, all})
	if things > 1 {
		lists = append(lists, []int{4, 2, 1}, []int{1, 4, 2}, []int{2, 1, 4}, []int{10, 5}, []int{1, 6, 14}, []int{1, 2, 5}, []int{6, 8, 9, 10})
	}
	if things == 3 {
		longest := setsOfSize(3, 4)
		back := slices.Clone(longest)
		slices.Reverse(back)
		lists = append(lists, back, append(slices.Clone(longest[:69]), 255), append([]int{1}, longest[:69]...), append(slices.Clone(longest), 240))
	}
	return lists
}

// spacious returns a copy of a list with room behind it, all of which is filled.
func spacious(list []int) []int {
	room := make([]int, len(list)+100)
	for i := range room {
		room[i] = -1000 - i
	}
	copy(room, list)
	return room[:len(list)]
}

// overwrite fills a list and the room behind it.
func overwrite(list []int, with int) {
	list = list[:cap(list)]
	for i := range list {
		list[i] = with
	}
}

// keepsApart checks that a call neither writes into its list nor returns memory of it, nor memory that a later call returns.
func keepsApart(t *testing.T, name string, list []int, call func(list []int) []int) {
	t.Helper()
	given := spacious(list)
	before := slices.Clone(given[:cap(given)])
	first := call(given)
	if !slices.Equal(given[:cap(given)], before) {
		t.Fatalf("%s writes into its argument %v", name, list)
	}
	second := call(given)
	wanted := slices.Clone(second)
	overwrite(first, -7)
	if !slices.Equal(given[:cap(given)], before) {
		t.Fatalf("%s returns memory of its argument %v", name, list)
	}
	if !slices.Equal(second, wanted) || !slices.Equal(call(given), wanted) {
		t.Fatalf("%s returns the same memory twice for %v", name, list)
	}
}
