package impl

import (
	"iter"
	"slices"
)

// MaxThings is the maximum number of things that may be so or not, and MaxParts that of greatest sets of an issue.
const (
	MaxThings = 3
	MaxParts  = 70
)

// maxListed is the maximum number of things for which all issues are listed.
const maxListed = 2

// WorldsOf returns how many worlds there are for a number of things in 1..MaxThings: 2 to its power, told by their numbers from 0 on, a being so in those that are odd, b in those whose half, rounded down, is odd, and c in those whose fourth is; -1 for others.
func WorldsOf(things int) int {
	if things < 1 || things > MaxThings {
		return -1
	}
	return 1 << things
}

// SetOk reports whether a number is a set of worlds for a number of things in 1..MaxThings, told by the sum of 2 to the power of its worlds: from 0 on and less than 2 to the power of the number of worlds.
func SetOk(things int, set int) bool {
	worlds := WorldsOf(things)
	return worlds > 0 && set >= 0 && set < 1<<worlds
}

// IssueOk reports whether there are 1..MaxParts sets (SetOk), in ascending order, none of them within another one.
func IssueOk(things int, issue []int) bool {
	if !partsOk(things, issue) || !slices.IsSorted(issue) {
		return false
	}
	for i, set := range issue {
		// A set is never within one with a lesser number; one that is there twice is within itself.
		if withinAny(set, issue[i+1:]) {
			return false
		}
	}
	return true
}

// IssueFrom returns the issue (IssueOk) of 1..MaxParts sets (SetOk): those of them that are within no other one, each once, in ascending order; nil for others.
func IssueFrom(things int, sets []int) []int {
	if !partsOk(things, sets) {
		return nil
	}
	return greatest(sets)
}

// Settles reports whether a set (SetOk) settles an issue (IssueOk): whether it is within one of its sets; false for others.
func Settles(things int, issue []int, set int) bool {
	return SetOk(things, set) && IssueOk(things, issue) && withinAny(set, issue)
}

// GrantedBy returns the set of the worlds that are in some set of an issue (IssueOk); -1 for others.
func GrantedBy(things int, issue []int) int {
	if !IssueOk(things, issue) {
		return -1
	}
	granted := 0
	for _, set := range issue {
		granted |= set
	}
	return granted
}

// StatementOf returns the issue of one set (SetOk); nil for others.
func StatementOf(things int, set int) []int {
	if !SetOk(things, set) {
		return nil
	}
	return []int{set}
}

// IssuesOf returns all issues (IssueOk) for a number of things in 1..2, in the order of rows of numbers (the lesser number at the first difference first, and a row before longer ones that begin with it); nil for other numbers.
func IssuesOf(things int) [][]int {
	if things < 1 || things > maxListed {
		return nil
	}
	var list [][]int
	for issue := range antichains(1 << WorldsOf(things)) {
		list = append(list, issue)
	}
	return list
}

// antichains yields each row of ascending numbers below limit of which none, as a set, is within another one, in the order of rows; the empty row is left out.
func antichains(limit int) iter.Seq[[]int] {
	return func(yield func([]int) bool) {
		var extend func(row []int, from int) bool
		extend = func(row []int, from int) bool {
			for set := from; set < limit; set++ {
				if !apart(row, set) {
					continue
				}
				longer := append(row, set)
				// All rows grow in the same memory, so a copy is given out.
				if !yield(slices.Clone(longer)) || !extend(longer, set+1) {
					return false
				}
			}
			return true
		}
		extend(nil, 0)
	}
}

// apart reports whether no set of a row is within a set with a greater number than all of them.
func apart(row []int, set int) bool {
	for _, lesser := range row {
		if within(lesser, set) {
			return false
		}
	}
	return true
}

// partsOk reports whether there are 1..MaxParts sets (SetOk), in any order.
func partsOk(things int, sets []int) bool {
	if len(sets) < 1 || len(sets) > MaxParts {
		return false
	}
	for _, set := range sets {
		if !SetOk(things, set) {
			return false
		}
	}
	return true
}

// greatest returns the sets that are within no other one, each once, in ascending order.
func greatest(sets []int) []int {
	ascending := slices.Clone(sets)
	slices.Sort(ascending)
	var kept []int
	for i, set := range ascending {
		// Only a set with a greater number has all worlds of this one and more; of equal ones the last one stays.
		if !withinAny(set, ascending[i+1:]) {
			kept = append(kept, set)
		}
	}
	return kept
}

// within reports whether all worlds of a first set are in a second one.
func within(a int, b int) bool {
	return a&^b == 0
}

// withinAny reports whether a set is within one of others.
func withinAny(set int, others []int) bool {
	for _, other := range others {
		if within(set, other) {
			return true
		}
	}
	return false
}
