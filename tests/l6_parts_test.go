package tests

import (
	"math"
	"math/rand"
	"slices"
	"testing"

	"loop.example/openissues/impl"
)

// allPartitions are all partitions, in the order of rows: each world goes into a part of those before it, or into a new one.
func allPartitions(things int) [][]int {
	list := [][]int{nil}
	for world := range worldsByThings[things] {
		var longer [][]int
		for _, parts := range list {
			longer = append(longer, append(slices.Clone(parts), 1<<world))
			for i := range parts {
				joined := slices.Clone(parts)
				joined[i] |= 1 << world
				longer = append(longer, joined)
			}
		}
		list = longer
	}
	for _, parts := range list {
		slices.Sort(parts)
	}
	slices.SortFunc(list, slices.Compare[[]int])
	return list
}

// isParted reports whether each world is in just one of the sets of an issue.
func isParted(things int, issue []int) bool {
	if !isIssue(things, issue) {
		return false
	}
	for world := range worldsByThings[things] {
		in := 0
		for _, set := range issue {
			if has(set, world) {
				in++
			}
		}
		if in != 1 {
			return false
		}
	}
	return true
}

// onePart is the partition of one part, and eachAlone that of all worlds alone.
func onePart(things int) []int {
	return []int{setsFor(things) - 1}
}

func eachAlone(things int) []int {
	return setsOfSize(things, 1)
}

// toldApart is the partition by the statements in which worlds are.
func toldApart(things int, statements []int) []int {
	var parts []int
	for world := range worldsByThings[things] {
		part := 0
		for other := range worldsByThings[things] {
			differs := func(set int) bool { return has(set, world) != has(set, other) }
			if !slices.ContainsFunc(statements, differs) {
				part |= 1 << other
			}
		}
		parts = append(parts, part)
	}
	slices.Sort(parts)
	return slices.Compact(parts)
}

// isFiner reports whether each set of a first partition is within one set of a second one.
func isFiner(a []int, b []int) bool {
	return !slices.ContainsFunc(a, func(set int) bool { return !isWithinSome(set, b) })
}

// coarserOf is the partition into the least sets that no set of two partitions is partly in.
func coarserOf(things int, a []int, b []int) []int {
	sets := slices.Concat(a, b)
	var whole []int
	for set := 1; set < setsFor(things); set++ {
		partly := func(part int) bool { return part&set != 0 && part&set != part }
		if !slices.ContainsFunc(sets, partly) {
			whole = append(whole, set)
		}
	}
	return slices.DeleteFunc(slices.Clone(whole), func(set int) bool {
		return slices.ContainsFunc(whole, func(other int) bool { return other != set && isWithin(other, set) })
	})
}

// fewPartitions are all partitions for 1 and 2 things; for 3 the edge cases, and some of all.
func fewPartitions(things int) [][]int {
	all := allPartitions(things)
	if things < 3 {
		return all
	}
	list := [][]int{onePart(3), eachAlone(3), {85, 170}, {51, 204}, {15, 240}, {5, 10, 80, 160}, {1, 254}, {127, 128}, {105, 150}}
	source := rand.New(rand.NewSource(6))
	for range 40 {
		list = append(list, all[source.Intn(len(all))])
	}
	return list
}

// statementLists are lists of at most MaxParts statements: edge cases, those of rightLists, and all partitions.
func statementLists(things int) [][]int {
	all := setsFor(things) - 1
	lists := [][]int{nil, {}, slices.Repeat([]int{0}, 70), slices.Repeat([]int{all}, 70), slices.Repeat([]int{0, all}, 35)}
	for set := range setsFor(things) {
		lists = append(lists, []int{set}, []int{set, set}, []int{0, set, all}, []int{set, all - set}, slices.Repeat([]int{set}, 70))
		for other := range setsFor(things) {
			lists = append(lists, []int{set, other})
		}
	}
	return slices.Concat(lists, rightLists(things), allPartitions(things))
}

// wrongStatements are lists that are no list of at most MaxParts statements.
func wrongStatements(things int) [][]int {
	return slices.DeleteFunc(wrongParts(things), func(list []int) bool { return len(list) == 0 })
}

// notParted are issues that are no partition: of those of all, worlds are left out, are in two sets, or both.
func notParted(things int) [][]int {
	return slices.DeleteFunc(rightIssues(things), func(issue []int) bool { return isParted(things, issue) })
}

// checkParts checks that a result is the partition that it should be.
func checkParts(t *testing.T, name string, things int, got []int, wanted []int, arguments ...[]int) {
	t.Helper()
	if !slices.Equal(got, wanted) || !impl.IsPartition(things, got) {
		t.Fatalf("%s(%d, %v) = %v, not %v", name, things, arguments, got, wanted)
	}
}

// isNone checks that a list is no partition for a number of things, for any function of the chapter.
func isNone(t *testing.T, things int, list []int) {
	t.Helper()
	if impl.IsPartition(things, list) {
		t.Fatalf("IsPartition(%d, %v) = true", things, list)
	}
	for w := -1; w <= 8; w++ {
		if got := impl.AnswerIn(things, list, w); got != -1 {
			t.Fatalf("AnswerIn(%d, %v, %d) = %d", things, list, w, got)
		}
	}
	for _, other := range [][]int{{1}, {3}, {15}, {255}, {1, 2}, {5, 10}, {85, 170}, list} {
		refuses(t, "CoarserOf", things, impl.CoarserOf(things, list, other), list, other)
		refuses(t, "CoarserOf", things, impl.CoarserOf(things, other, list), other, list)
	}
}

func TestIsPartitionExamples(t *testing.T) {
	examples := []struct {
		things int
		issue  []int
		is     bool
	}{
		{1, []int{3}, true}, {1, []int{1, 2}, true}, {1, []int{0}, false}, {1, []int{1}, false}, {1, []int{2}, false},
		{2, []int{5, 10}, true}, {2, []int{15}, true}, {2, []int{1, 2, 4, 8}, true}, {2, []int{7, 8}, true}, {2, []int{2, 4, 9}, true},
		{2, []int{5, 8}, false}, {2, []int{7, 10}, false}, {2, []int{3}, false}, {2, []int{0}, false}, {2, []int{1, 2, 4}, false}, {2, []int{3, 5, 6}, false}, {2, []int{7, 11, 13, 14}, false}, {2, []int{10, 12}, false},
		{3, []int{255}, true}, {3, []int{15, 240}, true}, {3, []int{15}, false}, {3, []int{85, 170}, true}, {3, []int{1, 2, 4, 8, 16, 32, 64, 128}, true}, {3, []int{1, 2, 4, 8, 16, 32, 64}, false}, {3, []int{127, 255 - 64}, false},
	}
	for _, example := range examples {
		if got := impl.IsPartition(example.things, example.issue); got != example.is {
			t.Errorf("IsPartition(%d, %v) = %v", example.things, example.issue, got)
		}
	}
}

func TestIsPartition(t *testing.T) {
	for things := 1; things <= 3; things++ {
		for _, issue := range rightIssues(things) {
			if got := impl.IsPartition(things, issue); got != isParted(things, issue) {
				t.Fatalf("IsPartition(%d, %v) = %v", things, issue, got)
			}
		}
		for _, parts := range allPartitions(things) {
			if !impl.IsPartition(things, parts) {
				t.Fatalf("IsPartition(%d, %v) = false", things, parts)
			}
		}
	}
}

// changedPartitions are all lists that a partition becomes if one world is taken from a set of it, or put into one.
func changedPartitions(things int, parts []int) [][]int {
	var lists [][]int
	for i := range parts {
		for world := range worldsByThings[things] {
			list := slices.Clone(parts)
			list[i] ^= 1 << world
			slices.Sort(list)
			lists = append(lists, list)
		}
	}
	return lists
}

func TestWorldsInNoSetOrInTwo(t *testing.T) {
	for things := 1; things <= 3; things++ {
		for _, parts := range allPartitions(things) {
			for _, list := range changedPartitions(things, parts) {
				if impl.IsPartition(things, list) {
					t.Fatalf("IsPartition(%d, %v) = true", things, list)
				}
			}
			for i := range parts {
				fewer := slices.Delete(slices.Clone(parts), i, i+1)
				if impl.IsPartition(things, fewer) {
					t.Fatalf("IsPartition(%d, %v) = true", things, fewer)
				}
			}
		}
	}
}

func TestPartitionsInAnotherOrder(t *testing.T) {
	for things := 1; things <= 3; things++ {
		for _, parts := range allPartitions(things) {
			back := slices.Clone(parts)
			slices.Reverse(back)
			lists := [][]int{append([]int{0}, parts...), append(slices.Clone(parts), parts[len(parts)-1]), append(slices.Clone(parts), 0)}
			if len(parts) > 1 {
				lists = append(lists, back)
			}
			for _, list := range lists {
				if impl.IsPartition(things, list) || impl.AnswerIn(things, list, 0) != -1 || impl.CoarserOf(things, list, parts) != nil || impl.CoarserOf(things, parts, list) != nil {
					t.Fatalf("%d things: %v is taken for a partition", things, list)
				}
			}
		}
	}
}

func TestWhatIsNoPartition(t *testing.T) {
	for things := 1; things <= 3; things++ {
		for _, list := range slices.Concat(notParted(things), wrongIssues(things)) {
			isNone(t, things, list)
		}
	}
}

func TestPartitionsOfOtherNumbersOfThings(t *testing.T) {
	for things := 1; things <= 3; things++ {
		for _, parts := range fewPartitions(things) {
			for other := 1; other <= 3; other++ {
				if other != things {
					isNone(t, other, parts)
				}
			}
			for _, wrong := range wrongThings {
				isNone(t, wrong, parts)
			}
		}
	}
	for _, wrong := range wrongThings {
		for _, list := range [][]int{nil, {}, {0}, {1}, {-1}, {1, 2}, {0, 0}} {
			isNone(t, wrong, list)
		}
	}
}

func TestAsksOfExamples(t *testing.T) {
	examples := []struct {
		things     int
		statements []int
		parts      []int
	}{
		{1, nil, []int{3}}, {1, []int{0}, []int{3}}, {1, []int{3}, []int{3}}, {1, []int{2}, []int{1, 2}}, {1, []int{1}, []int{1, 2}}, {1, []int{2, 2}, []int{1, 2}}, {1, []int{1, 2}, []int{1, 2}},
		{2, nil, []int{15}}, {2, []int{0, 15, 0}, []int{15}}, {2, []int{8}, []int{7, 8}}, {2, []int{7}, []int{7, 8}}, {2, []int{10}, []int{5, 10}}, {2, []int{12}, []int{3, 12}}, {2, []int{10, 12}, []int{1, 2, 4, 8}}, {2, []int{12, 10}, []int{1, 2, 4, 8}},
		{2, []int{8, 2}, []int{2, 5, 8}}, {2, []int{2, 8}, []int{2, 5, 8}}, {2, []int{6}, []int{6, 9}}, {2, []int{8, 12}, []int{3, 4, 8}}, {2, []int{14, 8}, []int{1, 6, 8}}, {2, []int{1, 3, 7}, []int{1, 2, 4, 8}},
		{3, nil, []int{255}}, {3, []int{240}, []int{15, 240}}, {3, []int{170, 204}, []int{17, 34, 68, 136}}, {3, []int{170, 204, 240}, []int{1, 2, 4, 8, 16, 32, 64, 128}}, {3, []int{128}, []int{127, 128}}, {3, []int{170, 240, 170}, []int{5, 10, 80, 160}}, {3, []int{105, 170}, []int{20, 40, 65, 130}}, {3, []int{16, 1}, []int{1, 16, 238}},
	}
	for _, example := range examples {
		checkParts(t, "AsksOf", example.things, impl.AsksOf(example.things, example.statements), example.parts, example.statements)
	}
}

func TestAsksOf(t *testing.T) {
	for things := 1; things <= 3; things++ {
		for _, list := range statementLists(things) {
			checkParts(t, "AsksOf", things, impl.AsksOf(things, list), toldApart(things, list), list)
		}
	}
}

func TestStatementsThatTellNothingApart(t *testing.T) {
	for things := 1; things <= 3; things++ {
		all := setsFor(things) - 1
		for _, nothing := range [][]int{nil, {}, {0}, {all}, {0, 0}, {all, all}, {0, all}, {all, 0, all}, slices.Repeat([]int{0}, 70), slices.Repeat([]int{all, 0}, 35)} {
			checkParts(t, "AsksOf", things, impl.AsksOf(things, nothing), onePart(things), nothing)
			for set := range setsFor(things) {
				one := []int{set}
				wanted := impl.AsksOf(things, one)
				if more := append(one, nothing...); len(more) <= 70 {
					checkParts(t, "AsksOf", things, impl.AsksOf(things, more), wanted, more)
				}
			}
		}
	}
}

func TestTheSameStatementTwice(t *testing.T) {
	for things := 1; things <= 3; things++ {
		all := setsFor(things) - 1
		for _, list := range rightLists(things) {
			if len(list) > 35 {
				continue
			}
			denied := slices.Clone(list)
			for i, set := range list {
				denied[i] = all - set
			}
			wanted := toldApart(things, list)
			for _, more := range [][]int{slices.Concat(list, list), slices.Concat(list, denied), denied} {
				checkParts(t, "AsksOf", things, impl.AsksOf(things, more), wanted, more)
			}
		}
	}
}

func TestSeventyStatementsAndOneMore(t *testing.T) {
	for things := 1; things <= 3; things++ {
		all := setsFor(things) - 1
		for _, one := range []int{0, 1, 2, all - 1, all} {
			most := slices.Repeat([]int{one}, impl.MaxParts)
			checkParts(t, "AsksOf", things, impl.AsksOf(things, most), toldApart(things, most), most)
			last := append(slices.Repeat([]int{0}, impl.MaxParts-1), one)
			checkParts(t, "AsksOf", things, impl.AsksOf(things, last), toldApart(things, last), last)
			for _, more := range []int{0, 1, all, one} {
				refuses(t, "AsksOf", things, impl.AsksOf(things, append(slices.Clone(most), more)), most)
			}
			refuses(t, "AsksOf", things, impl.AsksOf(things, slices.Repeat([]int{one}, 1000)), most)
		}
	}
	longest := setsOfSize(3, 4)
	checkParts(t, "AsksOf", 3, impl.AsksOf(3, longest), eachAlone(3), longest)
	refuses(t, "AsksOf", 3, impl.AsksOf(3, append(longest, 255)), longest)
}

func TestAsksOfWrongStatements(t *testing.T) {
	for things := 1; things <= 3; things++ {
		for _, list := range wrongStatements(things) {
			refuses(t, "AsksOf", things, impl.AsksOf(things, list), list)
		}
		for _, wrong := range wrongSets(things) {
			for _, length := range []int{1, 2, 5, 70} {
				for at := range length {
					list := slices.Repeat([]int{1}, length)
					list[at] = wrong
					refuses(t, "AsksOf", things, impl.AsksOf(things, list), list)
				}
			}
		}
	}
	for _, things := range wrongThings {
		for _, list := range [][]int{nil, {}, {0}, {1}, {1, 2}, {-1}, {255}, slices.Repeat([]int{0}, 70), slices.Repeat([]int{0}, 71)} {
			refuses(t, "AsksOf", things, impl.AsksOf(things, list), list)
		}
	}
}

func TestP24PartsAreWhetherTheyAreSo(t *testing.T) {
	for things := 1; things <= 3; things++ {
		issues := slices.Concat(rightIssues(things), allPartitions(things))
		for _, issue := range issues {
			own := impl.AsksOf(things, issue)
			if impl.IsPartition(things, issue) != slices.Equal(own, issue) {
				t.Fatalf("IsPartition(%d, %v) = %v, and it is asked by %v", things, issue, impl.IsPartition(things, issue), own)
			}
		}
	}
}

func TestP25WhetherSomeAreSoIsAPartition(t *testing.T) {
	for things := 1; things <= 3; things++ {
		var whether [][]int
		for set := range setsFor(things) {
			whether = append(whether, impl.WhetherIssue(things, impl.StatementOf(things, set)))
		}
		for _, list := range statementLists(things) {
			parts := impl.AsksOf(things, list)
			if !impl.IsPartition(things, parts) {
				t.Fatalf("AsksOf(%d, %v) = %v", things, list, parts)
			}
			for set := range setsFor(things) {
				open := func(statement int) bool { return !impl.Settles(things, whether[statement], set) }
				if impl.Settles(things, parts, set) == slices.ContainsFunc(list, open) {
					t.Fatalf("AsksOf(%d, %v) = %v, and %d", things, list, parts, set)
				}
			}
		}
	}
}

func TestAnswerInExamples(t *testing.T) {
	examples := []struct {
		things int
		parts  []int
		w      int
		answer int
	}{
		{1, []int{1, 2}, 0, 1}, {1, []int{1, 2}, 1, 2}, {1, []int{3}, 0, 3}, {1, []int{3}, 1, 3}, {1, []int{3}, 2, -1}, {1, []int{3}, -1, -1}, {1, []int{1}, 0, -1},
		{2, []int{7, 8}, 0, 7}, {2, []int{7, 8}, 1, 7}, {2, []int{7, 8}, 2, 7}, {2, []int{7, 8}, 3, 8}, {2, []int{7, 8}, 4, -1}, {2, []int{7, 9}, 1, -1}, {2, []int{7, 9}, 3, -1}, {2, []int{3, 4}, 0, -1}, {2, []int{3, 4}, 3, -1}, {2, []int{6, 9}, 0, 9}, {2, []int{6, 9}, 3, 9}, {2, []int{6, 9}, 2, 6},
		{3, []int{15, 240}, 3, 15}, {3, []int{15, 240}, 4, 240}, {3, []int{255}, 7, 255}, {3, []int{255}, 8, -1}, {3, []int{127, 128}, 7, 128}, {3, []int{127, 128}, 6, 127},
	}
	for _, example := range examples {
		if got := impl.AnswerIn(example.things, example.parts, example.w); got != example.answer {
			t.Errorf("AnswerIn(%d, %v, %d) = %d", example.things, example.parts, example.w, got)
		}
	}
}

func TestP46ThereIsOneTrueAnswer(t *testing.T) {
	for things := 1; things <= 3; things++ {
		for _, parts := range allPartitions(things) {
			answers := make([]int, worldsByThings[things])
			for w := range answers {
				answers[w] = impl.AnswerIn(things, parts, w)
				if !slices.Contains(parts, answers[w]) || !has(answers[w], w) {
					t.Fatalf("AnswerIn(%d, %v, %d) = %d", things, parts, w, answers[w])
				}
			}
			for w, answer := range answers {
				for other := range answers {
					if has(answer, other) != (answers[other] == answer) {
						t.Fatalf("AnswerIn(%d, %v, %d) = %d, and in %d it is %d", things, parts, w, answer, other, answers[other])
					}
				}
			}
		}
	}
}

func TestAnswersInWorldsThatAreNone(t *testing.T) {
	for things := 1; things <= 3; things++ {
		count := worldsByThings[things]
		for _, parts := range allPartitions(things) {
			for _, w := range []int{math.MinInt, -64, -1, count, count + 1, 16, 63, 64, 65, 1 << 32, math.MaxInt} {
				if got := impl.AnswerIn(things, parts, w); got != -1 {
					t.Fatalf("AnswerIn(%d, %v, %d) = %d", things, parts, w, got)
				}
			}
		}
	}
}

func TestCoarserOfExamples(t *testing.T) {
	examples := []struct {
		things  int
		a       []int
		b       []int
		coarser []int
	}{
		{1, []int{1, 2}, []int{1, 2}, []int{1, 2}}, {1, []int{1, 2}, []int{3}, []int{3}}, {1, []int{3}, []int{3}, []int{3}},
		{2, []int{1, 2, 12}, []int{3, 4, 8}, []int{3, 12}}, {2, []int{5, 10}, []int{3, 12}, []int{15}}, {2, []int{5, 10}, []int{5, 10}, []int{5, 10}}, {2, []int{5, 10}, []int{1, 2, 4, 8}, []int{5, 10}}, {2, []int{2, 4, 9}, []int{1, 4, 10}, []int{4, 11}}, {2, []int{1, 6, 8}, []int{3, 12}, []int{15}}, {2, []int{7, 8}, []int{1, 2, 12}, []int{15}}, {2, []int{7, 8}, []int{3, 4, 8}, []int{7, 8}},
		{3, []int{17, 34, 68, 136}, []int{5, 10, 80, 160}, []int{85, 170}}, {3, []int{85, 170}, []int{15, 240}, []int{255}}, {3, []int{105, 150}, []int{85, 170}, []int{255}}, {3, []int{1, 2, 4, 24, 32, 64, 128}, []int{1, 2, 12, 48, 64, 128}, []int{1, 2, 60, 64, 128}},
		// One world leads to the next, from the first to the last, and in another order.
		{3, []int{3, 12, 48, 192}, []int{1, 6, 24, 96, 128}, []int{255}}, {3, []int{3, 12, 48, 64, 128}, []int{1, 6, 24, 32, 64, 128}, []int{63, 64, 128}}, {3, []int{8, 20, 34, 65, 128}, []int{1, 4, 18, 72, 160}, []int{73, 182}},
	}
	for _, example := range examples {
		checkParts(t, "CoarserOf", example.things, impl.CoarserOf(example.things, example.a, example.b), example.coarser, example.a, example.b)
		checkParts(t, "CoarserOf", example.things, impl.CoarserOf(example.things, example.b, example.a), example.coarser, example.b, example.a)
	}
}

func TestCoarserOf(t *testing.T) {
	for things := 1; things <= 3; things++ {
		few := fewPartitions(things)
		for _, a := range few {
			for _, b := range few {
				checkParts(t, "CoarserOf", things, impl.CoarserOf(things, a, b), coarserOf(things, a, b), a, b)
			}
		}
	}
	all := allPartitions(3)
	source := rand.New(rand.NewSource(26))
	for _, a := range all {
		b := all[source.Intn(len(all))]
		checkParts(t, "CoarserOf", 3, impl.CoarserOf(3, a, b), coarserOf(3, a, b), a, b)
	}
}

func TestCoarserOfTheEdgeCases(t *testing.T) {
	for things := 1; things <= 3; things++ {
		one, alone := onePart(things), eachAlone(things)
		for _, a := range allPartitions(things) {
			checkParts(t, "CoarserOf", things, impl.CoarserOf(things, a, a), a, a, a)
			checkParts(t, "CoarserOf", things, impl.CoarserOf(things, a, one), one, a, one)
			checkParts(t, "CoarserOf", things, impl.CoarserOf(things, one, a), one, one, a)
			checkParts(t, "CoarserOf", things, impl.CoarserOf(things, a, alone), a, a, alone)
			checkParts(t, "CoarserOf", things, impl.CoarserOf(things, alone, a), a, alone, a)
		}
	}
}

func TestPartitionsWithNothingInCommon(t *testing.T) {
	apart := 0
	for _, a := range allPartitions(2) {
		for _, b := range allPartitions(2) {
			// What both are finer than is told by trying all.
			common := slices.DeleteFunc(allPartitions(2), func(c []int) bool { return !isFiner(a, c) || !isFiner(b, c) })
			if len(common) == 1 {
				apart++
				checkParts(t, "CoarserOf", 2, impl.CoarserOf(2, a, b), onePart(2), a, b)
			} else if got := impl.CoarserOf(2, a, b); slices.Equal(got, onePart(2)) {
				t.Errorf("CoarserOf(2, %v, %v) = %v", a, b, got)
			}
		}
	}
	if apart == 0 {
		t.Error("no two partitions have nothing in common")
	}
}

func TestP26FinerAndCoarserGoTogether(t *testing.T) {
	for things := 1; things <= 3; things++ {
		few := fewPartitions(things)
		for _, a := range few {
			for _, b := range few {
				coarser := impl.CoarserOf(things, a, b)
				if !impl.IsPartition(things, coarser) || !impl.Follows(things, a, coarser) || !impl.Follows(things, b, coarser) {
					t.Fatalf("CoarserOf(%d, %v, %v) = %v", things, a, b, coarser)
				}
				checkIssue(t, "BothIssues", things, impl.BothIssues(things, coarser, a), a, coarser, a)
				for _, c := range impl.PartitionsOf(things) {
					if impl.Follows(things, a, c) && impl.Follows(things, b, c) && !impl.Follows(things, coarser, c) {
						t.Fatalf("CoarserOf(%d, %v, %v) = %v, and not %v", things, a, b, coarser, c)
					}
				}
			}
		}
	}
}

func TestP26CoarserForThreeThings(t *testing.T) {
	all := allPartitions(3)
	source := rand.New(rand.NewSource(62))
	for range 100 {
		a, b := all[source.Intn(len(all))], all[source.Intn(len(all))]
		coarser := impl.CoarserOf(3, a, b)
		for _, c := range all {
			if (isFiner(a, c) && isFiner(b, c)) != isFiner(coarser, c) {
				t.Fatalf("CoarserOf(3, %v, %v) = %v, and %v", a, b, coarser, c)
			}
		}
	}
}

func TestCoarserOfAPartitionAndWhatIsNone(t *testing.T) {
	for things := 1; things <= 3; things++ {
		for _, parts := range [][]int{onePart(things), eachAlone(things), {1, setsFor(things) - 2}} {
			for _, list := range slices.Concat(notParted(things), wrongIssues(things)) {
				refuses(t, "CoarserOf", things, impl.CoarserOf(things, parts, list), parts, list)
				refuses(t, "CoarserOf", things, impl.CoarserOf(things, list, parts), list, parts)
			}
			for other := 1; other <= 3; other++ {
				if other != things {
					refuses(t, "CoarserOf", things, impl.CoarserOf(things, parts, onePart(other)), parts, onePart(other))
					refuses(t, "CoarserOf", things, impl.CoarserOf(things, onePart(other), parts), onePart(other), parts)
				}
			}
		}
	}
}

func TestPartitionsOf(t *testing.T) {
	for things := 1; things <= 2; things++ {
		got, wanted := impl.PartitionsOf(things), allPartitions(things)
		if !slices.EqualFunc(got, wanted, slices.Equal[[]int]) {
			t.Errorf("PartitionsOf(%d) = %v, not %v", things, got, wanted)
		}
	}
	if got, wanted := impl.PartitionsOf(1), [][]int{{1, 2}, {3}}; !slices.EqualFunc(got, wanted, slices.Equal[[]int]) {
		t.Error(got)
	}
	wanted := [][]int{{1, 2, 4, 8}, {1, 2, 12}, {1, 4, 10}, {1, 6, 8}, {1, 14}, {2, 4, 9}, {2, 5, 8}, {2, 13}, {3, 4, 8}, {3, 12}, {4, 11}, {5, 10}, {6, 9}, {7, 8}, {15}}
	if got := impl.PartitionsOf(2); !slices.EqualFunc(got, wanted, slices.Equal[[]int]) {
		t.Error(got)
	}
	for _, things := range append([]int{3}, wrongThings...) {
		if got := impl.PartitionsOf(things); got != nil {
			t.Errorf("PartitionsOf(%d) has %d", things, len(got))
		}
	}
}

func TestP47ThereAreSoManyPartitions(t *testing.T) {
	for things, wanted := range map[int]int{1: 2, 2: 15} {
		list := impl.PartitionsOf(things)
		if len(list) != wanted {
			t.Errorf("%d things: %d", things, len(list))
		}
		// They are those of IssuesOf that are partitions, in its order.
		issues := slices.DeleteFunc(impl.IssuesOf(things), func(issue []int) bool { return !impl.IsPartition(things, issue) })
		if !slices.EqualFunc(list, issues, slices.Equal[[]int]) {
			t.Errorf("PartitionsOf(%d) = %v, not %v", things, list, issues)
		}
		for _, a := range list {
			for _, b := range list {
				both := impl.BothIssues(things, a, b)
				if !slices.ContainsFunc(list, func(parts []int) bool { return slices.Equal(parts, both) }) {
					t.Errorf("%d things: both of %v and %v is %v", things, a, b, both)
				}
			}
		}
	}
}

func TestPartitionsOfSharesNoMemory(t *testing.T) {
	for things := 1; things <= 2; things++ {
		wanted := allPartitions(things)
		list, another := impl.PartitionsOf(things), impl.PartitionsOf(things)
		for i, parts := range list {
			if !slices.Equal(parts, wanted[i]) {
				t.Fatalf("PartitionsOf(%d)[%d] = %v after others were overwritten", things, i, parts)
			}
			overwrite(parts, -7)
		}
		for i, parts := range list {
			overwrite(parts, i)
		}
		for i, parts := range list {
			for _, value := range parts[:cap(parts)] {
				if value != i {
					t.Fatalf("PartitionsOf(%d)[%d] shares memory with another row", things, i)
				}
			}
		}
		clear(list[:cap(list)])
		if !slices.EqualFunc(another, wanted, slices.Equal[[]int]) {
			t.Fatalf("PartitionsOf(%d) returns the same memory twice", things)
		}
		if !slices.EqualFunc(impl.PartitionsOf(things), wanted, slices.Equal[[]int]) {
			t.Fatalf("PartitionsOf(%d) at the third call", things)
		}
	}
}

// listsToPart are lists of every kind, for right and wrong numbers of things.
func listsToPart(things int) [][]int {
	if worldsByThings[things] == 0 {
		things = 2
	}
	return slices.Concat(fewPartitions(things), rightLists(things), wrongIssues(things))
}

func TestPartitionsKeepArgumentsApart(t *testing.T) {
	for _, things := range append([]int{1, 2, 3}, wrongThings...) {
		for _, list := range listsToPart(things) {
			keepsApart(t, "IsPartition", list, func(list []int) []int { return truth(impl.IsPartition(things, list)) })
			keepsApart(t, "AsksOf", list, func(list []int) []int { return impl.AsksOf(things, list) })
			keepsApart(t, "AnswerIn", list, func(list []int) []int { return []int{impl.AnswerIn(things, list, 1)} })
			keepsApart(t, "CoarserOf", list, func(list []int) []int { return impl.CoarserOf(things, list, list) })
			keepsApart(t, "CoarserOf", list, func(list []int) []int { return impl.CoarserOf(things, list, list[:len(list)/2]) })
		}
	}
}

func TestCoarserOfKeepsArgumentsApart(t *testing.T) {
	for things := 1; things <= 3; things++ {
		lists := slices.Concat(fewPartitions(things), [][]int{nil, {0}, {1}, {2, 1}, {-1}, {1, 2, 4, 8, 16}})
		for _, a := range lists {
			for _, b := range lists {
				other := spacious(b)
				keepsApart(t, "CoarserOf", a, func(list []int) []int { return impl.CoarserOf(things, list, other) })
				keepsApart(t, "CoarserOf", a, func(list []int) []int { return impl.CoarserOf(things, other, list) })
				if !slices.Equal(other[:cap(other)], spacious(b)[:cap(other)]) {
					t.Fatalf("CoarserOf writes into its argument %v", b)
				}
			}
		}
	}
}

func TestPartitionsNeverPanic(t *testing.T) {
	for _, things := range wildNumbers {
		impl.PartitionsOf(things)
		for _, first := range wildNumbers {
			for _, second := range wildNumbers {
				lists := [][]int{nil, {}, {first}, {first, second}, {second, first, second}, slices.Repeat([]int{first, second}, 100)}
				for _, a := range lists {
					impl.IsPartition(things, a)
					impl.AsksOf(things, a)
					for _, w := range []int{math.MinInt, -1, 0, 1, 7, 8, 63, 64, first, second, math.MaxInt} {
						impl.AnswerIn(things, a, w)
					}
					for _, b := range lists {
						impl.CoarserOf(things, a, b)
					}
				}
			}
		}
	}
}
