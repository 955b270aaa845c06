package tests

import (
	"math"
	"math/rand"
	"slices"
	"strconv"
	"strings"
	"testing"

	"loop.example/openissues/impl"
)

// settledAfter tells, for each number of questions from 0 on, of which sets so many settle an issue, whatever the answers are; no way asks one question twice, so that there are no more than are at hand.
func settledAfter(things int, asks []int, issue []int) [][]bool {
	var told [][]bool
	for count := range len(asks) + 1 {
		row := make([]bool, setsFor(things))
		for set := range row {
			row[set] = isWithinSome(set, issue)
			for _, yes := range asks {
				row[set] = row[set] || count > 0 && told[count-1][set&yes] && told[count-1][set-set&yes]
			}
		}
		told = append(told, row)
	}
	return told
}

// leastAsks is the least number of questions that settle a set, or -1.
func leastAsks(told [][]bool, set int) int {
	return slices.IndexFunc(told, func(row []bool) bool { return row[set] })
}

// firstBestPlan is the plan in which each question is the first one behind which one question less is enough.
func firstBestPlan(told [][]bool, asks []int, set int) string {
	count := leastAsks(told, set)
	if count <= 0 {
		return strings.Repeat(".", 1+count)
	}
	before := told[count-1]
	ask := slices.IndexFunc(asks, func(yes int) bool { return before[set&yes] && before[set-set&yes] })
	yes := set & asks[ask]
	return strconv.Itoa(ask) + "(" + firstBestPlan(told, asks, yes) + firstBestPlan(told, asks, set-yes) + ")"
}

// planWay is one way through a plan: the numbers of its questions, and the answers to them.
type planWay struct {
	asked   []int
	answers string
}

// modelPlan is a plan as a text, and by all of its ways.
type modelPlan struct {
	text string
	ways []planWay
}

func (p modelPlan) longest() int {
	longest := 0
	for _, way := range p.ways {
		longest = max(longest, len(way.asked))
	}
	return longest
}

// behind puts a question before two plans.
func behind(ask int, yes modelPlan, no modelPlan) modelPlan {
	plan := modelPlan{text: strconv.Itoa(ask) + "(" + yes.text + no.text + ")"}
	for _, way := range yes.ways {
		plan.ways = append(plan.ways, planWay{append([]int{ask}, way.asked...), "y" + way.answers})
	}
	for _, way := range no.ways {
		plan.ways = append(plan.ways, planWay{append([]int{ask}, way.asked...), "n" + way.answers})
	}
	return plan
}

// dot is the plan that asks nothing.
var dot = modelPlan{".", []planWay{{nil, ""}}}

// plansOf are all plans of so many questions, of those at hand, and of all lesser numbers.
func plansOf(atHand int, most int) []modelPlan {
	bySize := [][]modelPlan{{dot}}
	for size := 1; size <= most; size++ {
		var plans []modelPlan
		for ask := range atHand {
			for forYes := range size {
				for _, yes := range bySize[forYes] {
					for _, no := range bySize[size-1-forYes] {
						plans = append(plans, behind(ask, yes, no))
					}
				}
			}
		}
		bySize = append(bySize, plans)
	}
	return slices.Concat(bySize...)
}

// goesAlong reports whether a world gives the answers of a way.
func goesAlong(asks []int, way planWay, world int) bool {
	for i, ask := range way.asked {
		if has(asks[ask], world) != (way.answers[i] == 'y') {
			return false
		}
	}
	return true
}

// settlesIn reports whether the worlds of a set along each way settle an issue.
func settlesIn(things int, asks []int, issue []int, set int, plan modelPlan) bool {
	for _, way := range plan.ways {
		along := 0
		for world := range worldsByThings[things] {
			if has(set, world) && goesAlong(asks, way, world) {
				along |= 1 << world
			}
		}
		if !isWithinSome(along, issue) {
			return false
		}
	}
	return true
}

// checkPlan checks what is told of a plan for right arguments, and for all worlds.
func checkPlan(t *testing.T, things int, asks []int, issue []int, set int, plan modelPlan) {
	t.Helper()
	settles := settlesIn(things, asks, issue, set, plan)
	wanted := -1
	if settles {
		wanted = plan.longest()
	}
	if got := impl.PlanAsks(things, asks, issue, set, plan.text); got != wanted {
		t.Fatalf("PlanAsks(%d, %v, %v, %d, %q) = %d, not %d", things, asks, issue, set, plan.text, got, wanted)
	}
	for w := -1; w <= 9; w++ {
		answers, answered := "", settles && w >= 0 && w < worldsByThings[things] && has(set, w)
		if answered {
			answers = plan.ways[slices.IndexFunc(plan.ways, func(way planWay) bool { return goesAlong(asks, way, w) })].answers
		}
		if got, ok := impl.AnswersTo(things, asks, issue, set, plan.text, w); got != answers || ok != answered {
			t.Fatalf("AnswersTo(%d, %v, %v, %d, %q, %d) = %q, %v, not %q, %v", things, asks, issue, set, plan.text, w, got, ok, answers, answered)
		}
	}
}

// checkAsking checks how many questions are needed, and the plan.
func checkAsking(t *testing.T, things int, asks []int, issue []int, set int, needed int, plan string) {
	t.Helper()
	if got := impl.AsksNeeded(things, asks, issue, set); got != needed {
		t.Fatalf("AsksNeeded(%d, %v, %v, %d) = %d, not %d", things, asks, issue, set, got, needed)
	}
	if got, ok := impl.PlanFor(things, asks, issue, set); got != plan || ok != (needed >= 0) {
		t.Fatalf("PlanFor(%d, %v, %v, %d) = %q, %v, not %q", things, asks, issue, set, got, ok, plan)
	}
}

// plansToTry are plans, with right and wrong numbers of questions.
var plansToTry = []string{"", ".", "0(..)", "0(.1(..))", "0(1(..)1(..))", "1(..)", "4(..)", "5(..)", "a"}

// refusesAsking checks that no function of the chapter takes an argument.
func refusesAsking(t *testing.T, things int, asks []int, issue []int, set int) {
	t.Helper()
	checkAsking(t, things, asks, issue, set, -1, "")
	for _, plan := range plansToTry {
		refusesPlan(t, things, asks, issue, set, plan)
	}
}

// refusesPlan checks that a plan is not taken.
func refusesPlan(t *testing.T, things int, asks []int, issue []int, set int, plan string) {
	t.Helper()
	if got := impl.PlanAsks(things, asks, issue, set, plan); got != -1 {
		t.Fatalf("PlanAsks(%d, %v, %v, %d, %q) = %d", things, asks, issue, set, plan, got)
	}
	for w := -1; w <= 8; w++ {
		if got, ok := impl.AnswersTo(things, asks, issue, set, plan, w); got != "" || ok {
			t.Fatalf("AnswersTo(%d, %v, %v, %d, %q, %d) = %q, %v", things, asks, issue, set, plan, w, got, ok)
		}
	}
}

// letterAsks has, for each number of things, the questions whether each one is so.
var letterAsks = map[int][]int{1: {2}, 2: {10, 12}, 3: {170, 204, 240}}

// someAsks are lists of at most MaxAsks questions: edge cases, and some of all.
func someAsks(things int, count int) [][]int {
	all := setsFor(things) - 1
	letters := letterAsks[things]
	lists := [][]int{nil, {}, {0}, {all}, {0, all, 0, all, 0}, {1}, {1, 2}, {1, 1}, {all - 1, 1}, letters, slices.Concat(letters, []int{0, all}), setsOfSize(things, 1)[:min(4, all-1)]}
	if things > 1 {
		lists = append(lists, slices.Concat(letters, letters)[:4], []int{1, 2, 4, 8, 6}, []int{8, 4, 2, 1, 8}, []int{3, 5, 6, 9, 10})
	}
	source := rand.New(rand.NewSource(int64(7 * things)))
	for i := range count {
		var list []int
		for range i % 6 {
			list = append(list, source.Intn(all+1))
		}
		lists = append(lists, list)
	}
	return lists
}

// manyAsks are all lists of up to two questions for 1 and 2 things, and those of someAsks.
func manyAsks(things int) [][]int {
	lists := someAsks(things, 60)
	if things == 3 {
		return lists
	}
	for set := range setsFor(things) {
		lists = append(lists, []int{set})
		for other := range setsFor(things) {
			lists = append(lists, []int{set, other})
		}
	}
	return lists
}

// issuesToSettle are all issues for 1 and 2 things; for 3 partitions and others, the longest one among them.
func issuesToSettle(things int) [][]int {
	if things < 3 {
		return everyIssue(things)
	}
	list := [][]int{{0}, {255}, {1}, {170}, {15, 240}, {85, 170}, setsOfSize(3, 1), setsOfSize(3, 2), setsOfSize(3, 4), setsOfSize(3, 7), {126, 129}, {7, 56, 192}}
	issues := rightIssues(3)
	for i := 0; i < len(issues); i += 40 {
		list = append(list, issues[i])
	}
	return append(list, fewPartitions(3)[:14]...)
}

// setsToAsk are all sets for 1 and 2 things, and some for 3.
func setsToAsk(things int) []int {
	var list []int
	step := map[int]int{1: 1, 2: 1, 3: 11}[things]
	for set := 0; set < setsFor(things); set += step {
		list = append(list, set)
	}
	return append(list, setsFor(things)-1)
}

func TestAskingExamples(t *testing.T) {
	which, each := []int{1, 2, 4, 8}, setsOfSize(3, 1)
	examples := []struct {
		things int
		asks   []int
		issue  []int
		set    int
		needed int
		plan   string
	}{
		{1, []int{2}, []int{1, 2}, 3, 1, "0(..)"}, {1, []int{1}, []int{1, 2}, 3, 1, "0(..)"}, {1, []int{0, 3}, []int{1, 2}, 3, -1, ""},
		{2, []int{10, 12}, which, 15, 2, "0(1(..)1(..))"}, {2, []int{1, 2, 4}, which, 15, 3, "0(.1(.2(..)))"}, {2, []int{14, 12, 8}, which, 15, 2, "1(2(..)0(..))"},
		// Settled already, whatever is at hand.
		{2, nil, which, 4, 0, "."}, {2, nil, which, 0, 0, "."}, {2, []int{10, 12}, []int{0}, 0, 0, "."}, {2, []int{10}, []int{5, 10}, 5, 0, "."}, {2, []int{5}, []int{15}, 15, 0, "."}, {3, []int{0}, []int{7, 56}, 24, 0, "."},
		// No questions settle it, or one answer only leads to worlds that are settled.
		{2, nil, []int{5, 10}, 15, -1, ""}, {2, []int{10}, which, 15, -1, ""}, {2, []int{8}, which, 15, -1, ""}, {2, []int{7}, which, 15, -1, ""}, {2, []int{10, 12}, []int{0}, 1, -1, ""}, {2, []int{10, 12, 6, 1, 2}, []int{1, 2, 4}, 15, -1, ""}, {2, []int{15, 0, 15, 0, 15}, []int{5, 10}, 15, -1, ""},
		// Two best questions, and one that is worse.
		{2, []int{10, 5}, []int{5, 10}, 15, 1, "0(..)"}, {2, []int{5, 10}, []int{5, 10}, 15, 1, "0(..)"}, {2, []int{12, 5, 10}, []int{5, 10}, 15, 1, "1(..)"}, {2, []int{12, 10, 6}, which, 15, 2, "0(1(..)1(..))"}, {2, []int{8, 6, 12, 10}, which, 15, 2, "1(2(..)0(..))"}, {2, []int{1, 12, 10}, which, 15, 2, "1(2(..)0(..))"},
		// The same question twice, and questions that have one answer in all worlds.
		{2, []int{10, 10, 12, 12}, which, 15, 2, "0(2(..)2(..))"}, {2, []int{10, 10}, which, 15, -1, ""}, {2, []int{15, 0, 10}, []int{5, 10}, 15, 1, "2(..)"}, {2, []int{12, 10}, which, 12, 1, "1(..)"}, {2, []int{12, 10}, which, 3, 1, "1(..)"},
		{3, []int{170, 204, 240}, each, 255, 3, "0(1(2(..)2(..))1(2(..)2(..)))"}, {3, []int{1, 2, 4, 8, 16}, each, 63, 5, "0(.1(.2(.3(.4(..)))))"}, {3, []int{254, 252, 248, 240, 224}, each, 63, 3, "1(3(4(..)2(..))0(..))"}, {3, []int{1, 2, 4, 8, 16}, each, 127, -1, ""}, {3, []int{240, 15}, []int{15, 240}, 255, 1, "0(..)"},
	}
	for _, example := range examples {
		checkAsking(t, example.things, example.asks, example.issue, example.set, example.needed, example.plan)
	}
}

func TestAsksNeededAndPlanFor(t *testing.T) {
	for things := 1; things <= 3; things++ {
		issues, sets := issuesToSettle(things), setsToAsk(things)
		for _, asks := range manyAsks(things) {
			for _, issue := range issues {
				told := settledAfter(things, asks, issue)
				for _, set := range sets {
					checkAsking(t, things, asks, issue, set, leastAsks(told, set), firstBestPlan(told, asks, set))
				}
			}
		}
	}
}

func TestSettledAlready(t *testing.T) {
	for things := 1; things <= 3; things++ {
		for _, asks := range [][]int{nil, {0}, {1}, {1, 2, 1, 2, 1}, letterAsks[things]} {
			for _, issue := range issuesToSettle(things) {
				checkAsking(t, things, asks, issue, 0, 0, ".")
				for _, set := range issue {
					checkAsking(t, things, asks, issue, set, 0, ".")
				}
			}
		}
	}
}

func TestQuestionsWithOneAnswerAreNotAsked(t *testing.T) {
	for things := 1; things <= 3; things++ {
		for _, set := range setsToAsk(things) {
			for _, issue := range issuesToSettle(things) {
				asks := []int{set, setsFor(things) - 1 - set, 0, setsFor(things) - 1, set}
				if isWithinSome(set, issue) {
					checkAsking(t, things, asks, issue, set, 0, ".")
				} else {
					checkAsking(t, things, asks, issue, set, -1, "")
				}
			}
		}
	}
}

func TestTheSameQuestionTwice(t *testing.T) {
	for _, issue := range issuesToSettle(2) {
		for _, asks := range [][]int{{10, 12}, {8}, {1, 2}, {6, 3}} {
			twice := append(slices.Clone(asks), asks...)
			for set := range 16 {
				plan, _ := impl.PlanFor(2, asks, issue, set)
				checkAsking(t, 2, twice, issue, set, impl.AsksNeeded(2, asks, issue, set), plan)
			}
		}
	}
}

func TestP27AnswersBoundTheQuestions(t *testing.T) {
	for things := 1; things <= 3; things++ {
		for _, asks := range manyAsks(things) {
			for _, issue := range fewPartitions(things) {
				for _, set := range setsToAsk(things) {
					needed := impl.AsksNeeded(things, asks, issue, set)
					answers := slices.DeleteFunc(slices.Clone(issue), func(answer int) bool { return answer&set == 0 })
					if needed >= 0 && len(answers) > 1<<needed {
						t.Fatalf("AsksNeeded(%d, %v, %v, %d) = %d", things, asks, issue, set, needed)
					}
				}
			}
		}
	}
}

func TestP27MoreQuestionsAndFewerWorlds(t *testing.T) {
	for things := 1; things <= 3; things++ {
		issues := issuesToSettle(things)
		for i, asks := range someAsks(things, 40) {
			for j := i % 4; j < len(issues); j += 4 {
				for _, set := range setsToAsk(things) {
					needed := impl.AsksNeeded(things, asks, issues[j], set)
					if needed < 0 {
						continue
					}
					for more := range setsFor(things) {
						longer := append(slices.Clone(asks), more)
						if got := impl.AsksNeeded(things, longer, issues[j], set); got > needed || (got < 0) != (len(asks) == 5) {
							t.Fatalf("AsksNeeded(%d, %v, %v, %d) = %d, and %d without the last one", things, longer, issues[j], set, got, needed)
						}
						if got := impl.AsksNeeded(things, asks, issues[j], set&more); got > needed || got < 0 {
							t.Fatalf("AsksNeeded(%d, %v, %v, %d) = %d, and %d for %d", things, asks, issues[j], set&more, got, needed, set)
						}
					}
				}
			}
		}
	}
}

func TestP28BestPlansNeedNoMore(t *testing.T) {
	for things := 1; things <= 3; things++ {
		for _, asks := range someAsks(things, 60) {
			for _, issue := range issuesToSettle(things) {
				for _, set := range setsToAsk(things) {
					plan, ok := impl.PlanFor(things, asks, issue, set)
					needed, asked := impl.AsksNeeded(things, asks, issue, set), impl.PlanAsks(things, asks, issue, set, plan)
					if ok != (needed >= 0) || asked != needed || !ok && plan != "" {
						t.Fatalf("PlanFor(%d, %v, %v, %d) = %q, %v, which asks %d, and %d are needed", things, asks, issue, set, plan, ok, asked, needed)
					}
				}
			}
		}
	}
}

func TestPlanAsksExamples(t *testing.T) {
	which, both := []int{1, 2, 4, 8}, []int{10, 12}
	examples := []struct {
		asks   []int
		issue  []int
		set    int
		plan   string
		asked  int
		w      int
		wanted string
	}{
		{both, which, 15, "0(1(..)1(..))", 2, 0, "nn"}, {both, which, 15, "0(1(..)1(..))", 2, 1, "yn"}, {both, which, 15, "0(1(..)1(..))", 2, 2, "ny"}, {both, which, 15, "0(1(..)1(..))", 2, 3, "yy"}, {both, which, 15, "1(0(..)0(..))", 2, 1, "ny"},
		{both, which, 4, ".", 0, 2, ""}, {nil, which, 4, ".", 0, 2, ""}, {nil, []int{15}, 15, ".", 0, 3, ""},
		// More questions than are needed, and the same one again.
		{both, which, 4, "0(..)", 1, 2, "n"}, {both, []int{5, 10}, 15, "0(1(..)1(..))", 2, 1, "yn"}, {both, []int{5, 10}, 15, "1(0(..)0(..))", 2, 1, "ny"}, {both, []int{5, 10}, 15, "0(0(..).)", 2, 3, "yy"}, {both, []int{5, 10}, 15, "0(0(..).)", 2, 2, "n"},
		// One answer alone has worlds of the set; the longest way is one without any, or not.
		{both, which, 1, "0(.1(..))", 2, 0, "nn"}, {both, which, 1, "0(1(..).)", 2, 0, "n"}, {both, which, 8, "0(1(0(..)0(..)).)", 3, 3, "yyy"}, {both, which, 3, "1(0(1(..).)0(..))", 3, 1, "ny"}, {[]int{0, 15}, []int{5, 10}, 10, "0(1(..)1(..))", 2, 3, "ny"}, {[]int{0, 15, 10}, []int{5, 10}, 15, "0(.1(2(..).))", 3, 0, "nyn"},
	}
	for _, e := range examples {
		if got := impl.PlanAsks(2, e.asks, e.issue, e.set, e.plan); got != e.asked {
			t.Errorf("PlanAsks(2, %v, %v, %d, %q) = %d", e.asks, e.issue, e.set, e.plan, got)
		}
		if got, ok := impl.AnswersTo(2, e.asks, e.issue, e.set, e.plan, e.w); got != e.wanted || !ok {
			t.Errorf("AnswersTo(2, %v, %v, %d, %q, %d) = %q, %v", e.asks, e.issue, e.set, e.plan, e.w, got, ok)
		}
	}
}

func TestPlanAsksAndAnswersTo(t *testing.T) {
	sizes := []int{5, 5, 3, 2, 2, 2}
	for things := 1; things <= 3; things++ {
		issues := issuesToSettle(things)
		for i, asks := range someAsks(things, 24) {
			plans := plansOf(len(asks), sizes[len(asks)])
			for j := i % 7; j < len(issues); j += 7 {
				for k, set := range setsToAsk(things) {
					for at := (i + k) % 3; at < len(plans); at += 3 {
						checkPlan(t, things, asks, issues[j], set, plans[at])
					}
				}
			}
		}
	}
}

func TestPlansThatDoNotSettle(t *testing.T) {
	which, both := []int{1, 2, 4, 8}, []int{10, 12}
	for _, plan := range []string{".", "0(..)", "1(..)", "0(1(..).)", "0(.1(..))", "1(0(..).)", "1(.0(..))", "0(0(..)0(..))", "1(1(..)1(..))", "0(0(..)1(..))", "0(1(..)0(0(..)0(..)))"} {
		refusesPlan(t, 2, both, which, 15, plan)
	}
	refusesPlan(t, 2, both, []int{0}, 1, "0(1(..)1(..))")
	refusesPlan(t, 2, []int{0, 15}, []int{5, 10}, 15, "0(1(..)1(..))")
	refusesPlan(t, 2, nil, []int{5, 10}, 15, ".")
	// A plan for another set settles the issue for that one alone.
	refusesPlan(t, 2, both, which, 6, ".")
	refusesPlan(t, 2, both, which, 10, "0(..)")
	refusesPlan(t, 2, both, which, 10, "0(.1(..))")
	checkPlan(t, 2, both, which, 10, behind(1, dot, dot))
}

func TestP29NoPlanAsksFewer(t *testing.T) {
	for things := 1; things <= 3; things++ {
		issues := issuesToSettle(things)
		for i, asks := range someAsks(things, 24) {
			for _, plan := range plansOf(len(asks), 3) {
				for j := i % 17; j < len(issues); j += 17 {
					for _, set := range setsToAsk(things) {
						asked := impl.PlanAsks(things, asks, issues[j], set, plan.text)
						if asked < 0 {
							continue
						}
						if needed := impl.AsksNeeded(things, asks, issues[j], set); needed < 0 || asked < needed {
							t.Fatalf("PlanAsks(%d, %v, %v, %d, %q) = %d, and %d are needed", things, asks, issues[j], set, plan.text, asked, needed)
						}
						for part := 0; part <= set; part += 1 + set/16 {
							if got := impl.PlanAsks(things, asks, issues[j], set&part, plan.text); got != asked {
								t.Fatalf("PlanAsks(%d, %v, %v, %d, %q) = %d, and %d for %d", things, asks, issues[j], set&part, plan.text, got, asked, set)
							}
						}
					}
				}
			}
		}
	}
}

// checkAnswers checks that the worlds of a set with the same answers to a plan settle an issue, and that there are no more answers than it asks questions.
func checkAnswers(t *testing.T, things int, asks []int, issue []int, set int, plan string) {
	t.Helper()
	asked := impl.PlanAsks(things, asks, issue, set, plan)
	byAnswers := map[string]int{}
	for world := range worldsByThings[things] {
		answers, ok := impl.AnswersTo(things, asks, issue, set, plan, world)
		if ok != (asked >= 0 && has(set, world)) || len(answers) > max(asked, 0) || strings.Trim(answers, "yn") != "" {
			t.Fatalf("AnswersTo(%d, %v, %v, %d, %q, %d) = %q, %v, and %d are asked", things, asks, issue, set, plan, world, answers, ok, asked)
		}
		if ok {
			byAnswers[answers] |= 1 << world
		}
	}
	for answers, worlds := range byAnswers {
		if !impl.Settles(things, issue, worlds) {
			t.Fatalf("AnswersTo(%d, %v, %v, %d, %q, ..) is %q in the worlds of %d", things, asks, issue, set, plan, answers, worlds)
		}
	}
}

func TestP30TheAnswersSettleTheIssue(t *testing.T) {
	for things := 1; things <= 3; things++ {
		issues := issuesToSettle(things)
		for i, asks := range someAsks(things, 24) {
			plans := plansOf(len(asks), 3)
			for j := i % 17; j < len(issues); j += 17 {
				for _, set := range setsToAsk(things) {
					for at := (i + j) % 2; at < len(plans); at += 2 {
						checkAnswers(t, things, asks, issues[j], set, plans[at].text)
					}
					if plan, ok := impl.PlanFor(things, asks, issues[j], set); ok {
						checkAnswers(t, things, asks, issues[j], set, plan)
					}
				}
			}
		}
	}
}

// isPlanOf tells by the list of all plans whether a text is one, for an issue that the empty set settles anyway.
func isPlanOf(t *testing.T, atHand int, plans map[string]int, text string) {
	t.Helper()
	asks := []int{10, 12, 6, 8, 1}[:atHand]
	wanted, known := plans[text]
	if !known {
		wanted = -1
	}
	if got := impl.PlanAsks(2, asks, []int{0}, 0, text); got != wanted {
		t.Fatalf("PlanAsks(2, %v, [0], 0, %q) = %d, not %d", asks, text, got, wanted)
	}
	if !known {
		refusesPlan(t, 2, asks, []int{0}, 0, text)
		refusesPlan(t, 2, asks, []int{15}, 15, text)
	}
}

// longestByText has the longest ways of all plans of so many questions, and of lesser numbers.
func longestByText(atHand int, most int) map[string]int {
	longest := map[string]int{}
	for _, plan := range plansOf(atHand, most) {
		longest[plan.text] = plan.longest()
	}
	return longest
}

func TestShortTextsArePlansOrNone(t *testing.T) {
	for atHand := range 3 {
		plans := longestByText(atHand, 1)
		texts := []string{""}
		for range 7 {
			var longer []string
			for _, text := range texts {
				isPlanOf(t, atHand, plans, text)
				for _, letter := range ".()012"[:3+min(3, 1+atHand)] {
					longer = append(longer, text+string(letter))
				}
			}
			texts = longer
		}
	}
}

func TestChangedPlansArePlansOrNone(t *testing.T) {
	for atHand := 1; atHand <= 5; atHand++ {
		plans := longestByText(atHand, 3)
		letters := []string{"", ".", "(", ")", "..", "0", "1", "4", "5", "9", "/", "-", "+", " ", "\n", "\x00", "\xff", "y", "[", "0(..)", "(.)"}
		for at, plan := range slices.Collect(plansText(plansOf(atHand, 2))) {
			if atHand > 2 && at%5 != 0 {
				continue
			}
			for place := range len(plan) + 1 {
				for _, letter := range letters {
					isPlanOf(t, atHand, plans, plan[:place]+letter+plan[place:])
					if place < len(plan) {
						isPlanOf(t, atHand, plans, plan[:place]+letter+plan[place+1:])
					}
				}
			}
		}
	}
}

// plansText yields the texts of plans.
func plansText(plans []modelPlan) func(yield func(string) bool) {
	return func(yield func(string) bool) {
		for _, plan := range plans {
			if !yield(plan.text) {
				return
			}
		}
	}
}

func TestWrongPlans(t *testing.T) {
	asks := []int{10, 12, 6, 8, 1}
	for _, plan := range []string{"", "..", "0", "0()", "0(.)", "0(...)", "0(..", "0..)", "0(..))", "0(..).", "0(..)0(..)", "0(..) ", " 0(..)", "0( ..)", "0(..)\n", ".\n", "00(..)", "01(..)", "10(..)", "+1(..)", "-1(..)", "-0(..)", "5(..)", "9(..)", "1.0(..)", "(..)", "(.)", "()", ")", "0(.(..))", "0[..]", "0{..}", "٠(..)", "0(.。)", "0(1(..)1(..)", "0(1(..)1(..)))", "0(1(..).1)", "yn", "\x00", ".\x00"} {
		refusesPlan(t, 2, asks, []int{0}, 0, plan)
		refusesPlan(t, 2, asks, []int{15}, 15, plan)
		refusesPlan(t, 2, asks, []int{1, 2, 4, 8}, 15, plan)
	}
}

func TestNumbersOfQuestionsAtHand(t *testing.T) {
	for atHand := range 6 {
		asks := []int{10, 12, 6, 8, 1}[:atHand]
		for ask := range 12 {
			plan := strconv.Itoa(ask) + "(..)"
			if ask >= atHand {
				refusesPlan(t, 2, asks, []int{15}, 15, plan)
				refusesPlan(t, 2, asks, []int{15}, 15, strings.Replace("0(..)", ".", plan, 1))
			} else if got := impl.PlanAsks(2, asks, []int{15}, 15, plan); got != 1 {
				t.Fatalf("PlanAsks(2, %v, [15], 15, %q) = %d", asks, plan, got)
			}
		}
	}
}

// longPlans are plans of so many questions: one behind the other, with yes or with no, and as few behind each other as may be.
func longPlans(count int) []modelPlan {
	yes, no := dot, dot
	level := []modelPlan{dot}
	for i := range count {
		yes, no = behind(i%2, yes, dot), behind(i%2, dot, no)
		level = append(level, behind(i%2, level[i/2], level[i-i/2]))
	}
	return []modelPlan{yes, no, level[count]}
}

// TestPlansOfMaxTextBytes goes by the number of questions: a plan of n questions has 4n+1 bytes, so that the longest one within MaxText has 57, none has 60, and the next one has 61.
func TestPlansOfMaxTextBytes(t *testing.T) {
	asks := []int{10, 12}
	longest := map[int][]int{0: {0, 0, 0}, 1: {1, 1, 1}, 3: {3, 3, 2}, 7: {7, 7, 3}, 14: {14, 14, 4}}
	for count, wanted := range longest {
		for i, plan := range longPlans(count) {
			if got := impl.PlanAsks(2, asks, []int{15}, 15, plan.text); got != wanted[i] || len(plan.text) != 4*count+1 {
				t.Errorf("PlanAsks of %q = %d", plan.text, got)
			}
			for _, issue := range [][]int{{15}, {1, 2, 4, 8}, {5, 10}} {
				for set := range 16 {
					checkPlan(t, 2, asks, issue, set, plan)
				}
			}
		}
	}
	for _, plan := range longPlans(14) {
		for _, more := range []string{".", "..", "...", "....", ")", ")))", "\n", "   ", strings.Repeat(".", 1000)} {
			refusesPlan(t, 2, asks, []int{15}, 15, plan.text+more)
			refusesPlan(t, 2, asks, []int{15}, 15, more+plan.text)
			refusesPlan(t, 2, asks, []int{15}, 15, "0("+plan.text+more)
		}
		for place := range plan.text {
			refusesPlan(t, 2, asks, []int{15}, 15, plan.text[:place]+"..."+plan.text[place:])
		}
	}
	for _, count := range []int{15, 16, 20, 100, 1000} {
		for _, plan := range longPlans(count) {
			refusesPlan(t, 2, asks, []int{15}, 15, plan.text)
			refusesPlan(t, 2, asks, []int{0}, 0, plan.text)
		}
	}
}

func TestMaxAsksQuestionsAndOneMore(t *testing.T) {
	if impl.MaxAsks != 5 {
		t.Fatal(impl.MaxAsks)
	}
	for things := 1; things <= 3; things++ {
		all := setsFor(things) - 1
		for _, issue := range [][]int{{all}, {1, all - 1}} {
			for _, five := range [][]int{{1, 1, 1, 1, 1}, {0, 0, 0, 0, 1}, {all, 0, all, 0, 1}} {
				ask := slices.Index(five, 1)
				one, best := behind(ask, dot, dot), "."
				if len(issue) > 1 {
					best = one.text
				}
				checkAsking(t, things, five, issue, all, len(issue)-1, best)
				checkPlan(t, things, five, issue, all, one)
				for _, more := range []int{0, 1, all, -1} {
					six := append(slices.Clone(five), more)
					refusesAsking(t, things, six, issue, all)
					refusesAsking(t, things, six, issue, 0)
					refusesAsking(t, things, slices.Repeat(six, 20), issue, all)
				}
			}
		}
	}
}

func TestAskingWithWrongNumbersOfThings(t *testing.T) {
	for _, things := range wrongThings {
		for _, asks := range [][]int{nil, {1}, {10, 12}} {
			for _, issue := range [][]int{{0}, {1}, {3}, {15}, {255}, {1, 2}, {5, 10}, nil} {
				for _, set := range []int{0, 1, 3, 15, -1} {
					refusesAsking(t, things, asks, issue, set)
				}
			}
		}
	}
}

func TestAskingAboutWhatIsNoIssue(t *testing.T) {
	for things := 1; things <= 3; things++ {
		for _, asks := range [][]int{nil, {1}, {1, 2}} {
			for _, issue := range wrongIssues(things) {
				for _, set := range []int{0, 1, setsFor(things) - 1} {
					refusesAsking(t, things, asks, issue, set)
				}
			}
		}
	}
}

func TestAskingWithWrongSets(t *testing.T) {
	for things := 1; things <= 3; things++ {
		all := setsFor(things) - 1
		for _, wrong := range wrongSets(things) {
			for _, issue := range [][]int{{0}, {all}, {1, 2}} {
				refusesAsking(t, things, nil, issue, wrong)
				refusesAsking(t, things, []int{1, 2}, issue, wrong)
				for _, asks := range [][]int{{wrong}, {1, wrong}, {wrong, 1}, {1, 2, 0, all, wrong}, {wrong, wrong}} {
					// Neither a set that settles the issue nor a question that settles it takes a wrong one along.
					for _, set := range []int{0, 1, 3, all, wrong} {
						refusesAsking(t, things, asks, issue, set)
					}
				}
			}
		}
	}
}

func TestAnswersInWrongWorlds(t *testing.T) {
	for things := 1; things <= 3; things++ {
		all := setsFor(things) - 1
		for _, w := range []int{math.MinInt, -64, -1, worldsByThings[things], worldsByThings[things] + 1, 8, 31, 32, 63, 64, 65, math.MaxInt} {
			for _, plan := range []string{".", "0(..)"} {
				if got, ok := impl.AnswersTo(things, []int{1}, []int{all}, all, plan, w); got != "" || ok {
					t.Fatalf("AnswersTo(%d, [1], [%d], %d, %q, %d) = %q, %v", things, all, all, plan, w, got, ok)
				}
			}
		}
		for set := range setsFor(things) {
			for w := range worldsByThings[things] {
				wanted := "n"
				if w == 0 {
					wanted = "y"
				}
				if !has(set, w) {
					wanted = ""
				}
				if got, ok := impl.AnswersTo(things, []int{1}, []int{all}, set, "0(..)", w); got != wanted || ok != has(set, w) {
					t.Fatalf("AnswersTo(%d, [1], [%d], %d, \"0(..)\", %d) = %q, %v", things, all, set, w, got, ok)
				}
			}
		}
	}
}

// asked tells all results for some questions, an issue, a set and a plan, as numbers.
func asked(things int, asks []int, issue []int, set int, plan string) []int {
	results := []int{impl.AsksNeeded(things, asks, issue, set), impl.PlanAsks(things, asks, issue, set, plan)}
	best, ok := impl.PlanFor(things, asks, issue, set)
	results = append(results, truth(ok)...)
	answers, ok := impl.AnswersTo(things, asks, issue, set, plan, 1)
	results = append(results, truth(ok)...)
	for _, letter := range []byte(best + "," + answers) {
		results = append(results, int(letter))
	}
	return results
}

func TestAskingKeepsArgumentsApart(t *testing.T) {
	for _, things := range []int{-1, 0, 1, 2, 3, 4} {
		lists := [][]int{nil, {0}, {1}, {3}, {15}, {255}, {1, 2}, {2, 1}, {10, 12}, {5, 10}, {1, 2, 4, 8}, {1, 1}, {-1}, {1, 2, 4, 8, 16}, {1, 2, 4, 8, 16, 32}, {170, 204, 240}, setsOfSize(3, 4)}
		for _, first := range lists {
			for _, second := range lists {
				other := spacious(second)
				for _, plan := range []string{".", "0(..)", "0(1(..)1(..))", ""} {
					for _, set := range []int{0, 3, 15, 255} {
						keepsApart(t, "asking with", first, func(list []int) []int { return asked(things, list, other, set, plan) })
						keepsApart(t, "asking about", first, func(list []int) []int { return asked(things, other, list, set, plan) })
						keepsApart(t, "asking with and about", first, func(list []int) []int { return asked(things, list, list, set, plan) })
					}
				}
				if !slices.Equal(other[:cap(other)], spacious(second)[:cap(other)]) {
					t.Fatalf("asking writes into its argument %v", second)
				}
			}
		}
	}
}

func TestAskingNeverPanics(t *testing.T) {
	plans := []string{"", ".", "0(..)", "0(1(..)1(..))", "4(.5(..))", "(", "0(", "0(.", "0(..", ")", "\xff", strings.Repeat("0(", 30), strings.Repeat("0(", 100000), strings.Repeat(".", 60), longPlans(14)[0].text, longPlans(15)[1].text}
	for _, things := range wildNumbers {
		for _, first := range wildNumbers {
			for _, second := range wildNumbers {
				lists := [][]int{nil, {first}, {first, second}, slices.Repeat([]int{first, second}, 3)}
				for i, asks := range lists {
					issue := lists[(i+1)%len(lists)]
					impl.AsksNeeded(things, asks, issue, second)
					impl.PlanFor(things, asks, issue, second)
					impl.PlanFor(things, asks, []int{15}, first)
					for _, plan := range plans {
						impl.PlanAsks(things, asks, []int{15}, first, plan)
						impl.AnswersTo(things, asks, issue, first, plan, second)
						impl.AnswersTo(things, asks, []int{3}, 3, plan, second)
					}
				}
			}
		}
	}
}
