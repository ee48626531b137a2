package tests

import (
	"math"
	"slices"
	"sort"
	"testing"

	"loop.example/g00989/impl"
)

const (
	mostPlanSteps = 11
	mostPlanBeats = 5000
)

// stepUp goes from a key to the one behind it; key 0 is behind key 11.
func stepUp(from, kind, beats int) impl.Step {
	return impl.Step{From: from, To: (from + 1) % 12, Kind: kind, Beats: beats}
}

// planOf has a step of each kind, from key 0 on.
func planOf(beats int, kinds ...int) []impl.Step {
	var plan []impl.Step
	for i, kind := range kinds {
		plan = append(plan, stepUp(i, kind, beats))
	}
	return plan
}

// allSteps are those from each of the twelve keys.
func allSteps() []impl.Step {
	var steps []impl.Step
	for key := range 12 {
		steps = append(steps, stepUp(key, impl.FromFifth+key%2, 100*key))
	}
	return steps
}

// plansOfKinds are the plans with so many steps and with all the ways to choose between fifths and fourths.
func plansOfKinds(steps, beats int) [][]impl.Step {
	var plans [][]impl.Step
	for choice := range 1 << steps {
		var plan []impl.Step
		for i := range steps {
			plan = append(plan, stepUp(i, temperedKinds()[choice>>i&1], beats))
		}
		plans = append(plans, plan)
	}
	return plans
}

// mixedPlans have pseudo-random kinds and beats.
func mixedPlans(steps, count int) [][]impl.Step {
	var plans [][]impl.Step
	numbers := mixedFines(2*(mostPlanBeats+1), steps*count)
	for range count {
		var plan []impl.Step
		for i, n := range numbers[:steps] {
			plan = append(plan, stepUp(i, temperedKinds()[n%2], (n-1)/2))
		}
		numbers = numbers[steps:]
		plans = append(plans, plan)
	}
	return plans
}

// manyPlans have all the lengths that are possible.
func manyPlans() [][]impl.Step {
	plans := [][]impl.Step{nil, {}}
	for steps := 1; steps <= mostPlanSteps; steps++ {
		plans = append(plans, mixedPlans(steps, 25)...)
		for _, beats := range []int{0, 1, 700, mostPlanBeats} {
			plans = append(plans, usualSteps(beats)[:steps], planOf(beats, slices.Repeat([]int{impl.FromFourth}, steps)...))
		}
	}
	return plans
}

// startPitches hold ordinary ones, and those that are too low or too high for many plans.
func startPitches() []int {
	return []int{1, 2, 3, 10, 100, 1000, 5000, 10000, 33333, 65406, 115385, 130813, 261626, 264000, 264001, 264002, 264003, 440000, 1000001, 6666666, 6666667, 6666668, greatestFine - 1, greatestFine}
}

// usualSteps are the eleven steps of the usual plan, written out.
func usualSteps(beats int) []impl.Step {
	return []impl.Step{
		{From: 0, To: 1, Kind: impl.FromFifth, Beats: beats},
		{From: 1, To: 2, Kind: impl.FromFourth, Beats: beats},
		{From: 2, To: 3, Kind: impl.FromFifth, Beats: beats},
		{From: 3, To: 4, Kind: impl.FromFourth, Beats: beats},
		{From: 4, To: 5, Kind: impl.FromFifth, Beats: beats},
		{From: 5, To: 6, Kind: impl.FromFourth, Beats: beats},
		{From: 6, To: 7, Kind: impl.FromFourth, Beats: beats},
		{From: 7, To: 8, Kind: impl.FromFifth, Beats: beats},
		{From: 8, To: 9, Kind: impl.FromFourth, Beats: beats},
		{From: 9, To: 10, Kind: impl.FromFifth, Beats: beats},
		{From: 10, To: 11, Kind: impl.FromFourth, Beats: beats},
	}
}

func isPlanKey(key int) bool { return key >= 0 && key <= 11 }

func isBehind(key, other int) bool { return key == 11 && other == 0 || key < 11 && other == key+1 }

func isStep(step impl.Step) bool {
	return isTempered(step.Kind) && step.Beats >= 0 && step.Beats <= mostPlanBeats && isPlanKey(step.From) && isPlanKey(step.To) && isBehind(step.From, step.To)
}

// isPlan is in the chapter's words: each step alone, and what is tuned before it.
func isPlan(plan []impl.Step) bool {
	isTuned := map[int]bool{0: true}
	for _, step := range plan {
		if !isStep(step) || !isTuned[step.From] || isTuned[step.To] {
			return false
		}
		isTuned[step.To] = true
	}
	return len(plan) <= mostPlanSteps
}

// keysOf needs a valid plan.
func keysOf(plan []impl.Step) []int {
	keys := []int{0}
	for _, step := range plan {
		keys = append(keys, step.To)
	}
	slices.Sort(keys)
	return keys
}

func pitchesOf(start int, plan []impl.Step) ([]int, bool) {
	if !isPlan(plan) || start < 1 || start > greatestFine {
		return nil, false
	}
	pitches := make([]int, 12)
	pitches[0] = start
	for _, step := range plan {
		pitches[step.To] = tunedFrom(pitches[step.From], step.Kind, step.Beats)
		if pitches[step.To] == 0 {
			return nil, false
		}
	}
	return pitches, true
}

func closingOf(start int, plan []impl.Step) int {
	pitches, ok := pitchesOf(start, plan)
	if !ok || pitches[11] == 0 {
		return -1
	}
	gap := 3*pitches[11] - 4*pitches[0]
	return max(gap, -gap)
}

// endsOfPitches are the lowest and the highest pitch of a run in which nothing is too low or too high.
func endsOfPitches(start int, plan []impl.Step) (int, int) {
	low, high, pitch := start, start, start
	for _, step := range plan {
		pitch = quotientDown(quotientOfKind(pitch, step.Kind, step.Beats))
		low, high = min(low, pitch), max(high, pitch)
	}
	return low, high
}

// startsOf are the lowest and the highest start of a valid plan; there are none if the first one is greater.
func startsOf(plan []impl.Step) (int, int) {
	lowest := sort.Search(greatestFine+1, func(start int) bool {
		low, _ := endsOfPitches(start, plan)
		return low >= 1
	})
	beyond := sort.Search(greatestFine+1, func(start int) bool {
		_, high := endsOfPitches(start, plan)
		return high > greatestFine
	})
	return lowest, beyond - 1
}

func checkPlanOk(t *testing.T, plan []impl.Step, want bool) {
	t.Helper()
	if got := impl.PlanOk(plan); got != want {
		t.Errorf("PlanOk(%v) = %v", plan, got)
	}
}

func checkRun(t *testing.T, start int, plan []impl.Step, want ...int) {
	t.Helper()
	if got, ok := impl.RunPlan(start, plan); !ok || !slices.Equal(got, want) {
		t.Errorf("RunPlan(%d, %v) = %v, %v; want %v", start, plan, got, ok, want)
	}
}

func checkNoRun(t *testing.T, start int, plan []impl.Step) {
	t.Helper()
	if got, ok := impl.RunPlan(start, plan); ok || len(got) != 0 {
		t.Errorf("RunPlan(%d, %v) = %v, %v", start, plan, got, ok)
	}
	checkClosing(t, start, plan, -1)
}

func checkKeysTuned(t *testing.T, plan []impl.Step, want ...int) {
	t.Helper()
	if got := impl.KeysTuned(plan); !slices.Equal(got, want) {
		t.Errorf("KeysTuned(%v) = %v; want %v", plan, got, want)
	}
}

func checkUsual(t *testing.T, beats int, want ...impl.Step) {
	t.Helper()
	if got := impl.UsualPlan(beats); !slices.Equal(got, want) {
		t.Errorf("UsualPlan(%d) = %v; want %v", beats, got, want)
	}
}

func checkClosing(t *testing.T, start int, plan []impl.Step, want int) {
	t.Helper()
	if got := impl.ClosingBeats(start, plan); got != want {
		t.Errorf("ClosingBeats(%d, %v) = %d; want %d", start, plan, got, want)
	}
}

// checkNoPlan asks every function that takes a plan.
func checkNoPlan(t *testing.T, plan []impl.Step) {
	t.Helper()
	checkPlanOk(t, plan, false)
	checkKeysTuned(t, plan)
	for _, start := range []int{264000, 1, greatestFine, 0, greatestFine + 1} {
		checkNoRun(t, start, plan)
	}
}

func checkOnePlan(t *testing.T, plan []impl.Step) {
	t.Helper()
	if !isPlan(plan) {
		checkNoPlan(t, plan)
		return
	}
	checkPlanOk(t, plan, true)
	checkKeysTuned(t, plan, keysOf(plan)...)
}

// checkRunAndClosing reports whether the plan can be run.
func checkRunAndClosing(t *testing.T, start int, plan []impl.Step) bool {
	t.Helper()
	want, ok := pitchesOf(start, plan)
	if !ok {
		checkNoRun(t, start, plan)
		return false
	}
	checkRun(t, start, plan, want...)
	checkClosing(t, start, plan, closingOf(start, plan))
	return true
}

// checkStepsHeard needs a plan that can be run: each key is tuned from the one before, and its beats are heard.
func checkStepsHeard(t *testing.T, start int, plan []impl.Step) {
	t.Helper()
	pitches, ok := impl.RunPlan(start, plan)
	if !ok || len(pitches) != 12 || pitches[0] != start {
		t.Fatalf("RunPlan(%d, %v) = %v, %v", start, plan, pitches, ok)
	}
	for _, step := range plan {
		from, to := pitches[step.From], pitches[step.To]
		checkTuned(t, from, step.Kind, step.Beats, to)
		if heard := impl.BeatsHeard(from, to, step.Kind); heard < step.Beats || heard >= step.Beats+2*step.Kind {
			t.Errorf("from %d to %d, %d beats are heard of the step %v", from, to, heard, step)
		}
	}
	for key := len(plan) + 1; key < 12; key++ {
		if pitches[key] != 0 {
			t.Errorf("RunPlan(%d, %v) = %v, with key %d", start, plan, pitches, key)
		}
	}
}

// checkWrongStep puts a step in the place of each one of the plans of all lengths.
func checkWrongStep(t *testing.T, wrong func(step impl.Step) impl.Step) {
	t.Helper()
	for steps := 1; steps <= mostPlanSteps; steps++ {
		for at := range steps {
			plan := impl.UsualPlan(700)[:steps]
			checkPlanOk(t, plan, true)
			plan[at] = wrong(plan[at])
			checkNoPlan(t, plan)
		}
	}
}

func TestRunPlan(t *testing.T) {
	checkRun(t, 264000, nil, 264000, 0, 0, 0, 0, 0, 0, 0, 0, 0, 0, 0)
	checkRun(t, 264000, []impl.Step{}, 264000, 0, 0, 0, 0, 0, 0, 0, 0, 0, 0, 0)
	checkRun(t, 264000, planOf(1000, impl.FromFifth), 264000, 395500, 0, 0, 0, 0, 0, 0, 0, 0, 0, 0)
	checkRun(t, 264000, planOf(1000, impl.FromFourth), 264000, 197750, 0, 0, 0, 0, 0, 0, 0, 0, 0, 0)
	checkRun(t, 264000, planOf(0, impl.FromFifth, impl.FromFourth, impl.FromFifth), 264000, 396000, 297000, 445500, 0, 0, 0, 0, 0, 0, 0, 0)
	checkRun(t, 264000, []impl.Step{stepUp(0, impl.FromFifth, 3), stepUp(1, impl.FromFourth, 5000), stepUp(2, impl.FromFourth, 0)}, 264000, 395998, 295748, 221811, 0, 0, 0, 0, 0, 0, 0, 0)
	checkRun(t, 264000, usualSteps(0), 264000, 396000, 297000, 445500, 334125, 501187, 375890, 281917, 422875, 317156, 475734, 356800)
	checkRun(t, 264000, usualSteps(700), 264000, 395650, 296562, 444493, 333194, 499441, 374405, 280628, 420592, 315269, 472553, 354239)
	checkRun(t, 264000, usualSteps(5000), 264000, 393500, 293875, 438312, 327484, 488726, 365294, 272720, 406580, 303685, 453027, 338520)
}

func TestManyPlansAreAccepted(t *testing.T) {
	for _, plan := range manyPlans() {
		checkPlanOk(t, plan, true)
		checkOnePlan(t, plan)
	}
}

func TestManyPlansAreRun(t *testing.T) {
	run, failed := 0, 0
	for _, plan := range manyPlans() {
		for _, start := range append(startPitches(), mixedFines(1000000, 10)...) {
			if checkRunAndClosing(t, start, plan) {
				checkStepsHeard(t, start, plan)
				run++
			} else {
				failed++
			}
		}
	}
	if run < 5000 || failed < 1000 {
		t.Errorf("%d plans are run, %d fail", run, failed)
	}
}

func TestAllKindsOfWholePlans(t *testing.T) {
	for _, beats := range []int{0, 1, 999, mostPlanBeats} {
		for _, plan := range plansOfKinds(mostPlanSteps, beats) {
			checkOnePlan(t, plan)
			for _, start := range []int{264000, 10000, 100003} {
				checkRunAndClosing(t, start, plan)
			}
		}
	}
}

func TestAllKindsOfShortPlans(t *testing.T) {
	for steps := range 8 {
		for _, plan := range plansOfKinds(steps, 37) {
			checkOnePlan(t, plan)
			for _, start := range startPitches() {
				checkRunAndClosing(t, start, plan)
			}
		}
	}
}

func TestKeysTuned(t *testing.T) {
	checkKeysTuned(t, nil, 0)
	checkKeysTuned(t, []impl.Step{}, 0)
	checkKeysTuned(t, planOf(0, impl.FromFifth), 0, 1)
	checkKeysTuned(t, planOf(5000, impl.FromFourth, impl.FromFifth), 0, 1, 2)
	checkKeysTuned(t, usualSteps(0)[:10], 0, 1, 2, 3, 4, 5, 6, 7, 8, 9, 10)
	checkKeysTuned(t, usualSteps(0), 0, 1, 2, 3, 4, 5, 6, 7, 8, 9, 10, 11)
}

// The keys are those that RunPlan gives a pitch.
func TestKeysTunedHavePitches(t *testing.T) {
	for _, plan := range manyPlans() {
		pitches, ok := impl.RunPlan(264000, plan)
		if !ok {
			continue
		}
		var keys []int
		for key, pitch := range pitches {
			if pitch > 0 {
				keys = append(keys, key)
			}
		}
		checkKeysTuned(t, plan, keys...)
	}
}

// Each key is behind the one it is tuned from, so only the order from key 0 on is a plan.
func TestEveryOrderOfSteps(t *testing.T) {
	for steps := range 8 {
		inOrder := allSteps()[:steps]
		accepted := 0
		for _, plan := range orders(inOrder) {
			checkOnePlan(t, plan)
			checkPlanOk(t, plan, slices.Equal(plan, inOrder))
			if impl.PlanOk(plan) {
				accepted++
			}
		}
		if accepted != 1 {
			t.Errorf("%d orders of %d steps are accepted", accepted, steps)
		}
	}
}

// With a step left out, no order of the others is a plan, unless it is the last one.
func TestEveryOrderWithAHole(t *testing.T) {
	for hole := range 6 {
		for _, plan := range orders(slices.Delete(allSteps()[:6], hole, hole+1)) {
			checkOnePlan(t, plan)
			checkPlanOk(t, plan, hole == 5 && slices.Equal(plan, allSteps()[:5]))
		}
	}
}

func TestEverySequenceOfFourSteps(t *testing.T) {
	steps := allSteps()
	for i := range 12 * 12 * 12 * 12 {
		plan := []impl.Step{steps[i/1728], steps[i/144%12], steps[i/12%12], steps[i%12]}
		checkPlanOk(t, plan, isPlan(plan))
		checkPlanOk(t, plan, slices.Equal(plan, steps[:4]))
		checkPlanOk(t, plan[1:], slices.Equal(plan[1:], steps[:3]))
	}
}

func TestEveryPairOfKeys(t *testing.T) {
	for from := -1; from <= 12; from++ {
		for to := -1; to <= 12; to++ {
			step := impl.Step{From: from, To: to, Kind: impl.FromFifth}
			checkPlanOk(t, []impl.Step{step}, from == 0 && to == 1)
			checkPlanOk(t, []impl.Step{stepUp(0, impl.FromFourth, 5), step}, from == 1 && to == 2)
			for _, count := range []int{3, 7, 10} {
				plan := append(usualSteps(3)[:count], step)
				checkOnePlan(t, plan)
				checkPlanOk(t, plan, from == count && to == count+1)
			}
		}
	}
}

func TestOrdersOfTheWholePlan(t *testing.T) {
	whole := usualSteps(700)
	for i := range whole {
		for j := range i {
			plan := slices.Clone(whole)
			plan[i], plan[j] = plan[j], plan[i]
			checkNoPlan(t, plan)
		}
		if i > 0 {
			checkNoPlan(t, slices.Concat(whole[i:], whole[:i]))
			checkNoPlan(t, whole[i:])
		}
	}
	slices.Reverse(whole)
	checkNoPlan(t, whole)
}

func TestPlansFromAnotherKey(t *testing.T) {
	for key := 1; key < 12; key++ {
		checkNoPlan(t, []impl.Step{stepUp(key, impl.FromFifth, 0)})
		checkNoPlan(t, []impl.Step{stepUp(key, impl.FromFourth, 700), stepUp((key+1)%12, impl.FromFifth, 700)})
		var circle []impl.Step
		for i := range mostPlanSteps {
			circle = append(circle, stepUp((key+i)%12, impl.FromFifth, 700))
		}
		checkNoPlan(t, circle)
	}
}

func TestPlansWithAHole(t *testing.T) {
	for at := range 10 {
		checkNoPlan(t, slices.Delete(usualSteps(700), at, at+1))
	}
	checkPlanOk(t, slices.Delete(usualSteps(700), 10, 11), true)
}

func TestPlansWithTheSameStepTwice(t *testing.T) {
	for steps := 1; steps <= 10; steps++ {
		for at := range steps {
			plan := usualSteps(700)[:steps]
			for place := at + 1; place <= steps; place++ {
				checkNoPlan(t, slices.Insert(slices.Clone(plan), place, plan[at]))
			}
			other := plan[at]
			other.Kind, other.Beats = 3-other.Kind, 5
			checkNoPlan(t, append(slices.Clone(plan), other))
		}
	}
}

func TestKeyZeroIsNeverTuned(t *testing.T) {
	last := stepUp(11, impl.FromFourth, 0)
	checkNoPlan(t, []impl.Step{last})
	for steps := 1; steps <= mostPlanSteps; steps++ {
		checkNoPlan(t, append(usualSteps(0)[:steps], last))
		checkNoPlan(t, append([]impl.Step{last}, usualSteps(0)[:steps]...))
		checkNoPlan(t, append(usualSteps(0)[:steps-1], last))
	}
}

func TestPlansOfTwelveSteps(t *testing.T) {
	checkPlanOk(t, usualSteps(0), true)
	for _, step := range allSteps() {
		checkNoPlan(t, append(usualSteps(0), step))
		checkNoPlan(t, append([]impl.Step{step}, usualSteps(0)...))
	}
	checkNoPlan(t, allSteps())
	for _, count := range []int{12, 13, 24, 100, 5000} {
		checkNoPlan(t, slices.Repeat(usualSteps(0)[:1], count))
		checkNoPlan(t, slices.Repeat(usualSteps(0), count))
		checkNoPlan(t, make([]impl.Step, count))
	}
}

func TestBeatsOfPlans(t *testing.T) {
	for _, beats := range []int{0, 1, 2, 2500, mostPlanBeats - 1, mostPlanBeats} {
		for at := range mostPlanSteps {
			plan := usualSteps(700)
			plan[at].Beats = beats
			checkPlanOk(t, plan, true)
			checkStepsHeard(t, 264000, plan)
			checkRunAndClosing(t, 264000, plan)
		}
	}
	for _, beats := range append(extremeInts(), -1, -2, -700, -mostPlanBeats, mostPlanBeats+1, mostPlanBeats+2, 10000, mostStepBeats, 1<<32+700, -1<<32+700) {
		checkWrongStep(t, func(step impl.Step) impl.Step {
			step.Beats = beats
			return step
		})
	}
}

func TestKindsOfPlans(t *testing.T) {
	for _, kind := range append(noKinds(), octaveKinds()...) {
		for _, beats := range []int{0, 700} {
			checkWrongStep(t, func(step impl.Step) impl.Step {
				step.Kind, step.Beats = kind, beats
				return step
			})
		}
	}
}

func TestKeysOfPlans(t *testing.T) {
	for _, key := range noKeys() {
		checkWrongStep(t, func(step impl.Step) impl.Step {
			step.From = key
			return step
		})
		checkWrongStep(t, func(step impl.Step) impl.Step {
			step.To = key
			return step
		})
		checkWrongStep(t, func(step impl.Step) impl.Step {
			step.From, step.To = key, key
			return step
		})
		checkWrongStep(t, func(step impl.Step) impl.Step {
			// For the greatest int, this is the least one.
			step.From, step.To = key, key+1
			return step
		})
	}
}

func TestKeysThatAreNotBehind(t *testing.T) {
	for apart := 1; apart < 12; apart++ {
		checkWrongStep(t, func(step impl.Step) impl.Step {
			step.To = (step.To + apart) % 12
			return step
		})
		checkWrongStep(t, func(step impl.Step) impl.Step {
			step.From = (step.From + apart) % 12
			return step
		})
	}
	for _, apart := range []int{12, -12, 24, 1 << 32, math.MinInt} {
		checkWrongStep(t, func(step impl.Step) impl.Step {
			step.From, step.To = step.From+apart, step.To+apart
			return step
		})
	}
}

func TestStartsOfPlans(t *testing.T) {
	checkRun(t, 1, nil, 1, 0, 0, 0, 0, 0, 0, 0, 0, 0, 0, 0)
	checkRun(t, greatestFine, nil, greatestFine, 0, 0, 0, 0, 0, 0, 0, 0, 0, 0, 0)
	checkRun(t, 1, planOf(0, impl.FromFifth, impl.FromFifth), 1, 1, 1, 0, 0, 0, 0, 0, 0, 0, 0, 0)
	checkRun(t, 1, planOf(1, impl.FromFifth, impl.FromFifth), 1, 1, 1, 0, 0, 0, 0, 0, 0, 0, 0, 0)
	checkNoRun(t, 1, planOf(2, impl.FromFifth))
	checkNoRun(t, 1, planOf(0, impl.FromFourth))
	checkNoRun(t, 1, planOf(0, impl.FromFifth, impl.FromFourth))
	checkRun(t, greatestFine, planOf(0, impl.FromFourth, impl.FromFourth), greatestFine, 7500000, 5625000, 0, 0, 0, 0, 0, 0, 0, 0, 0)
	checkNoRun(t, greatestFine, planOf(0, impl.FromFifth))
	checkNoRun(t, greatestFine, planOf(mostPlanBeats, impl.FromFourth, impl.FromFifth))
	checkRun(t, 6666667, planOf(0, impl.FromFifth), 6666667, greatestFine, 0, 0, 0, 0, 0, 0, 0, 0, 0, 0)
	checkNoRun(t, 6666668, planOf(0, impl.FromFifth))
	checkRun(t, 3334, planOf(mostPlanBeats, impl.FromFifth), 3334, 2501, 0, 0, 0, 0, 0, 0, 0, 0, 0, 0)
	checkRun(t, 1668, planOf(mostPlanBeats, impl.FromFourth), 1668, 1, 0, 0, 0, 0, 0, 0, 0, 0, 0, 0)
	checkNoRun(t, 1667, planOf(mostPlanBeats, impl.FromFourth))
}

func TestNothingStartsWithNoPitch(t *testing.T) {
	for _, start := range noFines() {
		for steps := range mostPlanSteps + 1 {
			checkNoRun(t, start, usualSteps(700)[:steps])
			checkNoRun(t, start, planOf(0, slices.Repeat([]int{impl.FromFourth}, steps)...))
		}
	}
}

// The starts of a plan are all the pitches between two limits, at which some key gets the highest or the lowest pitch.
func TestStartsAtTheLimitsOfPlans(t *testing.T) {
	for _, plan := range manyPlans() {
		lowest, highest := startsOf(plan)
		for _, start := range []int{lowest - 1, lowest, lowest + 1, highest - 1, highest, highest + 1} {
			want := start >= lowest && start <= highest
			if got := checkRunAndClosing(t, start, plan); got != want {
				t.Errorf("RunPlan(%d, %v) has the result %v", start, plan, got)
			}
		}
	}
}

// A step that fails ends the run, whichever one it is and whatever is behind it.
func TestEveryStepCanFail(t *testing.T) {
	for steps := 1; steps <= mostPlanSteps; steps++ {
		rest := mostPlanSteps - steps
		higher := planOf(0, slices.Concat(slices.Repeat([]int{impl.FromFifth}, steps), slices.Repeat([]int{impl.FromFourth}, rest))...)
		lower := planOf(0, slices.Concat(slices.Repeat([]int{impl.FromFourth}, steps), slices.Repeat([]int{impl.FromFifth}, rest))...)
		_, highest := startsOf(higher[:steps])
		lowest, _ := startsOf(lower[:steps])
		for end := range mostPlanSteps + 1 {
			if got := checkRunAndClosing(t, highest+1, higher[:end]); got != (end < steps) {
				t.Errorf("from %d, %d fifths have the result %v", highest+1, end, got)
			}
			if got := checkRunAndClosing(t, lowest-1, lower[:end]); got != (end < steps && lowest > 1) {
				t.Errorf("from %d, %d fourths have the result %v", lowest-1, end, got)
			}
		}
		checkStepsHeard(t, highest, higher)
		checkStepsHeard(t, lowest, lower)
	}
}

func TestUsualPlan(t *testing.T) {
	for beats := range mostPlanBeats + 1 {
		checkUsual(t, beats, usualSteps(beats)...)
		plan := impl.UsualPlan(beats)
		checkPlanOk(t, plan, true)
		checkKeysTuned(t, plan, 0, 1, 2, 3, 4, 5, 6, 7, 8, 9, 10, 11)
		checkStepsHeard(t, 264000, plan)
		checkRunAndClosing(t, 264000, plan)
	}
}

func TestUsualPlanStaysNearItsStart(t *testing.T) {
	for _, beats := range []int{0, 1, 700, 1312} {
		pitches, ok := impl.RunPlan(264000, impl.UsualPlan(beats))
		if !ok || slices.Min(pitches) < 264000 || slices.Max(pitches) >= 2*264000 {
			t.Errorf("with %d beats, the pitches are %v, %v", beats, pitches, ok)
		}
	}
}

func TestNoUsualPlan(t *testing.T) {
	for _, beats := range append(extremeInts(), -1, -2, -700, -mostPlanBeats, mostPlanBeats+1, mostPlanBeats+2, 2*mostPlanBeats, mostStepBeats, 1<<32+700, -1<<32+700) {
		checkUsual(t, beats)
	}
}

func TestClosingBeats(t *testing.T) {
	checkClosing(t, 264000, usualSteps(0), 14400)
	checkClosing(t, 264000, usualSteps(700), 6717)
	checkClosing(t, 264000, usualSteps(1000), 3429)
	checkClosing(t, 262809, usualSteps(1307), 0)
	checkClosing(t, 264000, usualSteps(5000), 40440)
	plan := usualSteps(1312)
	plan[10].Beats = 1320
	checkClosing(t, 264000, plan, 0)
	plan[10].Beats = 1324
	checkClosing(t, 264000, plan, 3)
	plan[10].Beats = 1316
	checkClosing(t, 264000, plan, 3)
}

// What is left over is heard as a fourth down from key 11 to key 0.
func TestClosingBeatsAreHeard(t *testing.T) {
	tooHigh, tooLow := 0, 0
	for beats := 0; beats <= mostPlanBeats; beats += 13 {
		for _, start := range []int{200000, 264000, 440001} {
			plan := impl.UsualPlan(beats)
			pitches, ok := impl.RunPlan(start, plan)
			if !ok {
				t.Fatalf("RunPlan(%d, %v) fails", start, plan)
			}
			checkClosing(t, start, plan, impl.BeatsHeard(pitches[11], pitches[0], impl.FromFourth))
			if 3*pitches[11] > 4*pitches[0] {
				tooHigh++
			} else {
				tooLow++
			}
		}
	}
	if tooHigh < 100 || tooLow < 100 {
		t.Errorf("%d last keys are too high, %d are too low", tooHigh, tooLow)
	}
}

func TestOnlyWholePlansClose(t *testing.T) {
	for steps := range mostPlanSteps {
		for _, start := range []int{1, 1000, 264000, greatestFine} {
			checkClosing(t, start, usualSteps(700)[:steps], -1)
			checkClosing(t, start, planOf(0, slices.Repeat([]int{impl.FromFourth}, steps)...), -1)
		}
	}
	checkClosing(t, 264000, nil, -1)
	checkClosing(t, 264000, []impl.Step{}, -1)
}

// askPlans calls every function that takes a plan.
func askPlans(start int, plan []impl.Step) {
	impl.PlanOk(plan)
	impl.RunPlan(start, plan)
	impl.KeysTuned(plan)
	impl.ClosingBeats(start, plan)
}

func TestPlansAreKept(t *testing.T) {
	spare := impl.Step{From: 77, To: 78, Kind: 79, Beats: 80}
	wrong := slices.Insert(usualSteps(700)[:5], 2, stepUp(9, impl.FromFourth, 6000))
	for _, plan := range append(manyPlans(), wrong, usualSteps(700)[3:], allSteps()) {
		memory := append(slices.Clone(plan), spare, spare, spare)
		before := slices.Clone(memory)
		for _, start := range []int{264000, 1, greatestFine, 0} {
			askPlans(start, memory[:len(plan)])
		}
		if !slices.Equal(memory, before) {
			t.Errorf("of the plan %v, %v is left", before, memory)
		}
	}
}

func TestResultsOfPlansAreNewMemory(t *testing.T) {
	for _, plan := range manyPlans() {
		before := slices.Clone(plan)
		pitches, _ := impl.RunPlan(264000, plan)
		keys := impl.KeysTuned(plan)
		for _, list := range [][]int{pitches, keys} {
			list = list[:cap(list)]
			for i := range list {
				list[i] = -5
			}
		}
		if !slices.Equal(plan, before) {
			t.Errorf("of the plan %v, %v is left", before, plan)
		}
		checkOnePlan(t, plan)
		checkRunAndClosing(t, 264000, plan)
	}
	for _, beats := range []int{0, 700, mostPlanBeats} {
		usual := impl.UsualPlan(beats)
		usual = usual[:cap(usual)]
		for i := range usual {
			usual[i] = impl.Step{From: -1, To: -2, Kind: -3, Beats: -4}
		}
		checkUsual(t, beats, usualSteps(beats)...)
	}
}

func TestPlansKeepNothing(t *testing.T) {
	plans := append(manyPlans(), usualSteps(700)[1:], allSteps(), usualSteps(mostPlanBeats+1))
	for i, plan := range plans {
		askPlans(264000, plans[len(plans)-1-i])
		askPlans(greatestFine, plan)
		impl.UsualPlan(i)
		checkOnePlan(t, plan)
		checkRunAndClosing(t, 264000, plan)
		checkUsual(t, 5*i, usualSteps(5*i)...)
	}
}
