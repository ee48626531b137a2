package tests

import (
	"math"
	"slices"
	"testing"

	"loop.example/g00989/impl"
)

const (
	mostChange = 5000
	mostWrong  = 5000
)

// stepTo finds the step that tunes a key.
func stepTo(plan []impl.Step, key int) (impl.Step, bool) {
	at := slices.IndexFunc(plan, func(step impl.Step) bool { return step.To == key })
	if at < 0 {
		return impl.Step{}, false
	}
	return plan[at], true
}

func depthIn(plan []impl.Step, key int) int {
	if !isPlan(plan) || !slices.Contains(keysOf(plan), key) {
		return -1
	}
	return depthBehind(plan, key)
}

// depthBehind needs a key that is tuned.
func depthBehind(plan []impl.Step, key int) int {
	if key == 0 {
		return 0
	}
	step, _ := stepTo(plan, key)
	return 1 + depthBehind(plan, step.From)
}

func boundIn(plan []impl.Step, key, wrong int) int {
	if depthIn(plan, key) < 0 || wrong < 0 || wrong > mostWrong {
		return -1
	}
	return boundBehind(plan, key, wrong)
}

// boundBehind needs a key that is tuned.
func boundBehind(plan []impl.Step, key, wrong int) int {
	if key == 0 {
		return 0
	}
	step, _ := stepTo(plan, key)
	e := boundBehind(plan, step.From, wrong)
	if step.Kind == impl.FromFifth {
		return quotientDown(3*e+wrong, 2) + 1
	}
	return quotientDown(3*e+wrong, 4) + 1
}

// isTunedFrom reports whether the way from a key back to key 0 leads over another key; it does so too if both are the same.
func isTunedFrom(plan []impl.Step, key, other int) bool {
	if key == other {
		return true
	}
	step, ok := stepTo(plan, key)
	return ok && isTunedFrom(plan, step.From, other)
}

func affectedIn(plan []impl.Step, at int) []int {
	if !isPlan(plan) || at < 0 || at >= len(plan) {
		return nil
	}
	var keys []int
	for key := range 12 {
		if depthIn(plan, key) >= 0 && isTunedFrom(plan, key, plan[at].To) {
			keys = append(keys, key)
		}
	}
	return keys
}

func mistunedPlan(plan []impl.Step, at, change int) ([]impl.Step, bool) {
	if !isPlan(plan) || at < 0 || at >= len(plan) || change < -mostChange || change > mostChange {
		return plan, false
	}
	step := plan[at]
	step.Beats += change
	result := slices.Concat(plan[:at], []impl.Step{step}, plan[at+1:])
	if !isPlan(result) {
		return plan, false
	}
	return result, true
}

func deepestIn(plan []impl.Step) int {
	deepest, most := -1, -1
	for key := range 12 {
		if depth := depthIn(plan, key); depth > most {
			deepest, most = key, depth
		}
	}
	return deepest
}

// someWrongs are bounds for beats; all of them are possible.
func someWrongs() []int {
	return []int{0, 1, 2, 3, 4, 5, 7, 10, 50, 99, 700, 1000, 2500, 4999, mostWrong}
}

func noWrongs() []int {
	return append(extremeInts(), -1, -2, -700, -mostWrong, mostWrong+1, mostWrong+2, 2*mostWrong, 1<<32+700, -1<<32+700)
}

func noChanges() []int {
	return append(extremeInts(), -mostChange-1, -mostChange-2, mostChange+1, mostChange+2, -2*mostChange, 2*mostChange, 1<<32+1, -1<<32-1, math.MaxInt-mostChange, math.MinInt+mostChange)
}

// noPlaces are no indexes of any plan.
func noPlaces() []int {
	return append(extremeInts(), -12, -11, -2, -1, 11, 12, 13, 100, 1<<32+1, -1<<32+1)
}

// wrongSteps are those that cannot stand in the place of a step.
func wrongSteps(step impl.Step) []impl.Step {
	var wrong []impl.Step
	with := func(from, to, kind, beats int) {
		wrong = append(wrong, impl.Step{From: from, To: to, Kind: kind, Beats: beats})
	}
	for _, key := range noKeys() {
		with(key, step.To, step.Kind, step.Beats)
		with(step.From, key, step.Kind, step.Beats)
		with(key, key+1, step.Kind, step.Beats)
	}
	for apart := 1; apart < 12; apart++ {
		with((step.From+apart)%12, step.To, step.Kind, step.Beats)
		with(step.From, (step.To+apart)%12, step.Kind, step.Beats)
		with((step.From+apart)%12, (step.To+apart)%12, step.Kind, step.Beats)
	}
	for _, kind := range append(noKinds(), octaveKinds()...) {
		with(step.From, step.To, kind, step.Beats)
		with(step.From, step.To, kind, 0)
	}
	for _, beats := range append(extremeInts(), -1, -2, mostPlanBeats+1, mostPlanBeats+2, 10000) {
		with(step.From, step.To, step.Kind, beats)
	}
	return wrong
}

// wrongPlans have a wrong step in each place, a hole, a step twice, too many steps, or steps in another order.
func wrongPlans() [][]impl.Step {
	var plans [][]impl.Step
	for _, steps := range []int{1, 2, 6, mostPlanSteps} {
		plan := usualSteps(700)[:steps]
		for at, step := range plan {
			for _, other := range wrongSteps(step) {
				changed := slices.Clone(plan)
				changed[at] = other
				plans = append(plans, changed)
			}
			plans = append(plans, slices.Insert(slices.Clone(plan), at, step), append(slices.Clone(plan), step))
			if at < steps-1 {
				plans = append(plans, slices.Delete(slices.Clone(plan), at, at+1))
			}
		}
	}
	backwards := usualSteps(700)
	slices.Reverse(backwards)
	last := stepUp(11, impl.FromFourth, 700)
	return append(plans, backwards, backwards[9:], allSteps(), allSteps()[1:], append(usualSteps(700), last), []impl.Step{last},
		slices.Repeat(usualSteps(0), 2), slices.Repeat(usualSteps(0), 400), make([]impl.Step, 1), make([]impl.Step, 11), make([]impl.Step, 12))
}

func checkDepth(t *testing.T, plan []impl.Step, key, want int) {
	t.Helper()
	if got := impl.DepthOf(plan, key); got != want {
		t.Errorf("DepthOf(%v, %d) = %d; want %d", plan, key, got, want)
	}
}

func checkMistune(t *testing.T, plan []impl.Step, at, change int, want []impl.Step) {
	t.Helper()
	if got, ok := impl.Mistune(plan, at, change); !ok || !slices.Equal(got, want) {
		t.Errorf("Mistune(%v, %d, %d) = %v, %v; want %v", plan, at, change, got, ok, want)
	}
}

func checkNoMistune(t *testing.T, plan []impl.Step, at, change int) {
	t.Helper()
	if got, ok := impl.Mistune(plan, at, change); ok || !slices.Equal(got, plan) {
		t.Errorf("Mistune(%v, %d, %d) = %v, %v", plan, at, change, got, ok)
	}
}

func checkMistuneLikeWords(t *testing.T, plan []impl.Step, at, change int) {
	t.Helper()
	if want, ok := mistunedPlan(plan, at, change); ok {
		checkMistune(t, plan, at, change, want)
	} else {
		checkNoMistune(t, plan, at, change)
	}
}

func checkAffected(t *testing.T, plan []impl.Step, at int, want ...int) {
	t.Helper()
	if got := impl.AffectedKeys(plan, at); !slices.Equal(got, want) {
		t.Errorf("AffectedKeys(%v, %d) = %v; want %v", plan, at, got, want)
	}
}

func checkBound(t *testing.T, plan []impl.Step, key, wrong, want int) {
	t.Helper()
	if got := impl.ErrorBound(plan, key, wrong); got != want {
		t.Errorf("ErrorBound(%v, %d, %d) = %d; want %d", plan, key, wrong, got, want)
	}
}

func checkDeepest(t *testing.T, plan []impl.Step, want int) {
	t.Helper()
	if got := impl.DeepestKey(plan); got != want {
		t.Errorf("DeepestKey(%v) = %d; want %d", plan, got, want)
	}
}

// checkSpread holds the results for a plan, which may be a wrong one, against the chapter's words.
func checkSpread(t *testing.T, plan []impl.Step) {
	t.Helper()
	for key := -1; key <= 12; key++ {
		checkDepth(t, plan, key, depthIn(plan, key))
		for _, wrong := range []int{0, 1, 10, 777, mostWrong, -1, mostWrong + 1} {
			checkBound(t, plan, key, wrong, boundIn(plan, key, wrong))
		}
	}
	for at := -1; at <= 12; at++ {
		checkAffected(t, plan, at, affectedIn(plan, at)...)
		for _, change := range []int{0, 1, -1, 300, -300, mostChange, -mostChange, mostChange + 1, -mostChange - 1} {
			checkMistuneLikeWords(t, plan, at, change)
		}
	}
	checkDeepest(t, plan, deepestIn(plan))
}

// checkNoSpread asks every function; the plan is wrong.
func checkNoSpread(t *testing.T, plan []impl.Step) {
	t.Helper()
	for key := -1; key <= 12; key++ {
		checkDepth(t, plan, key, -1)
		checkBound(t, plan, key, 0, -1)
		checkBound(t, plan, key, mostWrong, -1)
	}
	for at := -1; at <= 12; at++ {
		checkAffected(t, plan, at)
		for _, change := range []int{0, 1, -1, mostChange, -mostChange} {
			checkNoMistune(t, plan, at, change)
		}
	}
	checkDeepest(t, plan, -1)
}

// checkNearby holds the pitches of two plans against each other: those of the affected keys differ by no more than the bounds for these wrong beats, the others not at all.
func checkNearby(t *testing.T, start int, plan, other []impl.Step, affected []int, wrong int) bool {
	t.Helper()
	before, ok := impl.RunPlan(start, plan)
	after, okAfter := impl.RunPlan(start, other)
	if !ok || !okAfter {
		return false
	}
	for key := range 12 {
		gap := max(after[key]-before[key], before[key]-after[key])
		if !slices.Contains(affected, key) && gap != 0 {
			t.Errorf("from %v to %v, the pitch of key %d goes from %d to %d", plan, other, key, before[key], after[key])
		}
		if bound := impl.ErrorBound(plan, key, wrong); slices.Contains(affected, key) && (gap > bound || gap == 0 && wrong >= 1000) {
			t.Errorf("from %v to %v, the pitch of key %d goes from %d to %d, with the bound %d", plan, other, key, before[key], after[key], bound)
		}
	}
	return true
}

func TestDepthOf(t *testing.T) {
	for key := range 12 {
		for _, beats := range []int{0, 700, mostPlanBeats} {
			checkDepth(t, usualSteps(beats), key, key)
		}
	}
	two := planOf(5, impl.FromFourth, impl.FromFifth)
	checkDepth(t, two, 0, 0)
	checkDepth(t, two, 1, 1)
	checkDepth(t, two, 2, 2)
	checkDepth(t, two, 3, -1)
	checkDepth(t, two, 11, -1)
}

func TestDepthIsOneMoreThanThatOfFrom(t *testing.T) {
	for _, plan := range manyPlans() {
		checkDepth(t, plan, 0, 0)
		for _, step := range plan {
			if from, to := impl.DepthOf(plan, step.From), impl.DepthOf(plan, step.To); from < 0 || to != from+1 {
				t.Errorf("in %v, the step %v goes from depth %d to %d", plan, step, from, to)
			}
		}
	}
}

func TestSpreadOfManyPlans(t *testing.T) {
	for _, plan := range manyPlans() {
		checkSpread(t, plan)
	}
}

func TestSpreadOfAllKindsOfPlans(t *testing.T) {
	for steps := range 8 {
		for _, plan := range plansOfKinds(steps, 37*steps) {
			checkSpread(t, plan)
		}
	}
	for _, plan := range plansOfKinds(mostPlanSteps, 700) {
		for key := range 12 {
			checkDepth(t, plan, key, key)
			checkBound(t, plan, key, 700, boundIn(plan, key, 700))
		}
	}
}

// Of all orders of some steps, with and without a hole, most are no plans.
func TestSpreadOfEveryOrder(t *testing.T) {
	for _, steps := range [][]impl.Step{nil, allSteps()[:1], allSteps()[:2], allSteps()[:4], slices.Delete(allSteps()[:5], 2, 3), allSteps()[1:4], append(allSteps()[:2], allSteps()[1])} {
		for _, plan := range orders(steps) {
			checkSpread(t, plan)
		}
	}
}

func TestMistune(t *testing.T) {
	plan := []impl.Step{stepUp(0, impl.FromFifth, 100), stepUp(1, impl.FromFourth, 200), stepUp(2, impl.FromFifth, 300)}
	checkMistune(t, plan, 0, 50, []impl.Step{stepUp(0, impl.FromFifth, 150), stepUp(1, impl.FromFourth, 200), stepUp(2, impl.FromFifth, 300)})
	checkMistune(t, plan, 1, -200, []impl.Step{stepUp(0, impl.FromFifth, 100), stepUp(1, impl.FromFourth, 0), stepUp(2, impl.FromFifth, 300)})
	checkMistune(t, plan, 2, 4700, []impl.Step{stepUp(0, impl.FromFifth, 100), stepUp(1, impl.FromFourth, 200), stepUp(2, impl.FromFifth, 5000)})
	checkMistune(t, plan, 1, 0, plan)
	checkNoMistune(t, plan, 0, -101)
	checkNoMistune(t, plan, 2, 4701)
	checkNoMistune(t, plan, 3, 1)
	checkNoMistune(t, plan, -1, 1)
}

// Only Beats of the one step change, and they stay within the limits.
func TestMistuneChangesOneStep(t *testing.T) {
	for _, plan := range manyPlans() {
		for at, step := range plan {
			for _, beats := range []int{0, 1, 700, mostPlanBeats - 1, mostPlanBeats} {
				changed := step
				changed.Beats = beats
				checkMistune(t, plan, at, beats-step.Beats, slices.Concat(plan[:at], []impl.Step{changed}, plan[at+1:]))
			}
			for _, beats := range []int{-1, -2, -700, mostPlanBeats + 1, mostPlanBeats + 2, mostPlanBeats + 700} {
				checkNoMistune(t, plan, at, beats-step.Beats)
			}
		}
	}
}

func TestGreatestChanges(t *testing.T) {
	for at := range mostPlanSteps {
		for _, kind := range temperedKinds() {
			low := usualSteps(700)
			low[at] = stepUp(at, kind, 0)
			high := slices.Clone(low)
			high[at].Beats = mostPlanBeats
			checkMistune(t, low, at, mostChange, high)
			checkMistune(t, high, at, -mostChange, low)
			checkMistune(t, low, at, 0, low)
			checkMistune(t, high, at, 0, high)
			for _, change := range append(noChanges(), -1, -mostChange) {
				checkNoMistune(t, low, at, change)
			}
			for _, change := range append(noChanges(), 1, mostChange) {
				checkNoMistune(t, high, at, change)
			}
		}
	}
}

func TestNoChangeIsTooGreat(t *testing.T) {
	for _, plan := range manyPlans() {
		for at := range 12 {
			for _, change := range noChanges() {
				checkNoMistune(t, plan, at, change)
			}
		}
	}
}

// What is changed and changed back is the plan again.
func TestMistuneBack(t *testing.T) {
	for _, plan := range manyPlans() {
		for at := range plan {
			for _, change := range []int{0, 1, -1, 99, -99, 2500, -2500, mostChange, -mostChange} {
				if other, ok := impl.Mistune(plan, at, change); ok {
					checkMistune(t, other, at, -change, plan)
				}
			}
		}
	}
}

func TestAffectedKeys(t *testing.T) {
	checkAffected(t, usualSteps(100), 9, 10, 11)
	checkAffected(t, usualSteps(100), 5, 6, 7, 8, 9, 10, 11)
	three := planOf(0, impl.FromFourth, impl.FromFourth, impl.FromFifth)
	checkAffected(t, three, 0, 1, 2, 3)
	checkAffected(t, three, 1, 2, 3)
	checkAffected(t, three, 2, 3)
	checkAffected(t, three, 3)
	checkAffected(t, three, -1)
}

func TestFirstAndLastStep(t *testing.T) {
	for steps := 1; steps <= mostPlanSteps; steps++ {
		for _, plan := range [][]impl.Step{usualSteps(700)[:steps], planOf(0, slices.Repeat([]int{impl.FromFifth}, steps)...)} {
			checkAffected(t, plan, steps-1, steps)
			checkAffected(t, plan, steps)
			checkAffected(t, plan, 0, impl.KeysTuned(plan)[1:]...)
			for key := range 12 {
				if key > steps {
					checkDepth(t, plan, key, -1)
					checkBound(t, plan, key, 10, -1)
				}
			}
		}
	}
}

// The mistake is in one step, in each direction, and as great as it can be.
func TestAMistakeReachesJustTheKeysThatFollow(t *testing.T) {
	near := 0
	for _, plan := range manyPlans() {
		for at := range plan {
			for _, change := range []int{1, -1, 2, -3, 50, -50, 1000, -1000, mostPlanBeats - plan[at].Beats, -plan[at].Beats} {
				other, ok := impl.Mistune(plan, at, change)
				if !ok {
					continue
				}
				for _, start := range []int{100000, 264000, 264001} {
					if checkNearby(t, start, plan, other, impl.AffectedKeys(plan, at), max(change, -change)) {
						near++
					}
				}
			}
		}
	}
	if near < 10000 {
		t.Errorf("only %d mistakes are looked at", near)
	}
}

// The bound holds for all steps together too.
func TestBoundOfManyMistakes(t *testing.T) {
	for _, steps := range []int{1, 2, 5, 8, mostPlanSteps} {
		for _, plan := range plansOfKinds(steps, 2500) {
			for _, wrong := range []int{1, 10, 777, 2500} {
				lower, higher := slices.Clone(plan), slices.Clone(plan)
				for i := range plan {
					lower[i].Beats += wrong
					higher[i].Beats -= wrong
				}
				for _, other := range [][]impl.Step{lower, higher} {
					if !checkNearby(t, 115000, plan, other, impl.KeysTuned(plan)[1:], wrong) {
						t.Errorf("%v or %v fails", plan, other)
					}
				}
			}
		}
	}
}

func TestErrorBound(t *testing.T) {
	checkBound(t, usualSteps(100), 1, 10, 6)
	checkBound(t, usualSteps(100), 0, 10, 0)
	checkBound(t, usualSteps(100), 2, 10, 8)
	checkBound(t, usualSteps(100), 3, 10, 18)
	checkBound(t, planOf(0, impl.FromFourth), 1, 10, 3)
	checkBound(t, planOf(0, impl.FromFourth), 1, 11, 3)
	checkBound(t, planOf(0, impl.FromFourth), 1, 12, 4)
	checkBound(t, planOf(0, impl.FromFifth), 1, 11, 6)
	checkBound(t, planOf(0, impl.FromFifth), 1, 12, 7)
	checkBound(t, planOf(0, impl.FromFifth, impl.FromFifth, impl.FromFourth), 3, 0, 2)
	for _, wrong := range someWrongs() {
		checkBound(t, usualSteps(700), 0, wrong, 0)
		checkBound(t, nil, 0, wrong, 0)
	}
}

// The beats of the plan itself do not matter.
func TestErrorBoundForManyWrongs(t *testing.T) {
	plans := [][]impl.Step{usualSteps(0), usualSteps(mostPlanBeats), planOf(1, slices.Repeat([]int{impl.FromFifth}, 11)...), planOf(9, slices.Repeat([]int{impl.FromFourth}, 11)...)}
	for _, plan := range plans {
		for wrong := 0; wrong <= mostWrong; wrong += 1 + wrong/100 {
			for key := range 12 {
				checkBound(t, plan, key, wrong, boundIn(plan, key, wrong))
			}
		}
	}
	for _, plan := range manyPlans() {
		for _, wrong := range someWrongs() {
			for key := range 12 {
				checkBound(t, plan, key, wrong, boundIn(plan, key, wrong))
			}
		}
	}
}

func TestNothingIsThatWrong(t *testing.T) {
	for _, plan := range manyPlans() {
		for _, wrong := range noWrongs() {
			for key := -1; key <= 12; key++ {
				checkBound(t, plan, key, wrong, -1)
			}
		}
	}
}

func TestDeepestKey(t *testing.T) {
	for steps := range mostPlanSteps + 1 {
		checkDeepest(t, usualSteps(700)[:steps], steps)
		for _, plan := range mixedPlans(steps, 20) {
			checkDeepest(t, plan, steps)
			for key := range 12 {
				if depth := impl.DepthOf(plan, key); depth > impl.DepthOf(plan, impl.DeepestKey(plan)) {
					t.Errorf("in %v, key %d has the depth %d", plan, key, depth)
				}
			}
		}
	}
}

func TestSpreadOfNoSteps(t *testing.T) {
	for _, plan := range [][]impl.Step{nil, {}, usualSteps(700)[:0], usualSteps(700)[11:]} {
		checkDepth(t, plan, 0, 0)
		checkDeepest(t, plan, 0)
		for key := 1; key < 12; key++ {
			checkDepth(t, plan, key, -1)
			checkBound(t, plan, key, 0, -1)
		}
		for _, at := range append(noPlaces(), 0, 1) {
			checkAffected(t, plan, at)
			checkNoMistune(t, plan, at, 0)
			checkNoMistune(t, plan, at, 5)
		}
		checkSpread(t, plan)
	}
}

func TestKeysThatAreNotTuned(t *testing.T) {
	for _, plan := range manyPlans() {
		for _, key := range noKeys() {
			checkDepth(t, plan, key, -1)
			for _, wrong := range []int{0, 10, mostWrong} {
				checkBound(t, plan, key, wrong, -1)
			}
		}
		for key := len(plan) + 1; key < 12; key++ {
			checkDepth(t, plan, key, -1)
			checkBound(t, plan, key, 10, -1)
		}
	}
}

func TestStepsThatAreNotThere(t *testing.T) {
	for _, plan := range manyPlans() {
		for _, at := range append(noPlaces(), len(plan), len(plan)+1) {
			checkAffected(t, plan, at)
			for _, change := range []int{0, 1, -1, mostChange, -mostChange} {
				checkNoMistune(t, plan, at, change)
			}
		}
	}
}

func TestNoSpreadOfWrongPlans(t *testing.T) {
	for _, plan := range wrongPlans() {
		if isPlan(plan) {
			t.Errorf("%v is a plan", plan)
		}
		checkNoSpread(t, plan)
	}
	for _, plan := range wrongPlans()[:50] {
		for _, key := range noKeys() {
			checkDepth(t, plan, key, -1)
		}
		for _, wrong := range noWrongs() {
			checkBound(t, plan, 0, wrong, -1)
		}
		for _, at := range noPlaces() {
			checkAffected(t, plan, at)
			checkNoMistune(t, plan, at, 1)
		}
		for _, change := range noChanges() {
			checkNoMistune(t, plan, 0, change)
		}
	}
}

// A change that makes a wrong plan right is none.
func TestWrongBeatsAreNotMended(t *testing.T) {
	for at := range mostPlanSteps {
		for _, beats := range []int{-1, -700, -mostChange, mostPlanBeats + 1, mostPlanBeats + 700, 2 * mostPlanBeats} {
			plan := usualSteps(700)
			plan[at].Beats = beats
			for _, right := range []int{0, 1, 700, mostPlanBeats} {
				checkNoMistune(t, plan, at, right-beats)
			}
		}
	}
}

// askSpread calls every function of the chapter.
func askSpread(plan []impl.Step, number int) {
	impl.DepthOf(plan, number)
	impl.Mistune(plan, number, number)
	impl.Mistune(plan, 0, number)
	impl.AffectedKeys(plan, number)
	impl.ErrorBound(plan, number, number)
	impl.ErrorBound(plan, 1, number)
	impl.DeepestKey(plan)
}

func TestPlansAreKeptBySpread(t *testing.T) {
	spare := impl.Step{From: 77, To: 78, Kind: 79, Beats: 80}
	for _, plan := range append(manyPlans(), wrongPlans()...) {
		memory := append(slices.Clone(plan), spare, spare, spare)
		before := slices.Clone(memory)
		for _, number := range []int{0, 1, 10, -1, 5001, math.MaxInt, math.MinInt} {
			askSpread(memory[:len(plan)], number)
		}
		if !slices.Equal(memory, before) {
			t.Errorf("of the plan %v, %v is left", before, memory)
		}
	}
}

// overwriteSteps writes over a plan and all of its spare capacity.
func overwriteSteps(plan []impl.Step) {
	plan = plan[:cap(plan)]
	for i := range plan {
		plan[i] = impl.Step{From: -1, To: -2, Kind: -3, Beats: -4}
	}
}

func TestResultsOfSpreadAreNewMemory(t *testing.T) {
	for _, plan := range append(manyPlans(), wrongPlans()[:200]...) {
		memory := append(slices.Clone(plan), stepUp(7, 8, 9), stepUp(8, 9, 10))
		before := slices.Clone(memory)
		asked := memory[:len(plan)]
		for at := range len(plan) + 1 {
			for _, change := range []int{0, 1, -1, mostChange, mostChange + 1} {
				changed, _ := impl.Mistune(asked, at, change)
				overwriteSteps(changed)
			}
			keys := impl.AffectedKeys(asked, at)
			keys = keys[:cap(keys)]
			for i := range keys {
				keys[i] = -5
			}
			checkAffected(t, asked, at, affectedIn(plan, at)...)
			checkMistuneLikeWords(t, asked, at, 1)
		}
		if !slices.Equal(memory, before) {
			t.Errorf("of the plan %v, %v is left", before, memory)
		}
	}
}

func TestSpreadKeepsNothing(t *testing.T) {
	plans := append(manyPlans(), wrongPlans()[:100]...)
	for i, plan := range plans {
		askSpread(plans[len(plans)-1-i], i%12)
		checkSpread(t, plan)
		askSpread(usualSteps(700), i)
		checkSpread(t, plan)
	}
}
