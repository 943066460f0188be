package resource

import (
	"math"
	"math/big"
	"math/rand"
	"reflect"
	"slices"
	"testing"

	"orchestrator/api"
)

const most = api.MaxNumber

func amounts(cpu, memory, disk int) api.Resources {
	return api.Resources{CPU: cpu, Memory: memory, Disk: disk}
}

// edgeAmounts are amounts beside each edge that the chapter names.
func edgeAmounts() []int {
	return []int{
		math.MinInt, math.MinInt + 1, -most - 1, -most, -2, -1, 0, 1, 2, 7,
		most/2 - 1, most / 2, most/2 + 1, most - 1, most, most + 1, 2 * most, math.MaxInt - most, math.MaxInt - 1, math.MaxInt,
	}
}

// components returns the three amounts of r, so that a test can go through them.
func components(r api.Resources) []int { return []int{r.CPU, r.Memory, r.Disk} }

func fromComponents(l []int) api.Resources { return amounts(l[0], l[1], l[2]) }

// exact returns n clamped to the range from 0 to MaxNumber, as a number that cannot overflow.
func exact(n *big.Int) *big.Int {
	if n.Sign() < 0 {
		return big.NewInt(0)
	}
	if n.Cmp(big.NewInt(most)) > 0 {
		return big.NewInt(most)
	}
	return n
}

func exactInt(n int) *big.Int { return exact(big.NewInt(int64(n))) }

// clamped works out by exact numbers what r counts as.
func clamped(r api.Resources) api.Resources {
	l := components(r)
	for i, n := range l {
		l[i] = int(exactInt(n).Int64())
	}
	return fromComponents(l)
}

func expectAdd(a, b api.Resources) api.Resources {
	l := components(a)
	for i, n := range components(b) {
		l[i] = int(exact(new(big.Int).Add(exactInt(l[i]), exactInt(n))).Int64())
	}
	return fromComponents(l)
}

func expectSub(a, b api.Resources) api.Resources {
	l := components(a)
	for i, n := range components(b) {
		l[i] = int(exact(new(big.Int).Sub(exactInt(l[i]), exactInt(n))).Int64())
	}
	return fromComponents(l)
}

func expectFits(need, free api.Resources) bool {
	l := components(free)
	for i, n := range components(need) {
		if exactInt(n).Cmp(exactInt(l[i])) > 0 {
			return false
		}
	}
	return true
}

func checkAdd(t *testing.T, a, b, want api.Resources) {
	t.Helper()
	if got := Add(a, b); got != want {
		t.Errorf("Add(%v, %v) = %v; want %v", a, b, got, want)
	}
}

func checkSub(t *testing.T, a, b, want api.Resources) {
	t.Helper()
	if got := Sub(a, b); got != want {
		t.Errorf("Sub(%v, %v) = %v; want %v", a, b, got, want)
	}
}

func checkFits(t *testing.T, need, free api.Resources, want bool) {
	t.Helper()
	if got := Fits(need, free); got != want {
		t.Errorf("Fits(%v, %v) = %v; want %v", need, free, got, want)
	}
}

// eachEdgePair calls f with every pair of edge amounts in every component, beside other amounts in the other components.
func eachEdgePair(f func(a, b api.Resources)) {
	for _, x := range edgeAmounts() {
		for _, y := range edgeAmounts() {
			f(amounts(x, 5, 3), amounts(y, 9, 2))
			f(amounts(5, x, 3), amounts(9, y, 2))
			f(amounts(3, 5, x), amounts(2, 9, y))
			f(amounts(x, y, x), amounts(y, x, x))
		}
	}
}

// randomAmount is of any size, at times an edge or out of range.
func randomAmount(r *rand.Rand) int {
	switch r.Intn(4) {
	case 0:
		l := edgeAmounts()
		return l[r.Intn(len(l))]
	case 1:
		return r.Intn(5)
	case 2:
		return r.Intn(most + 1)
	}
	return int(r.Uint64())
}

func randomAmounts(r *rand.Rand) api.Resources {
	return amounts(randomAmount(r), randomAmount(r), randomAmount(r))
}

// eachPair calls f with the edge pairs and with random ones.
func eachPair(f func(a, b api.Resources)) {
	eachEdgePair(f)
	r := rand.New(rand.NewSource(1))
	for range 20000 {
		f(randomAmounts(r), randomAmounts(r))
	}
}

// fewAmounts are all resources of few amounts: inside the range, at its ends and beyond them.
func fewAmounts() []api.Resources {
	var l []api.Resources
	numbers := []int{-1, 0, 1, most, most + 1}
	for _, cpu := range numbers {
		for _, memory := range numbers {
			for _, disk := range numbers {
				l = append(l, amounts(cpu, memory, disk))
			}
		}
	}
	return l
}

func TestAdd(t *testing.T) { // P2.1
	checkAdd(t, amounts(0, 0, 0), amounts(0, 0, 0), amounts(0, 0, 0))
	checkAdd(t, amounts(1, 20, 300), amounts(4000, 50000, 600000), amounts(4001, 50020, 600300))
	checkAdd(t, amounts(250, 1<<30, 0), amounts(0, 1<<20, 7), amounts(250, 1<<30+1<<20, 7))
	checkAdd(t, amounts(1, 2, 3), amounts(4, 1, most), amounts(5, 3, most))
}

func TestAddBeyondRange(t *testing.T) { // P2.1, P1
	checkAdd(t, amounts(-5, 3, -7), amounts(8, -2, -1), amounts(8, 3, 0))
	checkAdd(t, amounts(math.MinInt, math.MinInt, math.MaxInt), amounts(math.MinInt, math.MaxInt, math.MaxInt), amounts(0, most, most))
	checkAdd(t, amounts(most+1, most+9, most), amounts(-most, 0, -1), amounts(most, most, most))
	checkAdd(t, amounts(most/2, most/2, most/2), amounts(most/2-1, most/2, most/2+1), amounts(most-1, most, most))
	checkAdd(t, amounts(most, most-1, 1), amounts(1, 1, most-2), amounts(most, most, most-1))
}

func TestAddAgreesWithExactNumbers(t *testing.T) { // P2.1
	eachPair(func(a, b api.Resources) { checkAdd(t, a, b, expectAdd(a, b)) })
}

func TestSub(t *testing.T) { // P2.2
	checkSub(t, amounts(0, 0, 0), amounts(0, 0, 0), amounts(0, 0, 0))
	checkSub(t, amounts(4001, 50020, 600300), amounts(4000, 50000, 600000), amounts(1, 20, 300))
	checkSub(t, amounts(3, 3, 3), amounts(3, 4, 2), amounts(0, 0, 1))
	checkSub(t, amounts(1, 2, 3), amounts(4, 1, most), amounts(0, 1, 0))
}

func TestSubBeyondRange(t *testing.T) { // P2.2, P1
	checkSub(t, amounts(5, -5, -1), amounts(-5, -8, 0), amounts(5, 0, 0))
	checkSub(t, amounts(most+5, most+5, most), amounts(1, most+1, most-1), amounts(most-1, 0, 1))
	checkSub(t, amounts(math.MaxInt, math.MinInt, math.MaxInt), amounts(math.MinInt, math.MaxInt, math.MaxInt), amounts(most, 0, 0))
	checkSub(t, amounts(math.MaxInt, math.MinInt, 0), amounts(1, math.MinInt, math.MaxInt), amounts(most-1, 0, 0))
}

func TestSubAgreesWithExactNumbers(t *testing.T) { // P2.2
	eachPair(func(a, b api.Resources) { checkSub(t, a, b, expectSub(a, b)) })
}

func TestFits(t *testing.T) { // P2.3
	checkFits(t, amounts(0, 0, 0), amounts(0, 0, 0), true)
	checkFits(t, amounts(1, 0, 0), amounts(1, 0, 0), true)
	checkFits(t, amounts(1, 2, 3), amounts(1, 2, 3), true)
	checkFits(t, amounts(1, 2, 3), amounts(2, 3, 4), true)
	checkFits(t, amounts(2, 2, 3), amounts(1, 9, 9), false)
	checkFits(t, amounts(1, 3, 3), amounts(9, 2, 9), false)
	checkFits(t, amounts(1, 2, 4), amounts(9, 9, 3), false)
	checkFits(t, amounts(1, 0, 0), amounts(0, 1, 1), false)
}

func TestFitsBeyondRange(t *testing.T) { // P2.3, P1
	checkFits(t, amounts(0, 0, 0), amounts(-1, -1, math.MinInt), true)
	checkFits(t, amounts(-1, -1, -1), amounts(-2, -2, -2), true)
	checkFits(t, amounts(1, 0, 0), amounts(-1, 0, 0), false)
	checkFits(t, amounts(most+1, math.MaxInt, 2*most), amounts(most, most, most), true)
	checkFits(t, amounts(0, math.MaxInt, 0), amounts(most, most-1, most), false)
	checkFits(t, amounts(0, 0, most), amounts(0, 0, math.MaxInt), true)
}

func TestNegativeAmountsFitInEverything(t *testing.T) { // P2.3
	r := rand.New(rand.NewSource(3))
	for range 1000 {
		checkFits(t, amounts(-5, 0, 0), randomAmounts(r), true)
		checkFits(t, amounts(math.MinInt, -1, 0), randomAmounts(r), true)
	}
}

func TestFitsAgreesWithExactNumbers(t *testing.T) { // P2.3
	eachPair(func(a, b api.Resources) { checkFits(t, a, b, expectFits(a, b)) })
}

// pod has a container for each request; its limits are other amounts, so that the two are not mistaken for each other.
func pod(requests ...api.Resources) api.PodSpec {
	p := api.PodSpec{}
	for i, r := range requests {
		p.Containers = append(p.Containers, api.Container{Request: r, Limit: amounts(r.Disk, r.CPU, i)})
	}
	return p
}

func checkRequests(t *testing.T, p api.PodSpec, want api.Resources) {
	t.Helper()
	if got := Requests(p); got != want {
		t.Errorf("Requests(%v) = %v; want %v", p.Containers, got, want)
	}
}

func checkLimits(t *testing.T, p api.PodSpec, want api.Resources) {
	t.Helper()
	if got := Limits(p); got != want {
		t.Errorf("Limits(%v) = %v; want %v", p.Containers, got, want)
	}
}

func TestRequests(t *testing.T) { // P2.4
	checkRequests(t, pod(amounts(1, 2, 3)), amounts(1, 2, 3))
	checkRequests(t, pod(amounts(1, 2, 3), amounts(10, 20, 30), amounts(100, 200, 300)), amounts(111, 222, 333))
	checkRequests(t, pod(amounts(1, 2, 3), amounts(1, 2, 3)), amounts(2, 4, 6))
	checkRequests(t, api.PodSpec{Containers: []api.Container{{Limit: amounts(4, 5, 6)}}}, amounts(0, 0, 0))
}

func TestLimits(t *testing.T) { // P2.5
	checkLimits(t, pod(amounts(1, 2, 3)), amounts(3, 1, 0))
	checkLimits(t, pod(amounts(1, 2, 3), amounts(10, 20, 30), amounts(100, 200, 300)), amounts(333, 111, 3))
	checkLimits(t, api.PodSpec{Containers: []api.Container{{Request: amounts(4, 5, 6)}}}, amounts(0, 0, 0))
	checkLimits(t, api.PodSpec{Containers: []api.Container{{Limit: amounts(4, 5, 6)}, {Limit: amounts(4, 5, 6)}}}, amounts(8, 10, 12))
}

func TestPodWithoutContainers(t *testing.T) { // P2.4, P2.5
	for _, p := range []api.PodSpec{{}, {Containers: []api.Container{}}, {Node: "n1", Priority: 5, Grace: 9}, {Containers: []api.Container{{}}}} {
		checkRequests(t, p, amounts(0, 0, 0))
		checkLimits(t, p, amounts(0, 0, 0))
	}
}

func TestContainersBeyondRange(t *testing.T) { // P2.4, P2.5
	// One amount out of range does not take away from the others, nor does it wrap round.
	low, high := amounts(math.MinInt, -1, -most), amounts(math.MaxInt, most, most+1)
	for _, c := range []struct {
		l    []api.Resources
		want api.Resources
	}{
		{[]api.Resources{low}, amounts(0, 0, 0)},
		{[]api.Resources{high}, amounts(most, most, most)},
		{[]api.Resources{high, low}, amounts(most, most, most)},
		{[]api.Resources{high, high, high, high}, amounts(most, most, most)},
		{[]api.Resources{amounts(1, 2, 3), low, amounts(4, 5, 6), low}, amounts(5, 7, 9)},
		{[]api.Resources{amounts(most-3, 1, 0), amounts(1, most-2, 0), amounts(1, 1, 0)}, amounts(most-1, most, 0)},
	} {
		p := api.PodSpec{}
		for _, r := range c.l {
			p.Containers = append(p.Containers, api.Container{Request: r, Limit: amounts(1, 1, 1)})
		}
		checkRequests(t, p, c.want)
		for i := range p.Containers {
			p.Containers[i].Request, p.Containers[i].Limit = p.Containers[i].Limit, p.Containers[i].Request
		}
		checkLimits(t, p, c.want)
	}
}

func TestSumsAgreeWithExactNumbers(t *testing.T) { // P2.4, P2.5
	r := rand.New(rand.NewSource(5))
	for range 2000 {
		p := api.PodSpec{}
		requests, limits := api.Resources{}, api.Resources{}
		for range r.Intn(6) {
			c := api.Container{Request: randomAmounts(r), Limit: randomAmounts(r)}
			p.Containers = append(p.Containers, c)
			requests, limits = expectAdd(requests, c.Request), expectAdd(limits, c.Limit)
		}
		checkRequests(t, p, requests)
		checkLimits(t, p, limits)
	}
}

func TestPodIsNotModified(t *testing.T) { // P2
	p := pod(amounts(-1, most+1, 3), amounts(math.MinInt, math.MaxInt, 0))
	before := slices.Clone(p.Containers)
	Requests(p)
	Limits(p)
	if !reflect.DeepEqual(p.Containers, before) {
		t.Errorf("the containers became %v; were %v", p.Containers, before)
	}
}

func TestSubUndoesAdd(t *testing.T) { // P2.6
	check := func(a, b api.Resources) {
		if sum := Add(a, b); slices.Max(components(sum)) < most && Sub(sum, b) != clamped(a) {
			t.Errorf("Sub(Add(%v, %v), b) = %v; want a clamped", a, b, Sub(sum, b))
		}
	}
	eachEdgePair(check)
	for _, a := range fewAmounts() {
		for _, b := range fewAmounts() {
			check(a, b)
		}
	}
}

func TestSumHoldsWhatFits(t *testing.T) { // P2.6
	check := func(need, a, b api.Resources) {
		if Fits(need, a) && !Fits(need, Add(a, b)) {
			t.Errorf("%v fits in %v, but not in the sum with %v", need, a, b)
		}
	}
	r := rand.New(rand.NewSource(6))
	eachEdgePair(func(a, b api.Resources) { check(a, a, b); check(Sub(a, b), a, b) })
	for range 20000 {
		check(randomAmounts(r), randomAmounts(r), randomAmounts(r))
	}
}

func TestAddCommutesAndAssociates(t *testing.T) { // P2.6
	check := func(a, b, c api.Resources) {
		if Add(a, b) != Add(b, a) {
			t.Errorf("Add(%v, %v) = %v, but the other way round %v", a, b, Add(a, b), Add(b, a))
		}
		if Add(Add(a, b), c) != Add(a, Add(b, c)) {
			t.Errorf("the sum of %v, %v and %v depends on which two are added first", a, b, c)
		}
	}
	r := rand.New(rand.NewSource(7))
	eachEdgePair(func(a, b api.Resources) { check(a, b, randomAmounts(r)); check(a, randomAmounts(r), b) })
	for range 20000 {
		check(randomAmounts(r), randomAmounts(r), randomAmounts(r))
	}
}

func TestFitsIsAPartialOrder(t *testing.T) { // P2.6
	l := fewAmounts()
	for _, a := range l {
		checkFits(t, a, a, true)
		for _, b := range l {
			if !Fits(a, b) {
				continue
			}
			if Fits(b, a) && clamped(a) != clamped(b) {
				t.Errorf("%v and %v fit in each other and differ", a, b)
			}
			for _, c := range l {
				if Fits(b, c) && !Fits(a, c) {
					t.Errorf("%v fits in %v and this in %v, but not the first in the last", a, b, c)
				}
			}
		}
	}
}

func TestFitsIfTheRestFillsUp(t *testing.T) { // P2.6
	eachPair(func(a, b api.Resources) {
		if fills := Add(a, Sub(b, a)) == clamped(b); Fits(a, b) != fills {
			t.Errorf("Fits(%v, %v) = %v, but Add(a, Sub(b, a)) = %v", a, b, Fits(a, b), Add(a, Sub(b, a)))
		}
	})
}

func TestExamples(t *testing.T) { // P2.1, P2.2, P2.3
	a, b := amounts(1, 2, 3), amounts(4, 1, api.MaxNumber)
	checkAdd(t, a, b, amounts(5, 3, api.MaxNumber))
	checkSub(t, a, b, amounts(0, 1, 0))
	checkFits(t, amounts(1, 0, 0), amounts(1, 0, 0), true)
	checkFits(t, amounts(-5, 0, 0), amounts(0, 0, 0), true)
}
