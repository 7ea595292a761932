package season_test

import (
	"fmt"
	"math/big"
	"math/rand/v2"
	"slices"
	"testing"

	"spile/api"
	"spile/season"
)

const (
	low  = -1 << 63
	high = 1<<63 - 1
)

func list(l ...int) []int { return l }

// part returns a fraction as it is written.
func part(num, den int) api.Part { return api.Part{Num: num, Den: den} }

// scenario returns a scenario, and outlook several ones.
func scenario(weight int, runs ...int) api.Scenario { return api.Scenario{Weight: weight, Runs: runs} }

func outlook(life int, l ...api.Scenario) api.Outlook { return api.Outlook{Life: life, Scenarios: l} }

// bush returns a bush, and bushes returns several ones.
func bush(taps, work, percent int) api.SeasonBush {
	return api.SeasonBush{Taps: taps, Work: work, Percent: percent}
}

func bushes(l ...api.SeasonBush) []api.SeasonBush { return l }

// tree returns a tree without carbon, and stems returns several ones.
func tree(wood, worth int) api.Stem { return api.Stem{Wood: wood, Worth: worth} }

func stems(l ...api.Stem) []api.Stem { return l }

// carbons returns trees with so much carbon.
func carbons(l ...int) api.Stand {
	var s api.Stand
	for _, n := range l {
		s.Stems = append(s.Stems, api.Stem{Wood: 1, Carbon: n})
	}
	return s
}

// stand returns a stand: trees, and pairs of them as a, b, a, b ..
func stand(trees []api.Stem, beside ...int) api.Stand {
	s := api.Stand{Stems: trees}
	for i := 0; i+1 < len(beside); i += 2 {
		s.Beside = append(s.Beside, [2]int{beside[i], beside[i+1]})
	}
	return s
}

// times returns a list of so many equal things.
func times[T any](n int, x T) []T { return slices.Repeat([]T{x}, n) }

// usual is the outlook of the chapter's examples, usualBushes are its bushes, and usualStand is its stand.
func usual() api.Outlook { return outlook(2, scenario(1, 0, 10, 4, 0), scenario(3, 6, 0, 0, 9)) }

func usualBushes() []api.SeasonBush { return bushes(bush(10, 1, 100), bush(10, 1, 100)) }

func usualStand() api.Stand { return stand(stems(tree(3, 4), tree(4, 5), tree(5, 6))) }

// with changes what the usual outlook has.
func with(change func(o *api.Outlook)) api.Outlook {
	o := usual()
	change(&o)
	return o
}

// dice returns numbers that are the same in each run.
func dice() *rand.Rand { return rand.New(rand.NewPCG(9, 14)) }

// pick returns a number from a to b.
func pick(d *rand.Rand, a, b int) int { return a + d.IntN(b-a+1) }

// picks returns so many numbers from a to b.
func picks(d *rand.Rand, n, a, b int) []int {
	var l []int
	for range n {
		l = append(l, pick(d, a, b))
	}
	return l
}

// anyOutlook returns an outlook for so many days, with small runs, of which many are the same.
func anyOutlook(d *rand.Rand, days int) api.Outlook {
	o := outlook(pick(d, 1, days+1))
	most := pick(d, 1, 9)
	for range pick(d, 1, 4) {
		o.Scenarios = append(o.Scenarios, scenario(pick(d, 1, 4), picks(d, days, 0, most)...))
	}
	return o
}

// anyBushes returns so many bushes, with little to do and much of it the same.
func anyBushes(d *rand.Rand, n, work int) []api.SeasonBush {
	var l []api.SeasonBush
	for range n {
		l = append(l, bush(pick(d, 0, 5), pick(d, 1, work), pick(d, 0, 4)*25))
	}
	return l
}

// anyStand returns so many trees of which many are worth the same, and some pairs.
func anyStand(d *rand.Rand, n int) api.Stand {
	var s api.Stand
	most := pick(d, 1, 9)
	for range n {
		s.Stems = append(s.Stems, api.Stem{Wood: pick(d, 1, 6), Carbon: pick(d, 0, 50), Worth: pick(d, 0, most)})
	}
	if n > 1 {
		for range pick(d, 0, n) {
			a := d.IntN(n)
			s.Beside = append(s.Beside, [2]int{a, (a + pick(d, 1, n-1)) % n})
		}
	}
	return s
}

// gainOf returns the gain of a day in a scenario by the definition; behind the season it is 0.
func gainOf(o api.Outlook, scenario, day int) int {
	gain := 0
	for i := day; i < day+o.Life; i++ {
		if i < len(o.Scenarios[scenario].Runs) {
			gain += o.Scenarios[scenario].Runs[i]
		}
	}
	return gain
}

// lossOf returns the loss of a day in a scenario by the definition.
func lossOf(o api.Outlook, scenario, day int) int {
	most := 0
	for other := range o.Scenarios[scenario].Runs {
		most = max(most, gainOf(o, scenario, other))
	}
	return most - gainOf(o, scenario, day)
}

// ofEach returns a number for each scenario.
func ofEach(o api.Outlook, number func(o api.Outlook, scenario, day int) int, day int) []int {
	var l []int
	for s := range o.Scenarios {
		l = append(l, number(o, s, day))
	}
	return l
}

// sumOf returns the sum of a day's losses by their weights.
func sumOf(o api.Outlook, day int) int {
	sum := 0
	for s, x := range o.Scenarios {
		sum += x.Weight * lossOf(o, s, day)
	}
	return sum
}

// worstOf returns the greatest loss of a day.
func worstOf(o api.Outlook, day int) int { return slices.Max(ofEach(o, lossOf, day)) }

// firstLeast returns the first day of the season with the least number, and this number.
func firstLeast(o api.Outlook, number func(o api.Outlook, day int) int) (day, least int) {
	least = number(o, 0)
	for d := range o.Scenarios[0].Runs {
		if n := number(o, d); n < least {
			day, least = d, n
		}
	}
	return day, least
}

// proofOf returns the proof of Least by the definition.
func proofOf(o api.Outlook, loss int) []int {
	var proof []int
	for day := range o.Scenarios[0].Runs {
		for s := range o.Scenarios {
			if lossOf(o, s, day) >= loss {
				proof = append(proof, s)
				break
			}
		}
	}
	return proof
}

// beatsOf reports whether a day beats another one by the definition.
func beatsOf(o api.Outlook, day, other int) bool {
	least, most := high, 0
	for s := range o.Scenarios {
		more := gainOf(o, s, day) - gainOf(o, s, other)
		least, most = min(least, more), max(most, more)
	}
	return least >= 0 && most > 0
}

// beatenOf returns the days that beat others by the definition.
func beatenOf(o api.Outlook) []int {
	var l []int
	for day := range o.Scenarios[0].Runs {
		by := -1
		for other := len(o.Scenarios[0].Runs) - 1; other >= 0; other-- {
			if beatsOf(o, other, day) {
				by = other
			}
		}
		l = append(l, by)
	}
	return l
}

// worthOf returns what a plan gains by the definition, if no day is worked on twice.
func worthOf(o api.Outlook, l []api.SeasonBush, days []int) (gain int, ok bool) {
	worked := map[int]bool{}
	for i, b := range l {
		if days[i] < 0 {
			continue
		}
		for day := days[i]; day < days[i]+b.Work; day++ {
			if worked[day] {
				return 0, false
			}
			worked[day] = true
		}
		for s, x := range o.Scenarios {
			gain += x.Weight * b.Taps * b.Percent * gainOf(o, s, days[i]+b.Work)
		}
	}
	return gain, true
}

// eachPlan calls for each list of so many days, or -1.
func eachPlan(n, days int, begin []int, call func(plan []int)) {
	if len(begin) == n {
		call(begin)
		return
	}
	for day := -1; day < days; day++ {
		eachPlan(n, days, append(slices.Clone(begin), day), call)
	}
}

// planOf returns the greatest gain of all plans.
func planOf(o api.Outlook, l []api.SeasonBush) int {
	most := 0
	eachPlan(len(l), len(o.Scenarios[0].Runs), nil, func(plan []int) {
		if gain, ok := worthOf(o, l, plan); ok {
			most = max(most, gain)
		}
	})
	return most
}

// eachList calls for each list of numbers below n, from the smallest one on.
func eachList(n int, begin []int, call func(list []int)) {
	call(begin)
	first := 0
	if len(begin) > 0 {
		first = begin[len(begin)-1] + 1
	}
	for i := first; i < n; i++ {
		eachList(n, append(slices.Clone(begin), i), call)
	}
}

// allowed reports whether trees may be cut together, and returns what they are worth.
func allowed(s api.Stand, wood int, cut []int) (worth int, ok bool) {
	for _, i := range cut {
		wood -= s.Stems[i].Wood
		worth += s.Stems[i].Worth
	}
	for _, pair := range s.Beside {
		if slices.Contains(cut, pair[0]) && slices.Contains(cut, pair[1]) {
			return 0, false
		}
	}
	return worth, wood >= 0
}

// thinOf returns what Thin must return, and how many lists are worth as much.
func thinOf(s api.Stand, wood int) (cut []int, worth, many int) {
	eachList(len(s.Stems), nil, func(list []int) {
		switch n, ok := allowed(s, wood, list); {
		case ok && n > worth:
			cut, worth, many = list, n, 1
		case ok && n == worth:
			many++
		}
	})
	return cut, worth, many
}

// exactOf returns the bound of a price before it is rounded.
func exactOf(s api.Stand, wood int, price api.Part) *big.Rat {
	p := big.NewRat(int64(price.Num), int64(price.Den))
	times := func(n int) *big.Rat { return new(big.Rat).Mul(p, big.NewRat(int64(n), 1)) }
	sum := times(wood)
	for _, x := range s.Stems {
		more := new(big.Rat).Sub(big.NewRat(int64(x.Worth), 1), times(x.Wood))
		if more.Sign() > 0 {
			sum.Add(sum, more)
		}
	}
	return sum
}

// boundOf returns the bound of a price by the definition.
func boundOf(s api.Stand, wood int, price api.Part) int {
	sum := exactOf(s, wood, price)
	return int(new(big.Int).Div(sum.Num(), sum.Denom()).Int64())
}

// lowestTerms returns a fraction in lowest terms.
func lowestTerms(num, den int) api.Part {
	x := big.NewRat(int64(num), int64(den))
	return part(int(x.Num().Int64()), int(x.Denom().Int64()))
}

// pricesOf returns all prices that Price chooses from, from the lowest one on.
func pricesOf(s api.Stand) []api.Part {
	l := []api.Part{part(0, 1)}
	for _, x := range s.Stems {
		l = append(l, lowestTerms(x.Worth, x.Wood))
	}
	slices.SortFunc(l, func(a, b api.Part) int { return a.Num*b.Den - b.Num*a.Den })
	return l
}

// priceOf returns what Price must return.
func priceOf(s api.Stand, wood int) (price api.Part, least int) {
	for i, p := range pricesOf(s) {
		if n := boundOf(s, wood, p); i == 0 || n < least {
			price, least = p, n
		}
	}
	return price, least
}

// whole returns a part of a number, rounded down.
func whole(n *big.Int, p api.Part) *big.Int {
	product := new(big.Int).Mul(n, big.NewInt(int64(p.Num)))
	return product.Div(product, big.NewInt(int64(p.Den)))
}

// carbon is what Carbon returns.
type carbon struct {
	stands, stored, lost int
}

// carbonOf returns what Carbon must return if nothing is wrong with what it is asked.
func carbonOf(s api.Stand, cut []int, years int, grow, store api.Part) (carbon, api.Errno) {
	var c carbon
	all := new(big.Int)
	for i, x := range s.Stems {
		n := big.NewInt(int64(x.Carbon))
		if slices.Contains(cut, i) {
			c.stored += int(whole(n, store).Int64())
			c.lost += x.Carbon - int(whole(n, store).Int64())
			continue
		}
		for range years {
			n.Add(n, whole(n, grow))
		}
		all.Add(all, n)
	}
	if all.Cmp(big.NewInt(api.MaxSpan)) > 0 {
		return carbon{}, api.ErrOver
	}
	c.stands = int(all.Int64())
	return c, api.OK
}

// same reports what a call returned if it is not what is wanted.
func same[T comparable](t *testing.T, what string, got T, e api.Errno, want T, wantErr api.Errno) {
	t.Helper()
	if got != want || e != wantErr {
		t.Errorf("%s: %v, error %d; want %v, error %d", what, got, e, want, wantErr)
	}
}

// sameList compares lists; an empty one and a nil one are the same.
func sameList(t *testing.T, what string, got []int, e api.Errno, want []int, wantErr api.Errno) {
	t.Helper()
	if !slices.Equal(got, want) || e != wantErr {
		t.Errorf("%s: %v, error %d; want %v, error %d", what, got, e, want, wantErr)
	}
}

// sameErr reports an error that is not the one that is wanted.
func sameErr(t *testing.T, what string, got, want api.Errno) {
	t.Helper()
	if got != want {
		t.Errorf("%s: error %d; want %d", what, got, want)
	}
}

// sameGains and the next ones ask, and compare.
func sameGains(t *testing.T, o api.Outlook, day int, want []int, wantErr api.Errno) {
	t.Helper()
	l, e := season.Gains(o, day)
	sameList(t, fmt.Sprint("Gains ", o, day), l, e, want, wantErr)
}

func sameLosses(t *testing.T, o api.Outlook, day int, want []int, wantErr api.Errno) {
	t.Helper()
	l, e := season.Losses(o, day)
	sameList(t, fmt.Sprint("Losses ", o, day), l, e, want, wantErr)
}

// decided is what Least and Mean return.
type decided struct {
	day, loss int
}

func sameLeast(t *testing.T, o api.Outlook, want decided, wantProof []int, wantErr api.Errno) {
	t.Helper()
	day, loss, proof, e := season.Least(o)
	same(t, fmt.Sprint("Least ", o), decided{day, loss}, e, want, wantErr)
	sameList(t, fmt.Sprint("the proof of Least ", o), proof, e, wantProof, wantErr)
}

func sameProves(t *testing.T, o api.Outlook, loss int, proof []int, want bool, wantErr api.Errno) {
	t.Helper()
	is, e := season.Proves(o, loss, proof)
	same(t, fmt.Sprint("Proves ", o, loss, proof), is, e, want, wantErr)
}

func sameMean(t *testing.T, o api.Outlook, want decided, wantErr api.Errno) {
	t.Helper()
	day, loss, e := season.Mean(o)
	same(t, fmt.Sprint("Mean ", o), decided{day, loss}, e, want, wantErr)
}

func sameBeaten(t *testing.T, o api.Outlook, want []int, wantErr api.Errno) {
	t.Helper()
	l, e := season.Beaten(o)
	sameList(t, fmt.Sprint("Beaten ", o), l, e, want, wantErr)
}

func sameWorth(t *testing.T, o api.Outlook, l []api.SeasonBush, days []int, want int, wantErr api.Errno) {
	t.Helper()
	gain, e := season.Worth(o, l, days)
	same(t, fmt.Sprint("Worth ", o, l, days), gain, e, want, wantErr)
}

// samePlan compares the gain of a plan, which must be that of the days; which days these are is left open.
func samePlan(t *testing.T, o api.Outlook, l []api.SeasonBush, want int, wantErr api.Errno) []int {
	t.Helper()
	days, gain, e := season.Plan(o, l)
	same(t, fmt.Sprint("Plan ", o, l), gain, e, want, wantErr)
	if e != api.OK {
		sameList(t, "beside an error", days, e, nil, wantErr)
		return days
	}
	sameWorth(t, o, l, days, want, api.OK)
	if len(days) != len(l) {
		t.Fatal("a plan for others:", l, days)
	}
	if truly, ok := worthOf(o, l, days); truly != want || !ok {
		t.Error("the plan truly gains something else:", o, l, days, truly, ok)
	}
	return days
}

func sameThin(t *testing.T, s api.Stand, wood int, want []int, wantWorth int, wantErr api.Errno) {
	t.Helper()
	cut, worth, e := season.Thin(s, wood)
	sameList(t, fmt.Sprint("Thin ", s, wood), cut, e, want, wantErr)
	same(t, fmt.Sprint("the worth of Thin ", s, wood), worth, e, wantWorth, wantErr)
}

func sameBound(t *testing.T, s api.Stand, wood int, price api.Part, want int, wantErr api.Errno) {
	t.Helper()
	n, e := season.Bound(s, wood, price)
	same(t, fmt.Sprint("Bound ", s, wood, price), n, e, want, wantErr)
}

func samePrice(t *testing.T, s api.Stand, wood int, want api.Part, wantBound int, wantErr api.Errno) {
	t.Helper()
	price, n, e := season.Price(s, wood)
	same(t, fmt.Sprint("Price ", s, wood), price, e, want, wantErr)
	same(t, fmt.Sprint("the bound of Price ", s, wood), n, e, wantBound, wantErr)
}

func sameCarbon(t *testing.T, s api.Stand, cut []int, years int, grow, store api.Part, want carbon, wantErr api.Errno) {
	t.Helper()
	stands, stored, lost, e := season.Carbon(s, cut, years, grow, store)
	same(t, fmt.Sprint("Carbon ", s, cut, years, grow, store), carbon{stands, stored, lost}, e, want, wantErr)
}
