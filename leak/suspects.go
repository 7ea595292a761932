package leak

import (
	"iter"
	"slices"

	"spile/api"
)

// Fits returns the smallest sizes of leaks at nodes with which all sensors agree.
func Fits(w api.Watch, nodes []int) ([]int, api.Errno) {
	k, e := watching(w)
	if e != api.OK {
		return nil, e
	}
	if e := checkNodes(len(k.Net.Pipes), nodes, api.MaxLeaks); e != api.OK {
		return nil, e
	}
	sizes, ok := k.sizes(nodes...)
	if !ok {
		return nil, api.ErrState
	}
	return sizes, api.OK
}

// Suspects returns all sets of so many nodes that can leak.
func Suspects(w api.Watch, leaks int) ([][]int, api.Errno) {
	k, e := watching(w)
	if e != api.OK {
		return nil, e
	}
	if !in(leaks, 0, api.MaxLeaks) {
		return nil, api.ErrRange
	}
	return k.suspects(leaks), api.OK
}

// Places returns how many leaks there are at least, and all nodes that can then leak.
func Places(w api.Watch) (leaks int, nodes []int, e api.Errno) {
	k, e := watching(w)
	if e != api.OK {
		return 0, nil, e
	}
	for leaks := range api.MaxLeaks + 1 {
		if suspects := k.suspects(leaks); len(suspects) > 0 {
			nodes := slices.Concat(suspects...)
			slices.Sort(nodes)
			return leaks, slices.Compact(nodes), api.OK
		}
	}
	return 0, nil, api.ErrNone
}

// suspects returns all sets of so many nodes that can leak.
func (k *watched) suspects(leaks int) [][]int {
	var all [][]int
	for nodes := range sets(len(k.Net.Pipes), leaks) {
		if _, ok := k.sizes(nodes...); ok {
			all = append(all, nodes)
		}
		// No other set has leaks at the same nodes, and all of them would be many.
		clear(k.vacuums)
	}
	return all
}

// sets yields all sets of so many nodes, each in ascending order, in ascending order.
func sets(nodes, count int) iter.Seq[[]int] {
	return func(yield func([]int) bool) { extend(nil, nodes, count, yield) }
}

// extend yields the sets that begin with some nodes, as long as they are wanted, which it reports.
func extend(set []int, nodes, count int, yield func([]int) bool) bool {
	if len(set) == count {
		return yield(set)
	}
	from := 0
	if len(set) > 0 {
		from = set[len(set)-1] + 1
	}
	for node := from; node < nodes; node++ {
		if !extend(append(slices.Clip(set), node), nodes, count, yield) {
			return false
		}
	}
	return true
}

// sizes returns the smallest sizes of leaks at different nodes that fit, if any do.
func (k *watched) sizes(nodes ...int) ([]int, bool) {
	switch len(nodes) {
	case 0:
		return nil, k.fit()
	case 1:
		return k.sizeAlone(nodes[0])
	}
	return k.sizesOfTwo(nodes[0], nodes[1])
}

// sizeAlone returns the smallest size of a leak that fits, if any does.
func (k *watched) sizeAlone(node int) ([]int, bool) {
	for leak := range k.leaksAt(node) {
		if k.fit(leak) {
			return []int{leak.Size}, true
		}
	}
	return nil, false
}

// sizesOfTwo returns the smallest sizes of two leaks that fit, if any do. Greater leaks leave less vacuum everywhere: so the greater the first one is, the smaller is the least second one that is not too small; and if this one is too great, all greater ones are.
func (k *watched) sizesOfTwo(a, b int) ([]int, bool) {
	second := func(size int) api.Leak { return api.Leak{Node: b, Size: size} }
	least := k.Steps + 1
	for first := range k.leaksAt(a) {
		for least > 1 && !k.tooSmall(first, second(least-1)) {
			least--
		}
		if least <= k.Steps && !k.tooGreat(first, second(least)) {
			return []int{first.Size, least}, true
		}
	}
	return nil, false
}
