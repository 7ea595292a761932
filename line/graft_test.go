package line_test

import (
	"fmt"
	"math/rand/v2"
	"slices"
	"testing"

	"spile/api"
	"spile/line"
)

func TestP3_9Cut(t *testing.T) {
	first := bush().Pipes[1:]
	under := func(parent int, p api.Pipe) api.Pipe {
		p.Parent = parent
		return p
	}
	fork := net(70, pipe(0, 11, 4, 1, 0), pipe(0, 12, 4, 2, 0), pipe(1, 13, 4, 3, 0), pipe(2, 14, 4, 4, 0), pipe(3, 15, 4, 5, 0), pipe(4, 16, 4, 6, 0), pipe(0, 17, 4, 7, 0))
	for i, c := range []struct {
		n       api.Net
		node    int
		kept    api.Net
		numbers []int
	}{
		{bush(), 1, net(8000), []int{0}},
		{bush(), 2, net(8000, first[0], first[2], under(2, first[3])), []int{0, 1, 3, 4}},
		{bush(), 3, net(8000, first[0], first[1]), []int{0, 1, 2}},
		{bush(), 4, net(8000, first[0], first[1], first[2]), []int{0, 1, 2, 3}},
		{fork, 1, net(70, fork.Pipes[2], under(1, fork.Pipes[4]), under(2, fork.Pipes[6]), fork.Pipes[7]), []int{0, 2, 4, 6, 7}},
		{fork, 2, net(70, fork.Pipes[1], under(1, fork.Pipes[3]), under(2, fork.Pipes[5]), fork.Pipes[7]), []int{0, 1, 3, 5, 7}},
		{fork, 7, net(70, fork.Pipes[1:7]...), numbers(0, 6)},
		{chain(60), 1, net(10000), []int{0}},
		{chain(60), 59, chain(59), numbers(0, 58)},
		{star(60), 1, star(59), append([]int{0}, numbers(2, 59)...)},
	} {
		kept, l, e := line.Cut(c.n, c.node)
		sameNet(t, fmt.Sprint("Cut ", i), kept, e, c.kept, api.OK)
		sameList(t, fmt.Sprint("Cut ", i), l, e, c.numbers, api.OK)
	}
}

func TestP3_9CutErrors(t *testing.T) {
	for _, c := range []struct {
		n    api.Net
		node int
		want api.Errno
	}{
		{bush(), -1, api.ErrNone},
		{bush(), 5, api.ErrNone},
		{bush(), low, api.ErrNone},
		{bush(), high, api.ErrNone},
		{net(5), 1, api.ErrNone},
		{bush(), 0, api.ErrRange},
		{net(5), 0, api.ErrRange},
		{api.Net{}, 0, api.ErrArg},
		{api.Net{}, -1, api.ErrArg},
	} {
		kept, l, e := line.Cut(c.n, c.node)
		sameNet(t, fmt.Sprint("Cut of ", c.n, c.node), kept, e, api.Net{}, c.want)
		sameList(t, fmt.Sprint("Cut of ", c.n, c.node), l, e, nil, c.want)
	}
}

func TestP3_9Graft(t *testing.T) {
	first := bush().Pipes[1:]
	other := net(70, pipe(0, 11, 4, 1, 6), pipe(1, 12, 5, 2, 7), pipe(0, 13, 6, 3, 8), pipe(2, 14, 7, 4, 9))
	with := func(l ...api.Pipe) api.Net { return net(8000, append(slices.Clone(first), l...)...) }
	for i, c := range []struct {
		n     api.Net
		node  int
		other api.Net
		want  api.Net
	}{
		{bush(), 0, net(70), bush()},
		{bush(), 4, net(0), bush()},
		{net(8000), 0, bush(), bush()},
		{net(70), 0, net(0), net(70)},
		{bush(), 0, other, with(pipe(0, 11, 4, 1, 6), pipe(5, 12, 5, 2, 7), pipe(0, 13, 6, 3, 8), pipe(6, 14, 7, 4, 9))},
		{bush(), 2, other, with(pipe(2, 11, 4, 1, 6), pipe(5, 12, 5, 2, 7), pipe(2, 13, 6, 3, 8), pipe(6, 14, 7, 4, 9))},
		{bush(), 4, other, with(pipe(4, 11, 4, 1, 6), pipe(5, 12, 5, 2, 7), pipe(4, 13, 6, 3, 8), pipe(6, 14, 7, 4, 9))},
		// As many nodes as there can be.
		{chain(30), 29, chain(31), chain(60)},
		{star(59), 0, star(2), star(60)},
		{chain(2), 1, chain(59), chain(60)},
		{chain(60), 59, net(70), chain(60)},
		{net(10000), 0, chain(60), chain(60)},
	} {
		grown, e := line.Graft(c.n, c.node, c.other)
		sameNet(t, fmt.Sprint("Graft ", i), grown, e, c.want, api.OK)
		same(t, fmt.Sprint("Check of Graft ", i), 0, line.Check(grown), 0, api.OK)
	}
}

func TestP3_9GraftErrors(t *testing.T) {
	for i, c := range []struct {
		n     api.Net
		node  int
		other api.Net
		want  api.Errno
	}{
		{api.Net{}, -1, api.Net{}, api.ErrArg},
		{api.Net{}, 0, chain(60), api.ErrArg},
		{bush(), 0, api.Net{}, api.ErrArg},
		{bush(), -1, api.Net{}, api.ErrArg},
		{chain(60), 60, chain(61), api.ErrArg},
		{chain(61), 0, chain(2), api.ErrArg},
		{bush(), -1, bush(), api.ErrNone},
		{bush(), 5, bush(), api.ErrNone},
		{bush(), 5, chain(60), api.ErrNone},
		{chain(60), 60, chain(60), api.ErrNone},
		{bush(), low, net(5), api.ErrNone},
		{bush(), high, net(5), api.ErrNone},
		{chain(60), 0, chain(2), api.ErrFull},
		{chain(2), 0, chain(60), api.ErrFull},
		{chain(30), 29, chain(32), api.ErrFull},
		{chain(60), 59, chain(60), api.ErrFull},
	} {
		grown, e := line.Graft(c.n, c.node, c.other)
		sameNet(t, fmt.Sprint("Graft ", i), grown, e, api.Net{}, c.want)
	}
	for name, bad := range badNets() {
		grown, e := line.Graft(bush(), 9, bad)
		sameNet(t, "Graft of "+name, grown, e, api.Net{}, api.ErrArg)
	}
}

// cutOff returns what Cut takes away, as tubing of its own whose pump stands for the parent of the node, and its numbers.
func cutOff(n api.Net, node int) (api.Net, []int) {
	off := net(1)
	old := []int{n.Pipes[node].Parent}
	for i, p := range n.Pipes {
		if slices.Contains(wayOf(n, i), node) {
			p.Parent = slices.Index(old, p.Parent)
			off.Pipes = append(off.Pipes, p)
			old = append(old, i)
		}
	}
	return off, old[1:]
}

// frozenIn returns which numbers frozen pipes have in other tubing, by the numbers that its nodes had.
func frozenIn(frozen, numbers []int) []int {
	var l []int
	for _, node := range frozen {
		l = append(l, slices.Index(numbers, node))
	}
	return l
}

// anyTwo returns tubing of at least two nodes, and one of them that is not the pump.
func anyTwo(d *rand.Rand) (api.Net, int) {
	n := anyNet(d, pick(d, 2, 14))
	return n, pick(d, 1, len(n.Pipes)-1)
}

func TestP3_14CutAndGrafted(t *testing.T) {
	d := dice()
	for range 1500 {
		n, node := anyTwo(d)
		flows, frozen := anyFlows(d, n), anyFrozen(d, n)
		what := fmt.Sprint(n, node, flows, frozen)
		kept, numbers, e := line.Cut(n, node)
		if e != api.OK {
			t.Fatal("Cut", what, e)
		}
		off, old := cutOff(n, node)
		again, e := line.Graft(kept, slices.Index(numbers, n.Pipes[node].Parent), off)
		if e != api.OK {
			t.Fatal("Graft", what, e)
		}
		numbers = append(numbers, old...)
		var moved, before []api.Range
		for _, i := range numbers {
			moved = append(moved, flows[i])
		}
		loads, e := line.Loads(n, flows, frozen)
		if e != api.OK {
			t.Fatal("Loads", what, e)
		}
		for _, i := range numbers {
			before = append(before, loads[i])
		}
		loads, e = line.Loads(again, moved, frozenIn(frozen, numbers))
		sameList(t, "Loads of "+what, loads, e, before, api.OK)
	}
}

func TestP3_14WaysAreKept(t *testing.T) {
	d := dice()
	for range 500 {
		n, node := anyTwo(d)
		kept, numbers, e := line.Cut(n, node)
		if e != api.OK || len(numbers) != len(kept.Pipes) || kept.Pump != n.Pump {
			t.Fatal("Cut", n, node, kept, numbers, e)
		}
		for at, old := range numbers {
			way, e := line.Way(kept, at)
			for i := range way {
				way[i] = numbers[way[i]]
			}
			sameList(t, fmt.Sprint("Way of ", n, node, at), way, e, wayOf(n, old), api.OK)
			p, q := kept.Pipes[at], n.Pipes[old]
			p.Parent, q.Parent = 0, 0
			same(t, fmt.Sprint("pipe of ", n, node, at), p, api.OK, q, api.OK)
		}
	}
}
