package line

import (
	"slices"

	"spile/api"
	"spile/span"
)

// Loss returns the loss of vacuum in a pipe.
func Loss(p api.Pipe, flow int) (int, api.Errno) {
	if !validPipe(p, api.MaxNodes) {
		return 0, api.ErrArg
	}
	if !in(flow, 0, api.MaxNodes*api.MaxFlow) {
		return 0, api.ErrRange
	}
	return loss(p, flow), api.OK
}

// Loads returns what flows through each pipe.
func Loads(n api.Net, flows []api.Range, frozen []int) ([]api.Range, api.Errno) {
	if e := checkFlows(n, flows, frozen...); e != api.OK {
		return nil, e
	}
	return loads(n, flows, frozen...), api.OK
}

// Vacuum returns the vacuum at each node.
func Vacuum(n api.Net, flows []api.Range, frozen []int) ([]api.Range, api.Errno) {
	if e := checkFlows(n, flows, frozen...); e != api.OK {
		return nil, e
	}
	flowing := loads(n, flows, frozen...)
	vacuum := []api.Range{{Low: n.Pump, High: n.Pump}}
	for node := 1; node < len(n.Pipes); node++ {
		// Where the pipe is frozen no vacuum comes.
		var here api.Range
		if !slices.Contains(frozen, node) {
			p, load := n.Pipes[node], flowing[node]
			there := vacuum[p.Parent]
			here = api.Range{Low: vacuumBehind(p, there.Low, load.High), High: vacuumBehind(p, there.High, load.Low)}
		}
		vacuum = append(vacuum, here)
	}
	return vacuum, api.OK
}

// Tight returns the pipes through which surely, and possibly, more flows than they can carry.
func Tight(n api.Net, flows []api.Range, table []api.Row) (surely, possibly []int, e api.Errno) {
	if e := checkFlows(n, flows); e != api.OK {
		return nil, nil, e
	}
	if e := span.CheckTable(table); e != api.OK {
		return nil, nil, e
	}
	flowing := loads(n, flows)
	for node := 1; node < len(n.Pipes); node++ {
		carries, e := span.Value(table, n.Pipes[node].Bore)
		if e != api.OK {
			return nil, nil, e
		}
		// A load is a whole number: it is greater than the exact value just if it is greater than this value rounded down.
		if flowing[node].Low > carries.Low {
			surely = append(surely, node)
		}
		if flowing[node].High > carries.Low {
			possibly = append(possibly, node)
		}
	}
	return surely, possibly, api.OK
}

// checkFlows returns the error of tubing, of what comes into its nodes, and of frozen pipes.
func checkFlows(n api.Net, flows []api.Range, frozen ...int) api.Errno {
	if e := Check(n); e != api.OK {
		return e
	}
	if len(flows) != len(n.Pipes) {
		return api.ErrForm
	}
	if slices.ContainsFunc(flows, func(f api.Range) bool { return f.Low < 0 || f.Low > f.High || f.High > api.MaxFlow }) {
		return api.ErrArg
	}
	for i, node := range frozen {
		if !in(node, 1, len(n.Pipes)-1) {
			return api.ErrNone
		}
		if slices.Contains(frozen[:i], node) {
			return api.ErrTwice
		}
	}
	return api.OK
}

// loads returns the loads of the nodes of valid tubing.
func loads(n api.Net, flows []api.Range, frozen ...int) []api.Range {
	all := slices.Clone(flows)
	for node := len(all) - 1; node > 0; node-- {
		if !slices.Contains(frozen, node) {
			parent := n.Pipes[node].Parent
			all[parent].Low += all[node].Low
			all[parent].High += all[node].High
		}
	}
	return all
}

// loss returns by how much the vacuum falls in a valid pipe.
func loss(p api.Pipe, flow int) int {
	by := 10000 * p.Bore * p.Bore
	return (p.Length*flow+by-1)/by + 10*max(0, -p.Drop)
}

// vacuumBehind returns the vacuum behind a pipe, by that in front of it.
func vacuumBehind(p api.Pipe, vacuum, flow int) int {
	return max(0, vacuum-loss(p, flow))
}
