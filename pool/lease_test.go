package pool_test

import (
	"testing"

	"spile/api"
	"spile/pool"
)

func TestP10_4Leased(t *testing.T) {
	full := api.MaxDelivered
	l := members(member(50000, 7), organic(30000, 0), member(0, 9))
	for _, c := range []struct {
		l     []api.Member
		given []api.Lease
		want  []api.Member
	}{
		{nil, nil, nil}, {l, nil, l}, {l, leases(), l}, {members(member(0, 0)), nil, members(member(0, 0))},
		{l, leases(lease(0, 1, 1)), members(member(49999, 7), organic(30001, 0), member(0, 9))},
		{l, leases(lease(1, 0, 29999)), members(member(79999, 7), organic(1, 0), member(0, 9))},
		{l, leases(lease(0, 2, 50000)), members(member(0, 7), organic(30000, 0), member(50000, 9))},
		{l, leases(lease(0, 2, 50000), lease(2, 1, 50000), lease(1, 0, 80000)), members(member(80000, 7), organic(0, 0), member(0, 9))},
		{l, leases(lease(0, 1, 20000), lease(1, 0, 20000)), l},
		{l, leases(lease(0, 1, 20000), lease(0, 1, 30000)), members(member(0, 7), organic(80000, 0), member(0, 9))},
		{l, times(30, lease(0, 2, 1000)), members(member(20000, 7), organic(30000, 0), member(30000, 9))},
		{members(member(full, 0), member(0, 0)), leases(lease(0, 1, full)), members(member(0, 0), member(full, 0))},
		{members(member(full, 0), member(full-5, 0)), leases(lease(0, 1, 5)), members(member(full-5, 0), member(full, 0))},
		{members(member(full, 0), member(full, 0), member(0, 0)), leases(lease(1, 2, 5), lease(0, 1, 5)), members(member(full-5, 0), member(full, 0), member(5, 0))},
		{append(times(29, member(1, 1)), organic(0, 0)), leases(lease(28, 29, 1), lease(29, 0, 1)), append(append(members(member(2, 1)), times(27, member(1, 1))...), member(0, 1), organic(0, 0))},
	} {
		sameLeased(t, c.l, c.given, c.want, 0, api.OK)
	}
}

func TestP10_4Errors(t *testing.T) {
	full := api.MaxDelivered
	l := members(member(50000, 7), organic(30000, 0), member(0, 9))
	great := members(member(full, 0), member(full, 0), member(full-5, 0))
	good := lease(0, 1, 100)
	for _, c := range []struct {
		l     []api.Member
		given []api.Lease
		at    int
		want  api.Errno
	}{
		{l, times(31, lease(0, 2, 1)), 0, api.ErrLong}, {l, times(31, lease(5, 5, 0)), 0, api.ErrLong}, {nil, times(31, good), 0, api.ErrLong},
		{l, leases(lease(3, 0, 1)), 0, api.ErrNone}, {l, leases(lease(0, 3, 1)), 0, api.ErrNone}, {l, leases(lease(-1, 0, 1)), 0, api.ErrNone}, {l, leases(lease(0, -1, 1)), 0, api.ErrNone}, {l, leases(lease(low, 0, 1)), 0, api.ErrNone}, {l, leases(lease(0, high, 1)), 0, api.ErrNone}, {nil, leases(lease(0, 0, 1)), 0, api.ErrNone}, {l, leases(lease(3, 3, 0)), 0, api.ErrNone}, {l, leases(good, good, lease(0, 3, 0)), 2, api.ErrNone},
		{l, leases(lease(1, 1, 1)), 0, api.ErrArg}, {l, leases(lease(1, 1, 0)), 0, api.ErrArg}, {l, leases(good, lease(0, 0, 60000)), 1, api.ErrArg}, {l, leases(lease(2, 2, 1)), 0, api.ErrArg}, {great, leases(lease(0, 0, 1)), 0, api.ErrArg},
		{l, leases(lease(0, 1, 0)), 0, api.ErrRange}, {l, leases(lease(0, 1, -1)), 0, api.ErrRange}, {l, leases(lease(0, 1, 50001)), 0, api.ErrRange}, {l, leases(lease(1, 0, 30001)), 0, api.ErrRange}, {l, leases(lease(2, 0, 1)), 0, api.ErrRange}, {l, leases(lease(0, 1, low)), 0, api.ErrRange}, {l, leases(lease(0, 1, high)), 0, api.ErrRange}, {great, leases(lease(0, 1, full+1)), 0, api.ErrRange}, {great, leases(lease(0, 1, 0)), 0, api.ErrRange}, {great, leases(lease(0, 1, -1)), 0, api.ErrRange},
		{l, leases(lease(0, 2, 50000), lease(2, 1, 50001)), 1, api.ErrRange}, {l, leases(good, lease(0, 1, 49901)), 1, api.ErrRange}, {l, leases(lease(0, 2, 1), lease(2, 0, 1), lease(2, 0, 1)), 2, api.ErrRange}, {l, append(times(29, lease(0, 2, 1)), lease(2, 0, 30)), 29, api.ErrRange},
		{great, leases(lease(0, 1, 1)), 0, api.ErrOver}, {great, leases(lease(0, 2, 6)), 0, api.ErrOver}, {great, leases(lease(0, 2, full)), 0, api.ErrOver}, {great, leases(lease(0, 2, 5), lease(1, 2, 1)), 1, api.ErrOver}, {great, leases(lease(0, 2, 5), lease(2, 1, 1)), 1, api.ErrOver},
		{l, leases(good, lease(0, 1, 0), lease(9, 0, 0), lease(1, 1, 1)), 1, api.ErrRange}, {l, leases(lease(1, 1, 1), lease(9, 0, 0)), 0, api.ErrArg}, {great, leases(lease(0, 2, 6), lease(9, 9, 9)), 0, api.ErrOver},
	} {
		sameLeased(t, c.l, c.given, nil, c.at, c.want)
	}
}

// anyLeases returns any leases, many of which can be carried out.
func anyLeases(l []api.Member, pick func(a, b int) int) []api.Lease {
	var given []api.Lease
	for range pick(0, 12) {
		from := pick(0, len(l)-1)
		given = append(given, lease(from, pick(0, len(l)-1), pick(1, max(1, l[from].Quota/pick(1, 4)))))
	}
	return given
}

// TestP10_12Leases compares any leases with the definition, and all quotas before and after them.
func TestP10_12Leases(t *testing.T) {
	d := dice()
	found := map[api.Errno]int{}
	for range 20000 {
		most := []int{10, 100000, api.MaxDelivered}[d.IntN(3)]
		l := anyMembers(d, pick(d, 2, 8), most)
		given := anyLeases(l, func(a, b int) int { return pick(d, a, b) })
		want, at, e := leasedOf(l, given)
		sameLeased(t, l, given, want, at, e)
		found[e]++
		if e != api.OK {
			continue
		}
		before, after := 0, 0
		got, _, _ := pool.Leased(l, given)
		for i := range l {
			before, after = before+l[i].Quota, after+got[i].Quota
			if got[i].Stored != l[i].Stored || got[i].Organic != l[i].Organic {
				t.Fatal("more than the quota changes:", l, given, got)
			}
		}
		if before != after {
			t.Fatal("quotas come or go:", l, given, got, before, after)
		}
	}
	for _, e := range []api.Errno{api.OK, api.ErrArg, api.ErrRange, api.ErrOver} {
		if found[e] < 100 {
			t.Error("too few with the error:", e, found)
		}
	}
}
