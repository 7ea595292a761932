package span_test

import (
	"fmt"
	"math/rand/v2"
	"slices"
	"testing"

	"spile/api"
	"spile/span"
)

// rows returns a table with so many rows.
func rows(n int) []api.Row {
	var t []api.Row
	for i := range n {
		t = append(t, api.Row{X: 3 * i, Y: i % 2 * 10})
	}
	return t
}

var badTables = [][]api.Row{
	nil, {}, rows(1), rows(61), table(1, 0, 1, 0), table(2, 0, 1, 0), table(0, 0, 5, 0, 5, 1), table(0, 0, 5, 0, 4, 1),
	table(0, 0, far+1, 0), table(-far-1, 0, 0, 0), table(0, far+1, 1, 0), table(0, 0, 1, -far-1), table(low, low, high, high),
}

var hill = table(0, 0, 10, 30, 20, 10)

func TestP1_11CheckTable(t *testing.T) {
	for i, bad := range badTables {
		if e := span.CheckTable(bad); e != api.ErrArg {
			t.Error("CheckTable", i, bad, e)
		}
		got, e := span.Value(bad, -7)
		same(t, fmt.Sprint("Value of bad ", i), got, e, r(0, 0), api.ErrArg)
		got, e = span.Values(bad, r(-7, -7))
		same(t, fmt.Sprint("Values of bad ", i), got, e, r(0, 0), api.ErrArg)
		set, e := span.Where(bad, r(-most, most))
		sameList(t, fmt.Sprint("Where of bad ", i), set, e, nil, api.ErrArg)
	}
	for i, good := range [][]api.Row{hill, rows(2), rows(60), table(-far, -far, far, far), table(-far, far, -far+1, -far), table(0, 0, 1, 0)} {
		if e := span.CheckTable(good); e != api.OK {
			t.Error("CheckTable of good", i, good, e)
		}
	}
}

func TestP1_11Value(t *testing.T) {
	for _, c := range []struct {
		t    []api.Row
		x    int
		want api.Range
		e    api.Errno
	}{
		{hill, 5, one(15), api.OK},
		{hill, 13, one(24), api.OK},
		{hill, 0, one(0), api.OK},
		{hill, 10, one(30), api.OK},
		{hill, 20, one(10), api.OK},
		{table(0, 0, 3, 1), 1, r(0, 1), api.OK},
		{table(0, 0, 3, -1), 1, r(-1, 0), api.OK},
		{table(0, -5, 3, -4), 2, r(-5, -4), api.OK},
		{table(-3, 7, 3, 7), 1, one(7), api.OK},
		{table(-far, -far, far, far), 12345, one(12345), api.OK},
		{table(-far, far, far, -far), far - 1, one(1 - far), api.OK},
		{table(-far, far, far, -far+1), 0, r(0, 1), api.OK},
		{rows(60), 177, one(10), api.OK},
		{rows(60), 178, r(0, 0), api.ErrRange},
		{hill, -1, r(0, 0), api.ErrRange},
		{hill, 21, r(0, 0), api.ErrRange},
		{hill, low, r(0, 0), api.ErrRange},
		{hill, high, r(0, 0), api.ErrRange},
	} {
		got, e := span.Value(c.t, c.x)
		same(t, fmt.Sprint("Value ", c.t, c.x), got, e, c.want, c.e)
	}
}

func TestP1_11Values(t *testing.T) {
	for _, c := range []struct {
		t    []api.Row
		a    api.Range
		want api.Range
		e    api.Errno
	}{
		{hill, r(5, 13), r(15, 30), api.OK},
		{hill, r(0, 20), r(0, 30), api.OK},
		{hill, r(2, 4), r(6, 12), api.OK},
		{hill, r(10, 10), one(30), api.OK},
		{hill, r(11, 20), r(10, 28), api.OK},
		{table(0, 0, 3, 1), r(1, 2), r(0, 1), api.OK},
		{table(0, 5, 5, -5, 10, 5), r(3, 8), r(-5, 1), api.OK},
		{table(0, 5, 5, -5, 10, 5), r(0, 4), r(-3, 5), api.OK},
		{hill, r(-1, 5), r(0, 0), api.ErrRange},
		{hill, r(5, 21), r(0, 0), api.ErrRange},
		{hill, r(-9, -5), r(0, 0), api.ErrRange},
		{hill, r(22, 25), r(0, 0), api.ErrRange},
		{hill, r(22, 21), r(0, 0), api.ErrArg},
	} {
		got, e := span.Values(c.t, c.a)
		same(t, fmt.Sprint("Values ", c.t, c.a), got, e, c.want, c.e)
	}
	for _, bad := range badRanges {
		got, e := span.Values(hill, bad)
		same(t, fmt.Sprint("Values at ", bad), got, e, r(0, 0), api.ErrArg)
	}
}

func TestP1_12Where(t *testing.T) {
	for _, c := range []struct {
		t    []api.Row
		y    api.Range
		want []api.Range
	}{
		{hill, r(15, 24), set(r(5, 8), r(13, 17))},
		{hill, r(0, 30), set(r(0, 20))},
		{hill, r(30, 30), set(one(10))},
		{hill, r(31, 99), nil},
		{hill, r(-99, -1), nil},
		{hill, r(10, 10), set(one(20))},
		{hill, r(28, 29), set(one(11))},
		{hill, r(26, 30), set(r(9, 12))},
		{hill, r(0, 0), set(one(0))},
		{hill, r(13, 14), set(one(18))},
		{table(0, 0, 3, 1), r(0, 0), set(one(0))},
		{table(0, 0, 3, 1), r(1, 1), set(one(3))},
		{table(0, 0, 3, 1), r(0, 1), set(r(0, 3))},
		{table(0, 0, 2, 1, 4, 0), r(0, 0), set(one(0), one(4))},
		{table(0, 5, 4, 5, 8, 5), r(5, 5), set(r(0, 8))},
		{table(0, 5, 4, 5, 8, 6), r(5, 5), set(r(0, 4))},
		{table(0, 5, 4, 5), r(6, 9), nil},
		{table(0, 5, 4, 5), r(1, 4), nil},
		{table(0, 9, 1, 0, 2, 9), r(5, 9), set(one(0), one(2))},
		{table(0, 0, 1, 9, 2, 9, 3, 0), r(5, 9), set(r(1, 2))},
		{table(0, 1, 1, 9, 2, 1), r(1, 1), set(one(0), one(2))},
		{table(-far, -far, far, far), r(-most, -far+10), set(r(-far, -far+10))},
		{table(-far, far, far, -far), r(far-10, most), set(r(-far, -far+10))},
		{table(-far, -far, far, far), r(-most, most), set(r(-far, far))},
		{table(-far, 0, far, 1), r(-most, 0), set(one(-far))},
		{table(-far, 0, far, 1), r(1, most), set(one(far))},
		{table(-far, 1, far, 0), r(-most, 0), set(one(far))},
		{table(-far, 0, far, 1), r(most, most), nil},
		{table(-far, 0, far, 1), r(-most, -most), nil},
	} {
		got, e := span.Where(c.t, c.y)
		sameList(t, fmt.Sprint("Where ", c.t, c.y), got, e, c.want, api.OK)
	}
	for _, bad := range badRanges {
		got, e := span.Where(hill, bad)
		sameList(t, fmt.Sprint("Where for ", bad), got, e, nil, api.ErrArg)
	}
	got, e := span.Where(rows(60), r(10, 10))
	if len(got) != 30 || e != api.OK {
		t.Error("Where of 60 rows", got, e)
	}
}

// pickTable returns a small table.
func pickTable(d *rand.Rand) []api.Row {
	x := pick(d, -20, 0)
	t := table(x, pick(d, -9, 9))
	for range pick(d, 1, 6) {
		x += pick(d, 1, 8)
		t = append(t, api.Row{X: x, Y: pick(d, -9, 9)})
	}
	return t
}

// exact returns the value at x as a fraction.
func exact(t []api.Row, x int) (num, den int) {
	i, ok := slices.BinarySearchFunc(t, x, func(row api.Row, x int) int { return row.X - x })
	if ok {
		return t[i].Y, 1
	}
	a, b := t[i-1], t[i]
	return a.Y*(b.X-a.X) + (b.Y-a.Y)*(x-a.X), b.X - a.X
}

func TestP1_20Tables(t *testing.T) {
	d := dice()
	for range 2000 {
		rows, y := pickTable(d), pickRange(d, -11, 11)
		all := r(rows[0].X, rows[len(rows)-1].X)
		where, e := span.Where(rows, y)
		if f := span.CheckSet(where); e != api.OK || f != api.OK {
			t.Fatal("Where", rows, y, where, e, f)
		}
		at := within(d, all)
		var values []api.Range
		for x := all.Low; x <= all.High; x++ {
			num, den := exact(rows, x)
			value, e := span.Value(rows, x)
			same(t, fmt.Sprint("Value ", rows, x), value, e, r(int(down(num, 1, den).Int64()), int(up(num, 1, den).Int64())), api.OK)
			if lies := y.Low*den <= num && num <= y.High*den; lies != member(where, x) {
				t.Error("Where", rows, y, where, "at", x)
			}
			if at.Low <= x && x <= at.High {
				values = append(values, value)
			}
		}
		want, _ := span.Hull(values)
		got, e := span.Values(rows, at)
		same(t, fmt.Sprint("Values ", rows, at), got, e, want, api.OK)
	}
}
