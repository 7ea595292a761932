package maker_test

import (
	"fmt"
	"slices"
	"strings"
	"testing"

	"spile/api"
	"spile/books"
	"spile/line"
	"spile/maker"
)

// TestP13_1Nets shows how tubing is laid.
func TestP13_1Nets(t *testing.T) {
	told(t, maker.New(), `
		pipe bush 0 1000 20 500 0 => ErrNone
		net bush -1 => ErrArg
		net bush 10001 => ErrArg
		pipe bush 0 1000 20 500 0 => ErrNone
		net bush 0 => 1
		net bush 8000 => ErrTwice
		net bush -1 => ErrTwice
		net other 10000 => 1
		pipe bush 1 1000 20 500 0 => ErrArg
		pipe bush -1 1000 20 500 0 => ErrArg
		pipe bush 0 0 20 500 0 => ErrArg
		pipe bush 0 100001 20 500 0 => ErrArg
		pipe bush 0 1000 3 500 0 => ErrArg
		pipe bush 0 1000 81 500 0 => ErrArg
		pipe bush 0 1000 20 10001 0 => ErrArg
		pipe bush 0 1000 20 -10001 0 => ErrArg
		pipe bush 0 1000 20 500 1001 => ErrArg
		pipe bush 0 1000 20 500 -1 => ErrArg
		pipe bush 0 100000 80 10000 1000 => 2
		pipe bush 1 1 4 -10000 0 => 3
		pipe other 1 1 4 -10000 0 => ErrArg
		way bush 2 => 2,1,0
		way bush 0 => 0
		way bush 3 => ErrNone
		way bush -1 => ErrNone
		way new 0 => ErrNone
	`)
}

// TestP13_1TenNets shows that there are at most ten nets, loaded ones among them.
func TestP13_1TenNets(t *testing.T) {
	m := maker.New()
	for i, n := range names(10) {
		told(t, m, []string{"net " + n + " 8000 => 1", "load " + n + " " + hexOf(10) + " => 1"}[i%2])
	}
	told(t, m, "net k 8000 => ErrFull\nnet k -1 => ErrFull\nnet a 8000 => ErrTwice\nnet j 8000 => ErrTwice\nload k "+hexOf(10)+" => ErrFull\nload k 00 => ErrFull\nload a "+hexOf(10)+" => ErrTwice\nload j 00 => ErrTwice\nway k 0 => ErrNone\nway j 0 => 0\ntree k 20 1200..1260 5..10 3 => ok")
}

// TestP13_1SixtyNodes shows that a net has at most 60 nodes.
func TestP13_1SixtyNodes(t *testing.T) {
	m := after(t, "net bush 8000")
	for i, s := range numbered(59, "pipe bush %d 1 80 0 0") {
		told(t, m, fmt.Sprintf("%s => %d", s, i+2))
	}
	told(t, m, `
		pipe bush 0 1 80 0 0 => ErrFull
		pipe bush 60 1 80 0 0 => ErrFull
		pipe new 0 1 80 0 0 => ErrNone
		flow bush 59 1..2 => ok
		flow bush 60 1..2 => ErrNone
		sensor bush 59 0..10000 => 1
	`)
	if loads := say(m, "loads bush -"); loads != strings.Repeat("1..2,", 59)+"1..2" {
		t.Error(loads)
	}
}

// TestP13_1Flows shows what comes into nodes, and what follows from it, with frozen pipes and without.
func TestP13_1Flows(t *testing.T) {
	told(t, after(t, netLines()...), `
		loads bush - => 11000..12000,11000..12000,5000..6000,6000..6000,2000..2000
		vacuum bush - => 8000..8000,7997..7997,7693..7693,7994..7994,7993..7993
		loads bush 3 => 5000..6000,5000..6000,5000..6000,6000..6000,2000..2000
		vacuum bush 3 => 8000..8000,7998..7998,7694..7694,0..0,0..0
		loads bush 1,4 => 0..0,9000..10000,5000..6000,4000..4000,2000..2000
		loads bush 4,1 => 0..0,9000..10000,5000..6000,4000..4000,2000..2000
		vacuum bush 1 => 8000..8000,0..0,0..0,0..0,0..0
		loads bush 0 => ErrNone
		loads bush 5 => ErrNone
		loads bush 1,1 => ErrTwice
		loads bush 1,1,5 => ErrTwice
		loads new 1,1 => ErrNone
		vacuum bush -1 => ErrNone
		vacuum bush 2,2 => ErrTwice
		vacuum new - => ErrNone
		loads bush - => 11000..12000,11000..12000,5000..6000,6000..6000,2000..2000
		flow bush 5 1..2 => ErrNone
		flow bush -1 1..2 => ErrNone
		flow bush 5 2..1 => ErrNone
		flow new 5 2..1 => ErrNone
		flow bush 0 2..1 => ErrArg
		flow bush 0 -1..1 => ErrArg
		flow bush 0 -2..-1 => ErrArg
		flow bush 0 0..1000000001 => ErrArg
		flow bush 0 1000000001..1000000001 => ErrArg
		flow bush 0 0..1000000000 => ok
		loads bush - => 11000..1000012000,11000..12000,5000..6000,6000..6000,2000..2000
		flow bush 0 1000000000..1000000000 => ok
		flow bush 0 7..7 => ok
		flow bush 4 0..0 => ok
		loads bush - => 9007..10007,9000..10000,5000..6000,4000..4000,0..0
		pipe bush 0 10 8 0 0 => 6
		loads bush - => 9007..10007,9000..10000,5000..6000,4000..4000,0..0,0..0
	`)
}

// TestP13_1Maps shows the bytes of tubing, and tubing of bytes.
func TestP13_1Maps(t *testing.T) {
	sum := func(b ...byte) string { return fmt.Sprintf("%x%04x", b, books.Sum(b)) }
	told(t, after(t, "net small 100", "pipe small 0 9 20 -3 1", "pipe small 0 70 8 0 0"), strings.Join([]string{
		"map small => " + sum(77, 6, 200, 1, 2, 18, 40, 5, 2, 4, 140, 1, 16, 0, 0), "map new => ErrNone",
		"load copy " + sum(77, 6, 200, 1, 2, 18, 40, 5, 2, 4, 140, 1, 16, 0, 0) + " => 3",
		"load small " + sum(77, 6, 200, 1, 2, 18, 40, 5, 2, 4, 140, 1, 16, 0, 0) + " => ErrTwice", "load small 00 => ErrTwice",
		"map copy => " + sum(77, 6, 200, 1, 2, 18, 40, 5, 2, 4, 140, 1, 16, 0, 0), "way copy 2 => 2,0", "loads copy - => 0..0,0..0,0..0",
		"load bad 00 => ErrEnd", "load bad 4d02 => ErrEnd", "load bad 4d0200 => ErrSum", "load bad " + sum(78, 2, 0) + " => ErrForm", "load bad " + sum(77, 2) + " => ErrForm",
		"way bad 0 => ErrNone", "load bad " + sum(77, 2, 0) + " => 1", "way bad 0 => 0",
	}, "\n"))
}

// TestP13_1NewTubing shows that what is loaded has neither the flows nor the sensors of what was written.
func TestP13_1NewTubing(t *testing.T) {
	m := after(t, slices.Concat(netLines(), []string{"sensor bush 3 7960..7970"})...)
	told(t, m, "load copy "+say(m, "map bush")+` => 5
		loads copy - => 0..0,0..0,0..0,0..0,0..0
		places copy 100000 3 => 0 -
		sensor copy 3 0..10 => 1
		sensor bush 3 0..10 => ErrTwice
		flow copy 1 1..2 => ok
		loads bush - => 11000..12000,11000..12000,5000..6000,6000..6000,2000..2000
		pipe copy 4 1 4 0 0 => 6
		way bush 5 => ErrNone
	`)
}

// TestP13_1Sensors shows gauges, and what they tell of leaks.
func TestP13_1Sensors(t *testing.T) {
	told(t, after(t, netLines()...), `
		places bush 100000 3 => 0 -
		sensor new 5 2..1 => ErrNone
		sensor bush 5 2..1 => ErrNone
		sensor bush -1 0..1 => ErrNone
		sensor bush 3 2..1 => ErrArg
		sensor bush 3 -1..1 => ErrArg
		sensor bush 3 0..10001 => ErrArg
		sensor bush 3 10001..10001 => ErrArg
		sensor bush 3 7960..7970 => 1
		sensor bush 3 7960..7970 => ErrTwice
		sensor bush 3 2..1 => ErrTwice
		sensor bush 5 0..0 => ErrNone
		places bush 100000 3 => 1 1,2
		places new 0 13 => ErrNone
		places bush 0 3 => ErrArg
		places bush 10000001 3 => ErrArg
		places bush 100000 0 => ErrArg
		places bush 100000 13 => ErrArg
		next bush 100000 3 => 2 1
		next new 0 13 => ErrNone
		next bush 0 3 => ErrArg
		next bush 100000 13 => ErrArg
		sensor bush 0 0..10000 => 2
		sensor bush 1 0..0 => 3
		places bush 100000 3 => ErrNone
		next bush 100000 3 => ErrNone
		sensor bush 2 0..10000 => 4
		sensor bush 4 10000..10000 => 5
	`)
	told(t, after(t, "net one 8000", "sensor one 0 8000..8000"), "places one 1 1 => 0 -\nnext one 1 1 => ErrFull")
	told(t, after(t, "net one 8000", "flow one 0 0..999999999"), "places one 1 1 => 0 -\nplaces one 1 2 => ErrArg\nplaces one 2 1 => ErrArg")
}

// TestP13_1TwentySensors shows that a net has at most 20 sensors.
func TestP13_1TwentySensors(t *testing.T) {
	m := after(t, append([]string{"net bush 8000"}, numbered(20, "pipe bush %d 1 80 0 0")...)...)
	for i, s := range numbered(20, "sensor bush %d 0..10000") {
		told(t, m, fmt.Sprintf("%s => %d", s, i+1))
	}
	told(t, m, `
		sensor bush 20 0..10000 => ErrFull
		sensor bush 21 0..10000 => ErrFull
		sensor bush 0 0..10000 => ErrFull
		sensor bush 20 0..10001 => ErrFull
		sensor new 20 0..10000 => ErrNone
		places bush 1 1 => 0 -
	`)
}

// TestP13_1Trails shows trails and walks.
func TestP13_1Trails(t *testing.T) {
	m := maker.New()
	told(t, m, `
		walk 0 - => - 0
		walk 0 1 => ErrState
		trail 0 0 5 => ErrArg
		trail 0 60 5 => ErrArg
		trail -1 0 5 => ErrArg
		trail 0 1 0 => ErrArg
		trail 0 1 10001 => ErrArg
		trail 0 1 5 => 1
		trail 1 2 4 => 2
		trail 1 3 6 => 3
		trail 2 3 3 => 4
		walk 0 2,3 => 2,3 12
		walk 0 3,2 => 2,3 12
		walk 3 0,2 => 2,0 12
		walk 0 0 => 0 0
		walk 60 2 => ErrNone
		walk -1 2 => ErrNone
		walk 0 60 => ErrNone
		walk 0 2,2 => ErrTwice
		walk 0 2,2,60 => ErrTwice
		walk 0 59 => ErrState
		walk 59 0 => ErrState
		walk 59 - => - 0
		walk 0 1,2,3,4,5,6,7,8 => ErrState
		walk 0 0,1,2,3,4,5,6,7,8 => ErrLong
		walk 60 0,1,2,3,4,5,6,7,8 => ErrNone
		trail 59 0 10000 => 5
		walk 59 0 => 0 10000
	`)
	for i := range 195 {
		told(t, m, fmt.Sprintf("trail 0 1 %d => %d", 5+i, 6+i))
	}
	told(t, m, "trail 0 1 5 => ErrLong\ntrail 0 0 0 => ErrLong\nwalk 0 2,3 => 2,3 12")
}

// TestP13_1Check shows the walk to all places that can leak, with the errors of the net and of the trails.
func TestP13_1Check(t *testing.T) {
	m := after(t, append(netLines(), "sensor bush 3 7960..7970")...)
	told(t, m, `
		check new 100000 3 0 => ErrNone
		check bush 0 3 60 => ErrArg
		check bush 100000 13 60 => ErrArg
		check bush 100000 3 60 => ErrNone
		check bush 100000 3 -1 => ErrNone
		check bush 100000 3 0 => ErrState
		trail 0 2 5 => 1
		check bush 100000 3 0 => ErrState
		trail 2 1 4 => 2
		check bush 100000 3 0 => 2,1 9
		check bush 100000 3 1 => 1,2 4
		check bush 100000 3 3 => ErrState
		sensor bush 1 0..0 => 2
		check bush 100000 3 60 => ErrNone
		check bush 100000 3 0 => ErrNone
	`)
	told(t, after(t, netLines()...), "check bush 100000 3 0 => - 0\ncheck bush 100000 3 59 => - 0\ncheck bush 100000 3 60 => ErrNone")
	// A gauge behind ten nodes that can all leak: these are more than a walk can go to.
	lines := []string{"net long 8000"}
	lines = append(lines, numbered(10, "pipe long %d 1000 10 0 0")...)
	m = after(t, append(lines, "sensor long 10 0..7900")...)
	if places := say(m, "places long 1000000 12"); len(word(places[2:]).list()) < 9 {
		t.Error(places)
	}
	told(t, m, "check long 1000000 12 0 => ErrLong\ncheck long 1000000 12 60 => ErrNone\ncheck long 1000000 13 0 => ErrArg")
}

// TestP13_4Loaded shows that what is loaded has the same ways as what was written.
func TestP13_4Loaded(t *testing.T) {
	d := dice()
	for range 50 {
		m := after(t, fmt.Sprintf("net bush %d", d.IntN(10001)))
		nodes := 1 + d.IntN(59)
		net := api.Net{Pipes: []api.Pipe{{Parent: -1}}}
		for i := range nodes {
			p := api.Pipe{Parent: d.IntN(i + 1), Length: 1 + d.IntN(100000), Bore: 4 + d.IntN(77), Drop: d.IntN(20001) - 10000, Taps: d.IntN(1001)}
			net.Pipes = append(net.Pipes, p)
			told(t, m, fmt.Sprintf("pipe bush %d %d %d %d %d => %d", p.Parent, p.Length, p.Bore, p.Drop, p.Taps, i+2))
		}
		bytes := say(m, "map bush")
		told(t, m, fmt.Sprintf("load copy %s => %d\nmap copy => %s", bytes, nodes+1, bytes))
		for i := range nodes + 2 {
			way, e := line.Way(net, i)
			one, other := say(m, fmt.Sprint("way bush ", i)), say(m, fmt.Sprint("way copy ", i))
			if one != other || one != called(listText(way), e) {
				t.Fatal(one, other, way)
			}
		}
	}
}
