package maker_test

import (
	"fmt"
	"testing"

	"spile/maker"
)

// TestP13_1Grades shows rules that are looked at where they are used, their classes, and what is told of a barrel.
func TestP13_1Grades(t *testing.T) {
	told(t, maker.New(), `
		class 750 1..3 900 => ErrState
		grade keg => ErrNone
		worth keg => ErrNone
		barrel keg 30000 2000 6640..6650 180..220 740..760 => ok
		barrel keg 30000 2000 6640..6650 180..220 740..760 => ErrTwice
		grade keg => ErrState
		worth keg => ErrState
		grade new => ErrNone
		grades 0:-50,200:0,400:100 6600..6890 2 100 300 => ok
		grades 0:-50,200:0,400:100 6600..6890 2 100 300 => ErrState
		grades - 2..1 0 -1 -1 => ErrState
		grade keg => ErrArg
		class 750 1..3 900 => 1
		grade keg => ErrArg
		taster new 2..2 0 0 => ErrNone
		taster keg 2..2 0 0 => 1
		grade keg => -1,0
		class 500 2..5 800 => 2
		class 250 3..9 700 => 3
		grade keg => 0,1
		taster keg 3..4 0 0 => 2
		taster keg 3..3 0 0 => 3
		grade keg => 0,1
		worth keg => 22240..25380
		grade new => ErrNone
		worth new => ErrNone
	`)
	// With a bad taste that one taster finds surely, and another one perhaps.
	told(t, after(t, append(barrelLines()[:4], "barrel keg 30000 2000 6640..6650 180..220 740..760", "taster keg 2..2 4 4", "taster keg 3..4 0 4", "taster keg 3..3 0 0")...), `
		grade keg => -1,0,1
		worth keg => 8340..25380
	`)
}

// TestP13_1WrongGrades shows that wrong rules and barrels have their errors only where they are used.
func TestP13_1WrongGrades(t *testing.T) {
	told(t, maker.New(), `
		grades - 2..1 0 -1 -1 => ok
		class -1 9..1 -1 => 1
		barrel keg -1 -1 2..1 2..1 2..1 => ok
		taster keg 9..1 -1 -1 => 1
		grade keg => ErrArg
		worth keg => ErrArg
	`)
	m := after(t, barrelLines()[:4]...)
	told(t, m, `
		barrel cold 30000 2000 6640..6650 -1..220 740..760 => ok
		grade cold => ErrArg
		taster cold 2..2 0 0 => 1
		grade cold => ErrRange
		worth cold => ErrRange
		barrel light 2000 30000 6640..6650 180..220 740..760 => ok
		taster light 2..2 0 0 => 1
		grade light => 0,1
		worth light => ErrState
		taster light 2..1 0 0 => 2
		grade light => ErrArg
	`)
}

// TestP13_1TenBarrels shows that there are at most ten barrels, 8 classes and 20 tasters.
func TestP13_1TenBarrels(t *testing.T) {
	m := after(t, barrelLines()[0])
	for _, n := range names(10) {
		told(t, m, "barrel "+n+" 30000 2000 6640..6650 180..220 740..760 => ok")
	}
	told(t, m, `
		barrel k 30000 2000 6640..6650 180..220 740..760 => ErrFull
		barrel a 30000 2000 6640..6650 180..220 740..760 => ErrTwice
		grade k => ErrNone
		grade j => ErrArg
		tree k 20 1200..1260 5..10 3 => ok
	`)
	for i := range 8 {
		told(t, m, fmt.Sprintf("class %d 1..9 900 => %d", 700-i, i+1))
	}
	told(t, m, "class 1 1..9 900 => ErrFull\nclass -1 2..1 -1 => ErrFull\ngrade j => ErrArg")
	for i := range 20 {
		told(t, m, fmt.Sprintf("taster j 3..3 0 0 => %d", i+1))
	}
	told(t, m, `
		taster j 3..3 0 0 => ErrFull
		taster j 9..1 -1 -1 => ErrFull
		taster k 3..3 0 0 => ErrNone
		grade j => 0
		taster a 9..9 255 255 => 1
		grade a => 0
		taster a 9..9 255 255 => 2
		grade a => -1
	`)
}

// TestP13_1Ledger shows things, and where they come from.
func TestP13_1Ledger(t *testing.T) {
	told(t, maker.New(), `
		trace 0 => ErrNone
		recall 0 => ErrNone
		amount 0 0 => ErrNone
		make - 1 => ErrForm
		make 0:1 1 => ErrNone
		gather 0 => ErrRange
		gather 1000000001 => ErrRange
		gather 1000 => 0
		gather 500 => 1
		make 0:600,1:500 50 => 2
		make 0:401 1 => ErrRange
		make 0:1,0:1 1 => ErrTwice
		make 0:1 2 => ErrRange
		make 0:1 0 => ErrRange
		make 0:1,3:1 2 => ErrNone
		make - 0 => ErrForm
		trace 2 => 0,1
		trace 0 => 0
		trace 3 => ErrNone
		recall 1 => 1,2
		recall 2 => ErrArg
		recall 3 => ErrNone
		amount 2 0 => 0..50
		amount 0 0 => 1000..1000
		amount 0 1 => 0..0
		amount 2 2 => ErrArg
		amount 3 0 => ErrNone
		make 2:50,0:400 450 => 3
		amount 3 0 => 400..450
		amount 3 1 => 0..50
		trace 3 => 0,1
		recall 0 => 0,2,3
	`)
	m := maker.New()
	for i := range 200 {
		told(t, m, fmt.Sprintf("gather 5 => %d", i))
	}
	told(t, m, "gather 5 => ErrFull\ngather 0 => ErrFull\nmake - 1 => ErrFull\ntrace 199 => 199")
}
