package maker_test

import (
	"encoding/hex"
	"fmt"
	"maps"
	"regexp"
	"slices"
	"strings"
	"sync"

	"spile/api"
	"spile/barrel"
	"spile/books"
	"spile/candy"
	"spile/leak"
	"spile/line"
	"spile/pan"
	"spile/pool"
	"spile/season"
	"spile/thaw"
	"spile/trunk"
	"spile/vat"
)

// world is a maker by the definitions of the chapter, with other means: forms are patterns, and texts are printed.
type world struct {
	tapRules   *api.TapRules
	trees      map[string]api.Tree
	nets       map[string]tubes
	trails     []api.Trail
	thawRules  *api.ThawRules
	hours      []api.Range
	cellar     *vat.Cellar
	pans       []api.Pan
	acts       []api.PanAct
	grades     *api.GradeRules
	barrels    map[string]api.BarrelTest
	brought    []string
	ledger     *barrel.Ledger
	outlook    *api.Outlook
	poolRules  *api.PoolRules
	members    []api.Member
	deliveries []api.Delivery
	candyRules *api.CandyRules
	batch      *api.Sap
	treated    []api.CandyAct
	book       []api.BookEntry
}

// tubes is a net.
type tubes struct {
	net     api.Net
	flows   []api.Range
	sensors []api.Sensor
}

// watched returns a net whose leaks are asked for.
func (n tubes) watched(air, steps int) api.Watch {
	return api.Watch{Net: n.net, Flows: n.flows, Sensors: n.sensors, Air: air, Steps: steps}
}

func newWorld() *world {
	return &world{trees: map[string]api.Tree{}, nets: map[string]tubes{}, barrels: map[string]api.BarrelTest{}, ledger: barrel.NewLedger()}
}

// word is a word that has its form.
type word string

func (a word) n() int {
	n := 0
	fmt.Sscanf(string(a), "%d", &n)
	return n
}

func (a word) r() api.Range {
	var r api.Range
	fmt.Sscanf(string(a), "%d..%d", &r.Low, &r.High)
	return r
}

func (a word) sap() api.Sap {
	var s api.Sap
	fmt.Sscanf(string(a), "%d+%d", &s.Water, &s.Sugar)
	return s
}

func (a word) row() api.Row {
	var r api.Row
	fmt.Sscanf(string(a), "%d:%d", &r.X, &r.Y)
	return r
}

func (a word) list() []int         { return parts(a, word.n) }
func (a word) ranges() []api.Range { return parts(a, word.r) }
func (a word) rows() []api.Row     { return parts(a, word.row) }

func (a word) bytes() []byte {
	b, _ := hex.DecodeString(string(a))
	return b
}

// parts returns what is between the commas of a word.
func parts[T any](a word, read func(word) T) []T {
	if a == "-" {
		return nil
	}
	var l []T
	for _, s := range strings.Split(string(a), ",") {
		l = append(l, read(word(s)))
	}
	return l
}

// patterns returns what words of each form look like.
var patterns = sync.OnceValue(func() map[string]*regexp.Regexp {
	number := `(0|-?[1-9][0-9]{0,14}|-?1000000000000000)`
	of := func(between string) string { return number + between + number }
	list := func(one string) string { return `(-|` + one + `(,` + one + `)*)` }
	all := map[string]*regexp.Regexp{}
	for form, pattern := range map[string]string{
		"NAME": `[a-z]{1,12}`, "INT": number, "RANGE": of(`\.\.`), "SAP": of(`\+`), "LIST": list(number), "RANGES": list(of(`\.\.`)), "ROWS": list(of(`:`)),
		"HEX": `([0-9a-f][0-9a-f])+`, "WORD": `(?s:.+)`,
	} {
		all[form] = regexp.MustCompile(`\A` + pattern + `\z`)
	}
	return all
})

// Texts of what is returned.
func rangeText(r api.Range) string { return fmt.Sprintf("%d..%d", r.Low, r.High) }
func sapText(s api.Sap) string     { return fmt.Sprintf("%d+%d", s.Water, s.Sugar) }
func numberText(n int) string      { return fmt.Sprint(n) }
func listText(l []int) string      { return texts(l, numberText) }
func rangesText(l []api.Range) string {
	return texts(l, rangeText)
}

func texts[T any](l []T, text func(T) string) string {
	if len(l) == 0 {
		return "-"
	}
	s := ""
	for i, x := range l {
		if i > 0 {
			s += ","
		}
		s += text(x)
	}
	return s
}

func angleText(l []api.Spot) string {
	return texts(l, func(s api.Spot) string { return fmt.Sprint(s.Angle) })
}

// line carries out a line.
func (w *world) line(s string) (string, api.Errno) {
	if len(s) > 4000 {
		return "", api.ErrLong
	}
	words := strings.Split(s, " ")
	c, ok := chapter()[words[0]]
	forms := strings.Fields(c.forms)
	if !ok || len(forms) != len(words)-1 {
		return "", api.ErrForm
	}
	var a []word
	for i, form := range forms {
		if !patterns()[form].MatchString(words[i+1]) {
			return "", api.ErrForm
		}
		a = append(a, word(words[i+1]))
	}
	text, e := c.do(w, a)
	if e != api.OK {
		return "", e
	}
	return text, api.OK
}

// created returns the error of a new name.
func created[T any](l map[string]T, n word) api.Errno {
	if _, ok := l[string(n)]; ok {
		return api.ErrTwice
	}
	if len(l) == 10 {
		return api.ErrFull
	}
	return api.OK
}

// there returns the error of a name.
func there[T any](l map[string]T, n word) api.Errno {
	if _, ok := l[string(n)]; !ok {
		return api.ErrNone
	}
	return api.OK
}

// isSet returns the error of a part that is not set, and isFree that of one that is.
func isSet[T any](part *T) api.Errno {
	if part == nil {
		return api.ErrState
	}
	return api.OK
}

func isFree[T any](part *T) api.Errno {
	if part != nil {
		return api.ErrState
	}
	return api.OK
}

// room returns the error of a list that has so many things already.
func room[T any](l []T, most int) api.Errno {
	if len(l) == most {
		return api.ErrFull
	}
	return api.OK
}

// unless returns an error unless something holds.
func unless(holds bool, e api.Errno) api.Errno {
	if holds {
		return api.OK
	}
	return e
}

// first returns the first error.
func first(l ...api.Errno) api.Errno {
	for _, e := range l {
		if e != api.OK {
			return e
		}
	}
	return api.OK
}

// definition is what a table says of a command.
type definition struct {
	forms string
	do    func(w *world, a []word) (string, api.Errno)
}

// chapter returns all tables.
func chapter() map[string]definition {
	all := map[string]definition{}
	for _, table := range []map[string]definition{treeTable(), netTable(), leakTable(), weatherTable(), tankTable(), panTable(), barrelTable(), seasonTable(), poolTable(), candyTable(), bookTable()} {
		maps.Copy(all, table)
	}
	return all
}

func treeTable() map[string]definition {
	return map[string]definition{
		"taprules": {"RANGE RANGE RANGE INT RANGE ROWS LIST INT", func(w *world, a []word) (string, api.Errno) {
			r := api.TapRules{Side: a[0].r(), Up: a[1].r(), Heal: a[2].r(), Apart: a[3].n(), Between: a[4].r(), Open: a[7].n()}
			for _, x := range a[5].rows() {
				r.Sizes = append(r.Sizes, api.Size{Girth: x.X, Taps: x.Y})
			}
			healths := a[6].list()
			for i, n := range healths {
				r.Healths[min(i, 4)] = n
			}
			if e := first(isFree(w.tapRules), unless(len(healths) == 5, api.ErrForm), trunk.CheckRules(r)); e != api.OK {
				return "", e
			}
			w.tapRules = &r
			return "ok", api.OK
		}},
		"tree": {"NAME INT RANGE RANGE INT", func(w *world, a []word) (string, api.Errno) {
			t := api.Tree{Year: a[1].n(), Girth: a[2].r(), Grow: a[3].r(), Health: a[4].n()}
			if e := first(created(w.trees, a[0]), trunk.CheckTree(t)); e != api.OK {
				return "", e
			}
			w.trees[string(a[0])] = t
			return "ok", api.OK
		}},
		"hole": {"NAME INT INT INT", func(w *world, a []word) (string, api.Errno) {
			t := w.trees[string(a[0])]
			full := room(t.Holes, 60)
			t.Holes = append(slices.Clone(t.Holes), api.Hole{Year: a[1].n(), Spot: api.Spot{Angle: a[2].n(), Height: a[3].n()}})
			if e := first(there(w.trees, a[0]), full, trunk.CheckTree(t)); e != api.OK {
				return "", e
			}
			w.trees[string(a[0])] = t
			return fmt.Sprint(len(t.Holes)), api.OK
		}},
		"taps": {"NAME INT", func(w *world, a []word) (string, api.Errno) {
			if e := first(there(w.trees, a[0]), isSet(w.tapRules)); e != api.OK {
				return "", e
			}
			r, e := trunk.Taps(w.trees[string(a[0])], *w.tapRules, a[1].n())
			return rangeText(r), e
		}},
		"free": {"NAME INT INT", func(w *world, a []word) (string, api.Errno) {
			if e := first(there(w.trees, a[0]), isSet(w.tapRules)); e != api.OK {
				return "", e
			}
			l, e := trunk.Free(w.trees[string(a[0])], *w.tapRules, a[1].n(), a[2].n())
			return rangesText(l), e
		}},
		"drill": {"NAME INT INT INT", func(w *world, a []word) (string, api.Errno) {
			if e := first(there(w.trees, a[0]), isSet(w.tapRules)); e != api.OK {
				return "", e
			}
			t := w.trees[string(a[0])]
			l, e := trunk.Spots(t, *w.tapRules, a[1].n(), a[2].n(), a[3].n())
			if e != api.OK {
				return "", e
			}
			_, rule, e := trunk.Keeps(t, *w.tapRules, a[1].n(), l)
			after, wrong := trunk.Drill(t, a[1].n(), l)
			if e := first(e, unless(rule == 0, api.ErrState), wrong); e != api.OK {
				return "", e
			}
			w.trees[string(a[0])] = after
			return angleText(l), api.OK
		}},
		"rota": {"NAME INT INT LIST INT", func(w *world, a []word) (string, api.Errno) {
			if e := first(there(w.trees, a[0]), isSet(w.tapRules)); e != api.OK {
				return "", e
			}
			plan, _, e := trunk.Rota(w.trees[string(a[0])], *w.tapRules, a[1].n(), a[2].n(), a[3].list(), a[4].n())
			if e != api.OK || len(plan) == 0 {
				return "-", e
			}
			text := angleText(plan[0])
			for _, l := range plan[1:] {
				text += " / " + angleText(l)
			}
			return text, api.OK
		}},
	}
}

func netTable() map[string]definition {
	within := func(r api.Range, most int) bool { return r.Low >= 0 && r.Low <= r.High && r.High <= most }
	return map[string]definition{
		"net": {"NAME INT", func(w *world, a []word) (string, api.Errno) {
			n := tubes{api.Net{Pump: a[1].n(), Pipes: []api.Pipe{{Parent: -1}}}, []api.Range{{}}, nil}
			if e := first(created(w.nets, a[0]), line.Check(n.net)); e != api.OK {
				return "", e
			}
			w.nets[string(a[0])] = n
			return "1", api.OK
		}},
		"pipe": {"NAME INT INT INT INT INT", func(w *world, a []word) (string, api.Errno) {
			n := w.nets[string(a[0])]
			full := room(n.net.Pipes, 60)
			n.net.Pipes = append(slices.Clone(n.net.Pipes), api.Pipe{Parent: a[1].n(), Length: a[2].n(), Bore: a[3].n(), Drop: a[4].n(), Taps: a[5].n()})
			n.flows = append(slices.Clone(n.flows), api.Range{})
			if e := first(there(w.nets, a[0]), full, line.Check(n.net)); e != api.OK {
				return "", e
			}
			w.nets[string(a[0])] = n
			return fmt.Sprint(len(n.net.Pipes)), api.OK
		}},
		"flow": {"NAME INT RANGE", func(w *world, a []word) (string, api.Errno) {
			n, node := w.nets[string(a[0])], a[1].n()
			if e := first(there(w.nets, a[0]), unless(node >= 0 && node < len(n.flows), api.ErrNone), unless(within(a[2].r(), 1000000000), api.ErrArg)); e != api.OK {
				return "", e
			}
			n.flows = slices.Clone(n.flows)
			n.flows[node] = a[2].r()
			w.nets[string(a[0])] = n
			return "ok", api.OK
		}},
		"way": {"NAME INT", func(w *world, a []word) (string, api.Errno) {
			l, e := line.Way(w.nets[string(a[0])].net, a[1].n())
			return listText(l), first(there(w.nets, a[0]), e)
		}},
		"loads": {"NAME LIST", func(w *world, a []word) (string, api.Errno) {
			n := w.nets[string(a[0])]
			l, e := line.Loads(n.net, n.flows, a[1].list())
			return rangesText(l), first(there(w.nets, a[0]), e)
		}},
		"vacuum": {"NAME LIST", func(w *world, a []word) (string, api.Errno) {
			n := w.nets[string(a[0])]
			l, e := line.Vacuum(n.net, n.flows, a[1].list())
			return rangesText(l), first(there(w.nets, a[0]), e)
		}},
		"map": {"NAME", func(w *world, a []word) (string, api.Errno) {
			b, e := books.WriteMap(w.nets[string(a[0])].net)
			return fmt.Sprintf("%x", b), first(there(w.nets, a[0]), e)
		}},
		"load": {"NAME HEX", func(w *world, a []word) (string, api.Errno) {
			n, e := books.ReadMap(a[1].bytes())
			if e := first(created(w.nets, a[0]), e); e != api.OK {
				return "", e
			}
			w.nets[string(a[0])] = tubes{n, make([]api.Range, len(n.Pipes)), nil}
			return fmt.Sprint(len(n.Pipes)), api.OK
		}},
		"sensor": {"NAME INT RANGE", func(w *world, a []word) (string, api.Errno) {
			n, node := w.nets[string(a[0])], a[1].n()
			same := slices.ContainsFunc(n.sensors, func(s api.Sensor) bool { return s.Node == node })
			if e := first(there(w.nets, a[0]), room(n.sensors, 20), unless(node >= 0 && node < len(n.flows), api.ErrNone), unless(!same, api.ErrTwice), unless(within(a[2].r(), 10000), api.ErrArg)); e != api.OK {
				return "", e
			}
			n.sensors = append(slices.Clone(n.sensors), api.Sensor{Node: node, Reading: a[2].r()})
			w.nets[string(a[0])] = n
			return fmt.Sprint(len(n.sensors)), api.OK
		}},
	}
}

func leakTable() map[string]definition {
	return map[string]definition{
		"places": {"NAME INT INT", func(w *world, a []word) (string, api.Errno) {
			leaks, l, e := leak.Places(w.nets[string(a[0])].watched(a[1].n(), a[2].n()))
			return fmt.Sprint(leaks, " ", listText(l)), first(there(w.nets, a[0]), e)
		}},
		"next": {"NAME INT INT", func(w *world, a []word) (string, api.Errno) {
			node, left, e := leak.Next(w.nets[string(a[0])].watched(a[1].n(), a[2].n()))
			return fmt.Sprint(node, " ", left), first(there(w.nets, a[0]), e)
		}},
		"trail": {"INT INT INT", func(w *world, a []word) (string, api.Errno) {
			all := append(slices.Clone(w.trails), api.Trail{A: a[0].n(), B: a[1].n(), Minutes: a[2].n()})
			if e := leak.CheckTrails(60, all); e != api.OK {
				return "", e
			}
			w.trails = all
			return fmt.Sprint(len(all)), api.OK
		}},
		"walk": {"INT LIST", func(w *world, a []word) (string, api.Errno) {
			l, minutes, e := leak.Walk(60, w.trails, a[0].n(), a[1].list(), false)
			return fmt.Sprint(listText(l), " ", minutes), e
		}},
		"check": {"NAME INT INT INT", func(w *world, a []word) (string, api.Errno) {
			_, nodes, e := leak.Places(w.nets[string(a[0])].watched(a[1].n(), a[2].n()))
			l, minutes, wrong := leak.Walk(60, w.trails, a[3].n(), nodes, false)
			return fmt.Sprint(listText(l), " ", minutes), first(there(w.nets, a[0]), e, wrong)
		}},
	}
}

func weatherTable() map[string]definition {
	return map[string]definition{
		"thawrules": {"INT INT INT INT INT INT INT RANGE INT", func(w *world, a []word) (string, api.Errno) {
			r := api.ThawRules{Frost: a[0].n(), Thaw: a[1].n(), Gain: a[2].n(), Full: a[3].n(), Ice: a[4].n(), Most: a[5].n(), Melt: a[6].n(), Rate: a[7].r(), Pull: a[8].n()}
			if e := first(isFree(w.thawRules), thaw.Check(r, api.ThawState{}, nil)); e != api.OK {
				return "", e
			}
			w.thawRules = &r
			return "ok", api.OK
		}},
		"weather": {"RANGES", func(w *world, a []word) (string, api.Errno) {
			if w.thawRules == nil {
				return "", api.ErrState
			}
			all := append(slices.Clone(w.hours), a[0].ranges()...)
			if e := thaw.Check(*w.thawRules, api.ThawState{}, all); e != api.OK {
				return "", e
			}
			w.hours = all
			return fmt.Sprint(len(all)), api.OK
		}},
		"runs": {"", func(w *world, a []word) (string, api.Errno) {
			if w.thawRules == nil {
				return "", api.ErrState
			}
			r, e := thaw.Runs(*w.thawRules, api.ThawState{}, w.hours)
			return rangeText(r), e
		}},
		"daily": {"", func(w *world, a []word) (string, api.Errno) {
			if w.thawRules == nil {
				return "", api.ErrState
			}
			l, e := thaw.Daily(*w.thawRules, api.ThawState{}, w.hours)
			return rangesText(l), e
		}},
		"begin": {"", func(w *world, a []word) (string, api.Errno) {
			if w.thawRules == nil {
				return "", api.ErrState
			}
			possibly, surely, e := thaw.First(*w.thawRules, api.ThawState{}, w.hours)
			return fmt.Sprint(possibly, " ", surely), e
		}},
		"crop": {"NAME", func(w *world, a []word) (string, api.Errno) {
			if e := first(there(w.nets, a[0]), isSet(w.thawRules)); e != api.OK {
				return "", e
			}
			n := w.nets[string(a[0])]
			hours, e := thaw.Runs(*w.thawRules, api.ThawState{}, w.hours)
			vacuums, wrong := line.Vacuum(n.net, n.flows, nil)
			var groups []api.TapGroup
			for i, v := range vacuums {
				if taps := n.net.Pipes[i].Taps; taps > 0 {
					groups = append(groups, api.TapGroup{Taps: taps, Vacuum: v})
				}
			}
			r, last := thaw.Crop(*w.thawRules, groups, hours)
			return rangeText(r), first(e, wrong, last)
		}},
	}
}

func tankTable() map[string]definition {
	// with returns a definition that needs the cellar.
	with := func(forms string, do func(c *vat.Cellar, a []word) (string, api.Errno)) definition {
		return definition{forms, func(w *world, a []word) (string, api.Errno) {
			if w.cellar == nil {
				return "", api.ErrState
			}
			return do(w.cellar, a)
		}}
	}
	return map[string]definition{
		"tanks": {"ROWS INT RANGE LIST", func(w *world, a []word) (string, api.Errno) {
			c, e := vat.New(api.VatRules{Growth: a[0].rows(), Limit: a[1].n(), Film: a[2].r()}, a[3].list())
			if e := first(isFree(w.cellar), e); e != api.OK {
				return "", e
			}
			w.cellar = c
			return "ok", api.OK
		}},
		"pour": with("INT SAP RANGE", func(c *vat.Cellar, a []word) (string, api.Errno) {
			return "ok", c.Pour(a[0].n(), a[1].sap(), a[2].r())
		}),
		"draw": with("INT INT", func(c *vat.Cellar, a []word) (string, api.Errno) {
			d, e := c.Draw(a[0].n(), a[1].n())
			return fmt.Sprint(sapText(d.Sap), " ", rangeText(d.Load), " ", rangeText(d.Age)), e
		}),
		"move": with("INT INT INT", func(c *vat.Cellar, a []word) (string, api.Errno) {
			return "ok", c.Move(a[0].n(), a[1].n(), a[2].n())
		}),
		"dump": with("INT", func(c *vat.Cellar, a []word) (string, api.Errno) {
			s, e := c.Dump(a[0].n())
			return sapText(s), e
		}),
		"wash": with("INT", func(c *vat.Cellar, a []word) (string, api.Errno) { return "ok", c.Wash(a[0].n()) }),
		"stay": with("INT RANGE", func(c *vat.Cellar, a []word) (string, api.Errno) { return "ok", c.Stay(a[0].n(), a[1].r()) }),
		"tank": with("INT", func(c *vat.Cellar, a []word) (string, api.Errno) {
			t, e := c.Tell(a[0].n())
			return fmt.Sprint(sapText(t.Sap), " ", t.Lots, " ", rangeText(t.Load), " ", rangeText(t.Film), " ", t.Possibly, " ", t.Surely), e
		}),
		"cellar": with("", func(c *vat.Cellar, a []word) (string, api.Errno) {
			b, e := c.Book()
			return fmt.Sprint(sapText(b.In), " ", sapText(b.Out), " ", sapText(b.Lost), " ", sapText(b.Held)), e
		}),
		"rounds": {"SAP INT INT INT", func(w *world, a []word) (string, api.Errno) {
			kept, gone, e := vat.Rounds(a[0].sap(), a[1].n(), a[2].n(), a[3].n())
			return fmt.Sprint(sapText(kept), " ", sapText(gone)), e
		}},
	}
}

func panTable() map[string]definition {
	// boil returns all pans and acts, for so many minutes.
	boil := func(w *world, a []word) (api.Boil, []api.Range) {
		return api.Boil{Pans: w.pans, Minutes: a[0].n(), Acts: w.acts}, a[1].ranges()
	}
	return map[string]definition{
		"pan": {"INT INT INT INT INT INT INT INT", func(w *world, a []word) (string, api.Errno) {
			all := append(slices.Clone(w.pans), api.Pan{Low: a[0].n(), High: a[1].n(), Least: a[2].n(), Most: a[3].n(), Cool: a[4].n(), Hot: a[5].n(), Dry: a[6].n(), Rim: a[7].n()})
			if e := first(room(w.pans, 6), pan.Check(api.Boil{Pans: all})); e != api.OK {
				return "", e
			}
			w.pans = all
			return fmt.Sprint(len(all)), api.OK
		}},
		"act": {"INT INT INT INT", func(w *world, a []word) (string, api.Errno) {
			if e := room(w.acts, 60); e != api.OK {
				return "", e
			}
			w.acts = append(w.acts, api.PanAct{Minute: a[0].n(), Kind: api.PanActKind(a[1].n()), Pan: a[2].n(), Amount: a[3].n()})
			return fmt.Sprint(len(w.acts)), api.OK
		}},
		"levels": {"INT RANGES", func(w *world, a []word) (string, api.Errno) {
			b, start := boil(w, a)
			l, _, e := pan.Levels(b, start)
			if len(l) == 0 {
				return "-", e
			}
			return rangesText(l[len(l)-1]), e
		}},
		"dry": {"INT RANGES", func(w *world, a []word) (string, api.Errno) {
			b, start := boil(w, a)
			p, minute, _, e := pan.Dry(b, start)
			return fmt.Sprint(p, " ", minute), e
		}},
		"hottest": {"INT RANGES", func(w *world, a []word) (string, api.Errno) {
			b, start := boil(w, a)
			n, e := pan.Hottest(b, start)
			return fmt.Sprint(n), e
		}},
	}
}

func barrelTable() map[string]definition {
	return map[string]definition{
		"grades": {"ROWS RANGE INT INT INT", func(w *world, a []word) (string, api.Errno) {
			if w.grades != nil {
				return "", api.ErrState
			}
			w.grades = &api.GradeRules{Correction: a[0].rows(), Density: a[1].r(), Bad: a[2].n(), Scale: a[3].n(), Price: a[4].n()}
			return "ok", api.OK
		}},
		"class": {"INT RANGE INT", func(w *world, a []word) (string, api.Errno) {
			if w.grades == nil {
				return "", api.ErrState
			}
			if e := room(w.grades.Classes, 8); e != api.OK {
				return "", e
			}
			w.grades.Classes = append(w.grades.Classes, api.GradeClass{Least: a[0].n(), Flavour: a[1].r(), Price: a[2].n()})
			return fmt.Sprint(len(w.grades.Classes)), api.OK
		}},
		"barrel": {"NAME INT INT RANGE RANGE RANGE", func(w *world, a []word) (string, api.Errno) {
			if e := created(w.barrels, a[0]); e != api.OK {
				return "", e
			}
			w.barrels[string(a[0])] = api.BarrelTest{Gross: a[1].n(), Tare: a[2].n(), Hydro: a[3].r(), Temperature: a[4].r(), Light: a[5].r()}
			return "ok", api.OK
		}},
		"taster": {"NAME RANGE INT INT", func(w *world, a []word) (string, api.Errno) {
			b := w.barrels[string(a[0])]
			if e := first(there(w.barrels, a[0]), room(b.Panel, 20)); e != api.OK {
				return "", e
			}
			b.Panel = append(b.Panel, api.Taster{Flavour: a[1].r(), Sure: a[2].n(), Perhaps: a[3].n()})
			w.barrels[string(a[0])] = b
			return fmt.Sprint(len(b.Panel)), api.OK
		}},
		"grade": {"NAME", func(w *world, a []word) (string, api.Errno) {
			if e := first(there(w.barrels, a[0]), isSet(w.grades)); e != api.OK {
				return "", e
			}
			l, e := barrel.Grades(*w.grades, w.barrels[string(a[0])])
			return listText(l), e
		}},
		"worth": {"NAME", func(w *world, a []word) (string, api.Errno) {
			if e := first(there(w.barrels, a[0]), isSet(w.grades)); e != api.OK {
				return "", e
			}
			r, e := barrel.Worth(*w.grades, w.barrels[string(a[0])])
			return rangeText(r), e
		}},
		"gather": {"INT", func(w *world, a []word) (string, api.Errno) {
			n, e := w.ledger.Gather(a[0].n())
			return fmt.Sprint(n), e
		}},
		"make": {"ROWS INT", func(w *world, a []word) (string, api.Errno) {
			var l []api.Take
			for _, x := range a[0].rows() {
				l = append(l, api.Take{From: x.X, Mass: x.Y})
			}
			n, e := w.ledger.Make(l, a[1].n())
			return fmt.Sprint(n), e
		}},
		"trace": {"INT", func(w *world, a []word) (string, api.Errno) {
			l, e := w.ledger.Trace(a[0].n())
			return listText(l), e
		}},
		"recall": {"INT", func(w *world, a []word) (string, api.Errno) {
			l, e := w.ledger.Recall(a[0].n())
			return listText(l), e
		}},
		"amount": {"INT INT", func(w *world, a []word) (string, api.Errno) {
			r, e := w.ledger.Amount(a[0].n(), a[1].n())
			return rangeText(r), e
		}},
	}
}

func seasonTable() map[string]definition {
	return map[string]definition{
		"outlook": {"INT", func(w *world, a []word) (string, api.Errno) {
			if e := first(isFree(w.outlook), unless(a[0].n() >= 1 && a[0].n() <= 120, api.ErrRange)); e != api.OK {
				return "", e
			}
			w.outlook = &api.Outlook{Life: a[0].n()}
			return "ok", api.OK
		}},
		"scenario": {"INT LIST", func(w *world, a []word) (string, api.Errno) {
			if w.outlook == nil {
				return "", api.ErrState
			}
			o := *w.outlook
			o.Scenarios = append(slices.Clone(o.Scenarios), api.Scenario{Weight: a[0].n(), Runs: a[1].list()})
			if e := season.Check(o); e != api.OK {
				return "", e
			}
			w.outlook = &o
			return fmt.Sprint(len(o.Scenarios)), api.OK
		}},
		"tapday": {"", func(w *world, a []word) (string, api.Errno) {
			if w.outlook == nil {
				return "", api.ErrState
			}
			day, loss, _, e := season.Least(*w.outlook)
			return fmt.Sprint(day, " ", loss), e
		}},
		"mean": {"", func(w *world, a []word) (string, api.Errno) {
			if w.outlook == nil {
				return "", api.ErrState
			}
			day, loss, e := season.Mean(*w.outlook)
			return fmt.Sprint(day, " ", loss), e
		}},
	}
}

func poolTable() map[string]definition {
	// accept adds a delivery.
	accept := func(w *world, d api.Delivery) (string, api.Errno) {
		if w.poolRules == nil {
			return "", api.ErrState
		}
		all := append(slices.Clone(w.deliveries), d)
		if _, _, e := pool.Accept(*w.poolRules, w.members, all); e != api.OK {
			return "", e
		}
		w.deliveries = all
		return fmt.Sprint(len(all)), api.OK
	}
	return map[string]definition{
		"poolrules": {"LIST INT INT INT INT INT INT INT INT INT INT", func(w *world, a []word) (string, api.Errno) {
			r := api.PoolRules{Prices: a[0].list(), Premium: a[1].n(), Released: a[2].n(), Demand: a[3].n(), Levy: a[4].n(), Reserve: a[5].n(), Advance: a[6].n(), Organic: api.OrganicRules{Taps: a[7].n(), Others: a[8].n(), Oils: a[9].n(), Cleaners: a[10].n()}}
			if e := first(isFree(w.poolRules), pool.CheckPool(r)); e != api.OK {
				return "", e
			}
			w.poolRules = &r
			return "ok", api.OK
		}},
		"member": {"INT INT WORD", func(w *world, a []word) (string, api.Errno) {
			all := append(slices.Clone(w.members), api.Member{Quota: a[0].n(), Stored: a[1].n(), Organic: a[2] == "organic"})
			if e := first(isSet(w.poolRules), unless(a[2] == "organic" || a[2] == "plain", api.ErrForm), pool.CheckMembers(all)); e != api.OK {
				return "", e
			}
			w.members = all
			return fmt.Sprint(len(all)), api.OK
		}},
		"deliver": {"INT INT INT", func(w *world, a []word) (string, api.Errno) {
			return accept(w, api.Delivery{Member: a[0].n(), Grade: a[1].n(), Mass: a[2].n()})
		}},
		"organic": {"INT INT INT INT INT INT INT INT", func(w *world, a []word) (string, api.Errno) {
			return accept(w, api.Delivery{Member: a[0].n(), Grade: a[1].n(), Mass: a[2].n(), Organic: true, Practice: api.Practice{Trees: a[3].n(), Taps: a[4].n(), Others: a[5].n(), Oils: a[6].n(), Cleaners: a[7].n()}})
		}},
		"bring": {"INT NAME", func(w *world, a []word) (string, api.Errno) {
			if e := first(there(w.barrels, a[1]), unless(!slices.Contains(w.brought, string(a[1])), api.ErrTwice), isSet(w.poolRules), isSet(w.grades)); e != api.OK {
				return "", e
			}
			b := w.barrels[string(a[1])]
			l, e := barrel.Grades(*w.grades, b)
			net, wrong := barrel.Net(*w.grades, b)
			if e := first(e, unless(len(l) == 1 && l[0] != -1, api.ErrState), wrong); e != api.OK {
				return "", e
			}
			text, e := accept(w, api.Delivery{Member: a[0].n(), Grade: l[0], Mass: net.Low})
			if e == api.OK {
				w.brought = append(w.brought, string(a[1]))
			}
			return text, e
		}},
		"settle": {"INT", func(w *world, a []word) (string, api.Errno) {
			if w.poolRules == nil {
				return "", api.ErrState
			}
			l, b, _, e := pool.Settle(*w.poolRules, w.members, w.deliveries, a[0].n())
			return fmt.Sprint(texts(l, func(x api.PoolAccount) string { return fmt.Sprint(x.Final) }), " ", b.Rest), e
		}},
	}
}

func candyTable() map[string]definition {
	// treat returns what an act of a kind does.
	treat := func(form string, act func(a word) api.CandyAct) definition {
		return definition{form, func(w *world, a []word) (string, api.Errno) {
			if e := first(isSet(w.candyRules), isSet(w.batch)); e != api.OK {
				return "", e
			}
			all := append(slices.Clone(w.treated), act(a[0]))
			l, _, e := candy.Make(*w.candyRules, *w.batch, all)
			if e != api.OK {
				return "", e
			}
			w.treated = all
			return rangeText(l[len(l)-1].Dense), api.OK
		}}
	}
	// last returns the state of the batch.
	last := func(w *world) (api.CandyState, api.Errno) {
		if e := first(isSet(w.candyRules), isSet(w.batch), unless(len(w.treated) > 0, api.ErrState)); e != api.OK {
			return api.CandyState{}, e
		}
		l, _, e := candy.Make(*w.candyRules, *w.batch, w.treated)
		return append(l, api.CandyState{})[max(0, len(l)-1)], e
	}
	return map[string]definition{
		"candyrules": {"ROWS ROWS RANGE", func(w *world, a []word) (string, api.Errno) {
			if w.candyRules != nil {
				return "", api.ErrState
			}
			w.candyRules = &api.CandyRules{Elevation: a[0].rows(), Solubility: a[1].rows(), Base: a[2].r()}
			return "ok", api.OK
		}},
		"product": {"RANGE RANGE RANGE INT INT", func(w *world, a []word) (string, api.Errno) {
			if w.candyRules == nil {
				return "", api.ErrState
			}
			if e := room(w.candyRules.Products, 8); e != api.OK {
				return "", e
			}
			w.candyRules.Products = append(w.candyRules.Products, api.Product{Dense: a[0].r(), Start: a[1].r(), Stirred: a[2].r(), Seed: a[3].n(), Work: a[4].n()})
			return fmt.Sprint(len(w.candyRules.Products)), api.OK
		}},
		"batch": {"SAP", func(w *world, a []word) (string, api.Errno) {
			if w.candyRules == nil {
				return "", api.ErrState
			}
			s := a[0].sap()
			if _, _, e := candy.Make(*w.candyRules, s, nil); e != api.OK {
				return "", e
			}
			w.batch, w.treated = &s, nil
			return "ok", api.OK
		}},
		"cook": treat("RANGE", func(a word) api.CandyAct { return api.CandyAct{Kind: 1, Range: a.r()} }),
		"cool": treat("RANGE", func(a word) api.CandyAct { return api.CandyAct{Kind: 2, Range: a.r()} }),
		"stir": treat("RANGE", func(a word) api.CandyAct { return api.CandyAct{Kind: 3, Range: a.r()} }),
		"seed": treat("INT", func(a word) api.CandyAct { return api.CandyAct{Kind: 4, Mass: a.n()} }),
		"become": {"", func(w *world, a []word) (string, api.Errno) {
			x, e := last(w)
			if e != api.OK {
				return "", e
			}
			l, e := candy.Products(*w.candyRules, x)
			return listText(l), e
		}},
		"yield": {"", func(w *world, a []word) (string, api.Errno) {
			x, e := last(w)
			if e != api.OK {
				return "", e
			}
			r, e := candy.Yield(*w.batch, x)
			return rangeText(r), e
		}},
	}
}

func bookTable() map[string]definition {
	return map[string]definition{
		"entry": {"INT INT INT INT SAP", func(w *world, a []word) (string, api.Errno) {
			all := append(slices.Clone(w.book), api.BookEntry{Day: a[0].n(), Kind: api.BookKind(a[1].n()), Item: a[2].n(), Grams: a[3].n(), Sap: a[4].sap()})
			if _, _, e := books.Replay(all); e != api.OK {
				return "", e
			}
			w.book = all
			return fmt.Sprint(len(all)), api.OK
		}},
		"state": {"", func(w *world, a []word) (string, api.Errno) {
			s, _, e := books.Replay(w.book)
			return fmt.Sprint(sapText(s.Tank), " ", sapText(s.Kettle), " ", len(s.Barrels)), e
		}},
		"seal": {"", func(w *world, a []word) (string, api.Errno) {
			l, e := books.Seals(w.book)
			return fmt.Sprint(append([]int{7}, l...)[len(l)]), e
		}},
		"book": {"", func(w *world, a []word) (string, api.Errno) {
			if len(w.book) == 0 {
				return "", api.ErrNone
			}
			b, e := books.WriteBook(w.book)
			return fmt.Sprintf("%x", b), e
		}},
	}
}
