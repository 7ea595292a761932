package maker

import (
	"spile/api"
	"spile/pan"
)

// stove is all pans, and what is done with them.
type stove struct {
	pans []api.Pan
	acts []api.PanAct
}

// pan adds a pan, and act what is done in a minute.
func (k *stove) pan() command {
	var p api.Pan
	return command{forms{&p.Low, &p.High, &p.Least, &p.Most, &p.Cool, &p.Hot, &p.Dry, &p.Rim}, func() (answer, api.Errno) {
		return add(&k.pans, api.MaxPans, func(all []api.Pan) api.Errno { return pan.Check(api.Boil{Pans: all}) }, p)
	}}
}

func (k *stove) act() command {
	var a api.PanAct
	var kind int
	return command{forms{&a.Minute, &kind, &a.Pan, &a.Amount}, func() (answer, api.Errno) {
		a.Kind = api.PanActKind(kind)
		return add(&k.acts, api.MaxPanActs, unchecked, a)
	}}
}

// levels tells what can be in the pans at last, dry which one can run dry first, and hottest with which fire none can.
func (k *stove) levels() command {
	return k.boiling(func(b api.Boil, start []api.Range) (answer, api.Errno) {
		levels, _, e := pan.Levels(b, start)
		var last extents
		for _, l := range levels {
			last = l
		}
		return last, e
	})
}

func (k *stove) dry() command {
	return k.boiling(func(b api.Boil, start []api.Range) (answer, api.Errno) {
		p, minute, _, e := pan.Dry(b, start)
		return asPair(p, minute, e)
	})
}

func (k *stove) hottest() command {
	return k.boiling(func(b api.Boil, start []api.Range) (answer, api.Errno) { return asNumber(pan.Hottest(b, start)) })
}

// boiling tells of a boil for so many minutes, with a start.
func (k *stove) boiling(tell func(api.Boil, []api.Range) (answer, api.Errno)) command {
	var minutes int
	var start []api.Range
	return command{forms{&minutes, &start}, func() (answer, api.Errno) {
		return tell(api.Boil{Pans: k.pans, Minutes: minutes, Acts: k.acts}, start)
	}}
}
