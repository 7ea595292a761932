package pan

import (
	"spile/api"
	"spile/span"
)

// pot is the stoves with the sap in them, what is left of the feed, what was drawn off, and the water that has boiled off. What is in each stove is known.
type pot struct {
	stoves
	saps        []api.Sap
	feed, drawn api.Sap
	steam       int
}

// Follow returns what is in the pans at last, what is left to feed, what was drawn off, and how much water has boiled off.
func Follow(b api.Boil, pans []api.Sap, feed api.Sap, l [][]api.PanMinute) (end []api.Sap, left, drawn api.Sap, steam int, e api.Errno) {
	if e := checkFollow(b, pans, feed, l); e != api.OK {
		return nil, api.Sap{}, api.Sap{}, 0, e
	}
	p := fill(b.Pans, pans, feed)
	for minute := range b.Minutes {
		happened := func(pan int) api.PanMinute { return l[pan][minute] }
		for _, a := range acts(b, minute) {
			if e := p.carryOut(a); e != api.OK {
				return nil, api.Sap{}, api.Sap{}, 0, e
			}
		}
		if e := p.minute(happened); e != api.OK {
			return nil, api.Sap{}, api.Sap{}, 0, e
		}
	}
	return p.saps, p.feed, p.drawn, p.steam, api.OK
}

// checkFollow returns the error of what is given to Follow.
func checkFollow(b api.Boil, pans []api.Sap, feed api.Sap, l [][]api.PanMinute) api.Errno {
	if e := Check(b); e != api.OK {
		return e
	}
	if len(pans) != len(b.Pans) || len(l) != len(b.Pans) {
		return api.ErrForm
	}
	for _, minutes := range l {
		if len(minutes) != b.Minutes {
			return api.ErrForm
		}
	}
	if !validSap(feed) {
		return api.ErrArg
	}
	for i, s := range pans {
		if !validSap(s) || mass(s) > b.Pans[i].Rim {
			return api.ErrArg
		}
	}
	return api.OK
}

// fill returns a pot with sap in its pans.
func fill(pans []api.Pan, saps []api.Sap, feed api.Sap) *pot {
	p := &pot{feed: feed}
	var start []api.Range
	for _, s := range saps {
		p.saps = append(p.saps, s)
		start = append(start, one(mass(s)))
	}
	p.stoves = lit(pans, start, 0)
	return p
}

// carryOut carries out an act, with the sap that it moves or draws off.
func (p *pot) carryOut(a api.PanAct) api.Errno {
	if e := p.refuse(a); e != api.OK {
		return e
	}
	p.heed(a)
	switch a.Kind {
	case api.PanMove:
		p.saps[a.Pan+1] = sum(p.saps[a.Pan+1], p.take(a))
	case api.PanDraw:
		p.drawn = sum(p.drawn, p.take(a))
	}
	return api.OK
}

// take takes the sap of an act from its pan, which has so much.
func (p *pot) take(a api.PanAct) api.Sap {
	taken, left, _ := span.Draw(p.saps[a.Pan], a.Amount)
	p.saps[a.Pan] = left
	return taken
}

// minute feeds all pans, and then boils them, by what happened in each.
func (p *pot) minute(happened func(pan int) api.PanMinute) api.Errno {
	for i := range p.stoves {
		if e := p.let(i, happened(i).In); e != api.OK {
			return e
		}
	}
	for i := range p.stoves {
		if e := p.boil(i, happened(i).Off); e != api.OK {
			return e
		}
	}
	return api.OK
}

// let lets so many grams of the feed into a pan.
func (p *pot) let(pan, grams int) api.Errno {
	s := &p.stoves[pan]
	if !s.change(grams, s.fed(s.level)) {
		return api.ErrState
	}
	taken, left, e := span.Draw(p.feed, grams)
	if e != api.OK {
		return api.ErrNone
	}
	p.feed = left
	p.saps[pan] = sum(p.saps[pan], taken)
	return api.OK
}

// boil takes so many grams of water off a pan.
func (p *pot) boil(pan, grams int) api.Errno {
	s := &p.stoves[pan]
	if !s.change(-grams, s.boiled(s.level)) || p.saps[pan].Water < grams {
		return api.ErrState
	}
	p.saps[pan].Water -= grams
	p.steam += grams
	return api.OK
}

// validSap reports whether sap is valid.
func validSap(s api.Sap) bool { return in(0, api.MaxMass, s.Water, s.Sugar) }

// mass returns water and sugar together.
func mass(s api.Sap) int { return s.Water + s.Sugar }

// sum returns sap together.
func sum(a, b api.Sap) api.Sap {
	return api.Sap{Water: a.Water + b.Water, Sugar: a.Sugar + b.Sugar}
}
