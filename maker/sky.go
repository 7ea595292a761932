package maker

import (
	"spile/api"
	"spile/thaw"
)

// sky is the weather, with the rules by which sap runs. Before the first hour there is no charge and no ice.
type sky struct {
	thawRules setting[api.ThawRules]
	hours     []api.Range
}

// thawrules sets the rules.
func (k *sky) thawrules() command {
	var r api.ThawRules
	return command{forms{&r.Frost, &r.Thaw, &r.Gain, &r.Full, &r.Ice, &r.Most, &r.Melt, &r.Rate, &r.Pull}, k.thawRules.set(func() (*api.ThawRules, api.Errno) {
		return &r, thaw.Check(r, api.ThawState{}, nil)
	})}
}

// weather adds hours.
func (k *sky) weather() command {
	var hours []api.Range
	return command{forms{&hours}, k.thawRules.with(func(r *api.ThawRules) (answer, api.Errno) {
		return add(&k.hours, endless, func(all []api.Range) api.Errno { return thaw.Check(*r, api.ThawState{}, all) }, hours...)
	})}
}

// runs tells for how many hours sap runs, daily for how many on each day, and begin when it first does.
func (k *sky) runs() command {
	return command{run: k.thawRules.with(func(r *api.ThawRules) (answer, api.Errno) {
		return asRange(thaw.Runs(*r, api.ThawState{}, k.hours))
	})}
}

func (k *sky) daily() command {
	return command{run: k.thawRules.with(func(r *api.ThawRules) (answer, api.Errno) {
		return asRanges(thaw.Daily(*r, api.ThawState{}, k.hours))
	})}
}

func (k *sky) begin() command {
	return command{run: k.thawRules.with(func(r *api.ThawRules) (answer, api.Errno) {
		return asPair(thaw.First(*r, api.ThawState{}, k.hours))
	})}
}
