package maker

import (
	"spile/api"
	"spile/season"
)

// prospects is what the season can be.
type prospects struct {
	season setting[api.Outlook]
}

// outlook sets the outlook without scenarios, and scenario adds one.
func (k *prospects) outlook() command {
	var o api.Outlook
	return command{forms{&o.Life}, k.season.set(func() (*api.Outlook, api.Errno) {
		if o.Life < 1 || o.Life > api.MaxSeasonDays {
			return nil, api.ErrRange
		}
		return &o, api.OK
	})}
}

func (k *prospects) scenario() command {
	var s api.Scenario
	return command{forms{&s.Weight, &s.Runs}, k.season.with(func(o *api.Outlook) (answer, api.Errno) {
		return add(&o.Scenarios, endless, func(all []api.Scenario) api.Errno {
			return season.Check(api.Outlook{Life: o.Life, Scenarios: all})
		}, s)
	})}
}

// tapday tells the day that loses least at most, and mean the one that loses least in the mean.
func (k *prospects) tapday() command {
	return command{run: k.season.with(func(o *api.Outlook) (answer, api.Errno) {
		day, loss, _, e := season.Least(*o)
		return asPair(day, loss, e)
	})}
}

func (k *prospects) mean() command {
	return command{run: k.season.with(func(o *api.Outlook) (answer, api.Errno) { return asPair(season.Mean(*o)) })}
}
