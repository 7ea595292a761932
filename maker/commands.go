package maker

import (
	"spile/api"
	"spile/barrel"
	"spile/line"
)

// command is what a line says: where its words go, and what is done once they are there. With an error the answer counts for nothing.
// A method that returns a command is told here by what the command does.
type command struct {
	forms forms
	run   func() (answer, api.Errno)
}

// commands returns what the first word of a line stands for, part by part, and at last what uses two parts.
func commands() map[string]func(*Maker) command {
	return map[string]func(*Maker) command{
		"taprules": (*Maker).taprules, "tree": (*Maker).tree, "hole": (*Maker).hole,
		"taps": (*Maker).taps, "free": (*Maker).free, "drill": (*Maker).drill, "rota": (*Maker).rota,

		"net": (*Maker).net, "load": (*Maker).load, "pipe": (*Maker).pipe, "flow": (*Maker).flow, "sensor": (*Maker).sensor,
		"way": (*Maker).way, "map": (*Maker).mapped, "places": (*Maker).places, "next": (*Maker).next,
		"loads":  func(m *Maker) command { return m.flowing(line.Loads) },
		"vacuum": func(m *Maker) command { return m.flowing(line.Vacuum) },

		"trail": (*Maker).trail, "walk": (*Maker).walk,

		"thawrules": (*Maker).thawrules, "weather": (*Maker).weather,
		"runs": (*Maker).runs, "daily": (*Maker).daily, "begin": (*Maker).begin,

		"tanks": (*Maker).tanks, "pour": (*Maker).pour, "draw": (*Maker).draw, "move": (*Maker).move, "dump": (*Maker).dump,
		"wash": (*Maker).wash, "stay": (*Maker).stay, "tank": (*Maker).tank, "cellar": (*Maker).balance, "rounds": (*Maker).rounds,

		"pan": (*Maker).pan, "act": (*Maker).act, "levels": (*Maker).levels, "dry": (*Maker).dry, "hottest": (*Maker).hottest,

		"grades": (*Maker).grades, "class": (*Maker).class, "barrel": (*Maker).barrel, "taster": (*Maker).taster,
		"grade": (*Maker).grade, "worth": (*Maker).worth,

		"gather": (*Maker).gather, "make": (*Maker).mix, "amount": (*Maker).amount,
		"trace":  func(m *Maker) command { return m.traced((*barrel.Ledger).Trace) },
		"recall": func(m *Maker) command { return m.traced((*barrel.Ledger).Recall) },

		"outlook": (*Maker).outlook, "scenario": (*Maker).scenario, "tapday": (*Maker).tapday, "mean": (*Maker).mean,

		"poolrules": (*Maker).poolrules, "member": (*Maker).member, "deliver": (*Maker).deliver, "organic": (*Maker).organic, "settle": (*Maker).settle,

		"candyrules": (*Maker).candyrules, "product": (*Maker).product, "batch": (*Maker).batch, "seed": (*Maker).seed,
		"cook":   func(m *Maker) command { return m.work(api.CandyCook) },
		"cool":   func(m *Maker) command { return m.work(api.CandyCool) },
		"stir":   func(m *Maker) command { return m.work(api.CandyStir) },
		"become": (*Maker).become, "yield": (*Maker).yield,

		"entry": (*Maker).entry, "state": (*Maker).state, "seal": (*Maker).seal, "book": (*Maker).book,

		"check": (*Maker).check, "crop": (*Maker).crop, "bring": (*Maker).bring,
	}
}
