package world

import "lantern/api"

const (
	maxTicks    = 1000  // of one event
	maxAllTicks = 20000 // of a script
	maxLate     = 1000  // ticks that a segment is under way
	maxCopies   = 3     // of a segment
)

// bounds are the least number that a field may be, and the greatest.
type bounds struct{ least, most int }

func (b bounds) has(n int) bool { return b.least <= n && n <= b.most }

// form is how events of a kind may be. What it does not name is zero.
type form struct {
	kind         int
	who, a, b, c bounds
	bytes        bounds // how many of them
}

// forms are those of all kinds; a fate has two, as one that loses says no more.
var forms = [...]form{
	{kind: api.DoSubmit, who: bounds{0, 1}, a: bounds{0, api.MaxNum}, b: bounds{0, api.MaxNum}, bytes: bounds{0, api.MaxBlock}},
	{kind: api.DoCancel, who: bounds{0, 1}, a: bounds{0, 1}, b: bounds{0, api.MaxNum}},
	{kind: api.DoTick, a: bounds{1, maxTicks}},
	{kind: api.DoCrash, who: bounds{0, 1}, a: bounds{0, api.MaxNum}, b: bounds{0, api.MaxNum}, c: bounds{0, 1}},
	{kind: api.DoBoot, who: bounds{0, 1}},
	{kind: api.DoInject, who: bounds{0, 1}, bytes: bounds{0, api.MaxBlock}},
	{kind: api.DoFate, a: bounds{1, 1}},
	{kind: api.DoFate, b: bounds{1, maxLate}, c: bounds{1, maxCopies}},
}

// fits tells whether an event has this form.
func (f form) fits(x api.Event) bool {
	return x.Kind == f.kind && f.who.has(x.Who) && f.a.has(x.A) && f.b.has(x.B) && f.c.has(x.C) && f.bytes.has(len(x.Data))
}

// mayBe tells whether events may be, each by itself and all together.
func mayBe(script []api.Event) bool {
	ticks := 0
events:
	for _, x := range script {
		for _, f := range forms {
			if !f.fits(x) {
				continue
			}
			ticks += ticksOf(x)
			if ticks > maxAllTicks {
				break events
			}
			continue events
		}
		return false
	}
	return ticks <= maxAllTicks
}

// ticksOf is how many ticks an event takes.
func ticksOf(x api.Event) int {
	if x.Kind == api.DoTick {
		return x.A
	}
	return 0
}
