package world

import (
	"testing"

	"lantern/api"
)

// A Send for anybody but the other one is gone, and takes no fate. As a world calls its engines none can come to be, so one is brought about from within.
func TestP152SendForAnother(t *testing.T) {
	var c [2]api.Config
	for who := range c {
		c[who] = api.Config{
			Id:       1 + who,
			Peers:    []api.Peer{{Id: 2 - who, Mtu: 1000, Timeout: 9}, {Id: 5, Mtu: 1000, Timeout: 9}},
			Services: []int{7},
			Contacts: []api.Contact{{Peer: 2 - who, To: 100, Rate: 9}, {Peer: 5, To: 100, Rate: 9}},
			Rules:    api.Rules{Retry: 3, Cycles: 9},
			Sessions: 4, Hold: 1000, Idle: 100, Queue: 100, Compact: 1000,
		}
	}
	for who := range c {
		p := begin(c, [2]int{1000, 1000})
		p.foretell(api.Event{Kind: api.DoFate, A: 1})
		if _, _, err := p.ends[who].engine.Submit(5, 7, []byte("x"), 0); err != nil {
			t.Fatal(err)
		}
		p.ticks(api.Event{Kind: api.DoTick, A: 3})
		if len(p.link.fates) != 1 || len(p.link.underWay) != 0 {
			t.Errorf("it is under way: %+v", p.link)
		}
		if len(p.told) != 2 || p.told[0].Notice.Kind != api.NoteSent || p.told[1].Kind != api.LineSent || p.told[1].Number != 1 {
			t.Errorf("told: %+v", p.told)
		}
		p.submit(api.Event{Kind: api.DoSubmit, Who: who, A: 7, Data: []byte("x")})
		p.ticks(api.Event{Kind: api.DoTick, A: 1})
		if len(p.link.fates) != 0 {
			t.Errorf("what is for the other one took no fate: %+v", p.link)
		}
	}
}

// No more is kept than will be needed: what came is not.
func TestP154NothingKeptThatCame(t *testing.T) {
	l := link{underWay: map[int][]flight{}}
	for _, late := range []int{3, 1, 2} {
		l.fates = append(l.fates, api.Event{Kind: api.DoFate, B: late, C: 2})
	}
	for range 3 {
		l.send(10, 1, []byte("x"))
	}
	for tick, n := range map[int]int{11: 1, 12: 2, 13: 1, 14: 1, 15: 0, 16: 1} {
		if got := len(l.arrive(tick)); got != n {
			t.Errorf("%d come in the tick %d, not %d", got, tick, n)
		}
	}
	if len(l.fates)+len(l.underWay) != 0 {
		t.Errorf("%+v", l)
	}
}
