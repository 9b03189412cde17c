package shell

import "lantern/api"

// script is what a text comes to, as far as it was read.
type script api.Script

// usual is the script of a text that says nothing. Whom an engine serves, and when it may send, is said by join, where no line says it.
func usual() *script {
	s := &script{Room: [2]int{1000000, 1000000}}
	for who := range s.Configs {
		s.Configs[who] = api.Config{
			Id:       1 + who,
			Peers:    []api.Peer{{Mtu: 1000, Timeout: 20}},
			Rules:    api.Rules{Retry: 5, Cycles: 10},
			Sessions: 10,
			Hold:     100000,
			Idle:     500,
			Queue:    500,
			Compact:  10000,
		}
	}
	return s
}

// place is where the number that a key names stands; nil, if it names none.
func (s *script) place(who int, key string) *int {
	c := &s.Configs[who]
	switch key {
	case "id":
		return &c.Id
	case "mtu":
		return &c.Peers[0].Mtu
	case "timeout":
		return &c.Peers[0].Timeout
	case "retry":
		return &c.Rules.Retry
	case "cycles":
		return &c.Rules.Cycles
	case "sessions":
		return &c.Sessions
	case "hold":
		return &c.Hold
	case "idle":
		return &c.Idle
	case "every":
		return &c.Every
	case "queue":
		return &c.Queue
	case "compact":
		return &c.Compact
	case "room":
		return &s.Room[who]
	}
	return nil
}

// join makes each engine the other one's peer, as their ids can change up to the last setting, and gives it what no line gave it.
func (s *script) join() {
	for who := range s.Configs {
		c, other := &s.Configs[who], s.Configs[1-who].Id
		if len(c.Services) == 0 {
			c.Services = []int{1}
		}
		if len(c.Contacts) == 0 {
			c.Contacts = []api.Contact{{To: api.MaxTick, Rate: 10}}
		}
		c.Peers[0].Id = other
		for i := range c.Contacts {
			c.Contacts[i].Peer = other
		}
	}
}
