package shell_test

import (
	"reflect"
	"strings"
	"testing"

	"lantern/api"
	"lantern/shell"
)

// setUp is the script of a text that says nothing, as the chapter has it.
func setUp() api.Script {
	s := api.Script{Room: [2]int{1000000, 1000000}}
	for who := range s.Configs {
		s.Configs[who] = api.Config{
			Id:       1 + who,
			Peers:    []api.Peer{{Id: 2 - who, Mtu: 1000, Timeout: 20}},
			Services: []int{1},
			Contacts: []api.Contact{{Peer: 2 - who, From: 0, To: 1 << 40, Rate: 10}},
			Rules:    api.Rules{Retry: 5, Cycles: 10},
			Sessions: 10,
			Hold:     100000,
			Idle:     500,
			Every:    0,
			Queue:    500,
			Compact:  10000,
		}
	}
	return s
}

// reads wants that a text comes to a script.
func reads(t *testing.T, text string, change func(*api.Script)) {
	t.Helper()
	want := setUp()
	change(&want)
	got, k := shell.Read(lines(text))
	for i := range got.Events {
		if len(got.Events[i].Data) == 0 {
			got.Events[i].Data = nil
		}
	}
	fatalIf(t, k != 0 || !reflect.DeepEqual(got, want), "line %d is none, or %s\ncomes to %+v\nnot      %+v", k, text, got, want)
	r := readAs(lines(text))
	fatalIf(t, r.bad != 0 || !reflect.DeepEqual(r.c, want.Configs) || r.room != want.Room, "the model reads %+v", r)
}

// The set-up, and what each setting changes of it.
func TestP171SetUp(t *testing.T) {
	reads(t, "", func(*api.Script) {})
	reads(t, "# nothing//", func(*api.Script) {})
	for who, w := range []string{"a", "b"} {
		for i, k := range keys {
			n := 70 + i
			reads(t, "set "+w+" "+k.name+" "+string([]byte{'0' + byte(n/10), '0' + byte(n%10)}), func(s *api.Script) {
				switch {
				case k.at == nil:
					s.Room[who] = n
				default:
					*k.at(&s.Configs[who]) = n
				}
				if k.name == "id" {
					s.Configs[1-who].Peers[0].Id = n
					s.Configs[1-who].Contacts[0].Peer = n
				}
			})
		}
		reads(t, "serve "+w+" 5/serve "+w+" 3/serve "+w+" 5", func(s *api.Script) { s.Configs[who].Services = []int{5, 3, 5} })
		reads(t, "open "+w+" 5 6 7/open "+w+" 1 2 3/set a id 50/set b id 60", func(s *api.Script) {
			ids := [2]int{50, 60}
			for i := range s.Configs {
				s.Configs[i].Id, s.Configs[i].Peers[0].Id, s.Configs[i].Contacts[0].Peer = ids[i], ids[1-i], ids[1-i]
			}
			other := ids[1-who]
			s.Configs[who].Contacts = []api.Contact{{Peer: other, From: 5, To: 6, Rate: 7}, {Peer: other, From: 1, To: 2, Rate: 3}}
		})
	}
}

// What each event is.
func TestP171Events(t *testing.T) {
	for who, w := range []string{"a", "b"} {
		for _, x := range []struct {
			text  string
			event api.Event
		}{
			{"send W 3 2 hello", api.Event{Kind: api.DoSubmit, Who: who, A: 3, B: 2, Data: []byte("hello")}},
			{"send W 3 all hello", api.Event{Kind: api.DoSubmit, Who: who, A: 3, B: 5, Data: []byte("hello")}},
			{"send W 3 all", api.Event{Kind: api.DoSubmit, Who: who, A: 3}},
			{"send W 3 9", api.Event{Kind: api.DoSubmit, Who: who, A: 3, B: 9}},
			{"send W 3 9  x ", api.Event{Kind: api.DoSubmit, Who: who, A: 3, B: 9, Data: []byte(" x ")}},
			{"fill W 3 2 4 250", api.Event{Kind: api.DoSubmit, Who: who, A: 3, B: 2, Data: []byte{250, 1, 8, 15}}},
			{"fill W 3 all 4 250", api.Event{Kind: api.DoSubmit, Who: who, A: 3, B: 4, Data: []byte{250, 1, 8, 15}}},
			{"fill W 3 all 0 1", api.Event{Kind: api.DoSubmit, Who: who, A: 3}},
			{"fill W 3 5 0 1", api.Event{Kind: api.DoSubmit, Who: who, A: 3, B: 5}},
			{"fill W 3 all 2 " + most, api.Event{Kind: api.DoSubmit, Who: who, A: 3, B: 2, Data: []byte{255, 6}}},
			{"cancel W a 4", api.Event{Kind: api.DoCancel, Who: who, A: 0, B: 4}},
			{"cancel W b 4", api.Event{Kind: api.DoCancel, Who: who, A: 1, B: 4}},
			{"tick 4", api.Event{Kind: api.DoTick, A: 4}},
			{"crash W 4 5", api.Event{Kind: api.DoCrash, Who: who, A: 4, B: 5}},
			{"crash W 4 5 done", api.Event{Kind: api.DoCrash, Who: who, A: 4, B: 5, C: 1}},
			{"boot W", api.Event{Kind: api.DoBoot, Who: who}},
			{"hex W 00a9f0", api.Event{Kind: api.DoInject, Who: who, Data: []byte{0, 0xa9, 0xf0}}},
			{"lose", api.Event{Kind: api.DoFate, A: 1}},
			{"late 4", api.Event{Kind: api.DoFate, B: 4, C: 1}},
			{"copy 4 2", api.Event{Kind: api.DoFate, B: 4, C: 2}},
		} {
			text := strings.ReplaceAll(x.text, "W", w)
			reads(t, text, func(s *api.Script) { s.Events = []api.Event{x.event} })
			reads(t, "tick 1/"+text+"/lose", func(s *api.Script) {
				s.Events = []api.Event{{Kind: api.DoTick, A: 1}, x.event, {Kind: api.DoFate, A: 1}}
			})
		}
	}
}

// Of events that are too many no more are held than it takes to see that.
func TestP171NoMoreThanTooMany(t *testing.T) {
	for _, n := range []int{1999, 2000, 2001, 2002, 9000} {
		s, k := shell.Read(strings.Repeat("fill a 1 all 65536 0\n", n))
		fatalIf(t, k != 0 || len(s.Events) != min(n, api.MaxEvents+1), "%d events of %d", len(s.Events), n)
		s, k = shell.Read(strings.Repeat("tick 1\n", n) + "set a id 4")
		fatalIf(t, k != n+1, "a setting behind %d events: %d", n, k)
	}
}
