package world_test

import (
	"testing"

	"lantern/api"
)

// The chapter's table of examples, row by row.
func TestExamples(t *testing.T) {
	s := usual()
	s.tells(t, ``)
	const (
		first  = `0 a ok 1/1 a sent 1:1/1 a sends 1/`
		second = `2 b start 1:1 service 7/2 b red 1:1 service 7 "abc"/2 b sends 1/`
		third  = `3 a done 1:1/3 a sends 1/`
	)
	abc := says(0, "abc")
	s.tells(t, first+second, abc, ticks(1), lose(), ticks(2)) // what is lost is the report
	s.tells(t, first, abc, ticks(1))
	s.tells(t, first+second, abc, ticks(1), ticks(1))
	s.tells(t, first+second+third, abc, ticks(1), ticks(1), ticks(1))
	s.tells(t, first+`10 a sends 1/11 b start 1:1 service 7/11 b red 1:1 service 7 "abc"/11 b sends 1/12 a done 1:1/12 a sends 1/`, lose(), abc, ticks(12))
	s.tells(t, first+`2 b down/`, crash(1, 0, 0, 0), abc, ticks(2))
	s.tells(t, first+`2 b down/10 a sends 1/11 b start 1:1 service 7/11 b red 1:1 service 7 "abc"/11 b sends 1/`, crash(1, 0, 0, 0), abc, ticks(2), boots(1), ticks(9))
	s.refuses(t, 150, ticks(0))
}

// shells is the setup of DOC.md's examples of the whole.
func shells() setup {
	return usual().rooms(1000000, 1000000).with(func(c *api.Config) {
		c.Services, c.Rules = []int{1}, api.Rules{Retry: 5, Cycles: 10}
		c.Peers[0].Timeout, c.Contacts[0].Rate = 20, 10
		c.Sessions, c.Idle, c.Queue, c.Compact = 10, 500, 500, 10000
	})
}

// The ten examples of the whole, as events.
func TestExamplesOfTheWhole(t *testing.T) {
	send := func(service, red int, text string) api.Event { return submits(0, service, red, []byte(text)) }
	late := shells().at(0, func(c *api.Config) { c.Contacts = []api.Contact{{Peer: 2, From: 10, To: 20, Rate: 1}} })
	x := send(1, 1, "x")
	for _, c := range []struct {
		s      setup
		script []api.Event
		want   string
	}{
		{shells(), []api.Event{send(1, 5, "hello"), ticks(3)}, `0 a ok 1/1 a sent 1:1/1 a sends 1/2 b start 1:1 service 1/2 b red 1:1 service 1 "hello"/2 b sends 1/3 a done 1:1/3 a sends 1/`},
		{shells(), []api.Event{lose(), x, ticks(23)}, `0 a ok 1/1 a sent 1:1/1 a sends 1/21 a sends 1/22 b start 1:1 service 1/22 b red 1:1 service 1 "x"/22 b sends 1/23 a done 1:1/23 a sends 1/`},
		{shells(), []api.Event{send(1, 2, "abcd"), ticks(2)}, `0 a ok 1/1 a sent 1:1/1 a sends 2/2 b start 1:1 service 1/2 b red 1:1 service 1 "ab"/2 b green 1:1 service 1 at 2 "cd" last/2 b sends 1/`},
		{shells(), []api.Event{send(1, 0, "abc"), ticks(2)}, `0 a ok 1/1 a sent 1:1/1 a sends 1/2 b green 1:1 service 1 at 0 "abc" last/`},
		{shells(), []api.Event{send(9, 1, "x"), ticks(3)}, `0 a ok 1/1 a sent 1:1/1 a sends 1/2 b sends 1/3 a off 1:1 why 1/3 a sends 1/`},
		{shells(), []api.Event{x, cancels(0, 0, 1), ticks(2)}, `0 a ok 1/0 a off 1:1 why 0/0 a ok/1 a sends 1/2 b sends 1/`},
		{shells(), []api.Event{crash(1, 0, 0, 0), x, ticks(2), boots(1), ticks(20)}, `0 a ok 1/1 a sent 1:1/1 a sends 1/2 b down/21 a sends 1/22 b start 1:1 service 1/22 b red 1:1 service 1 "x"/22 b sends 1/`},
		{shells(), []api.Event{crash(1, 1, 0, 1), x, ticks(2), boots(1), ticks(1)}, `0 a ok 1/1 a sent 1:1/1 a sends 1/2 b down/2 b red 1:1 service 1 "x" replayed/3 b sends 1/`},
		{late, []api.Event{x, ticks(12)}, `0 a ok 1/10 a sent 1:1/10 a sends 1/11 b start 1:1 service 1/11 b red 1:1 service 1 "x"/11 b sends 1/12 a done 1:1/12 a sends 1/`},
		{shells().rooms(30, 1000000), []api.Event{send(1, 26, "abcdefghijklmnopqrstuvwxyz")}, `0 a error 5/`},
	} {
		c.s.tells(t, c.want, c.script...)
	}
}

// Chapter 17's examples, as far as they are events.
func TestExamplesOfTheShell(t *testing.T) {
	send := func(service, red int, text string) api.Event { return submits(0, service, red, []byte(text)) }
	s := shells()
	s.tells(t, `0 a ok 1/1 a sent 1:1/1 a sends 2/`, lose(), send(1, 2, "abc"), ticks(1))
	s.tells(t, `0 a ok 1/1 a sent 1:1/1 a sends 1/2 b sends 1/3 a off 1:1 why 1/3 a sends 1/`, submits(0, 9, 3, []byte{255, 6, 13}), ticks(3))
	s.tells(t, `0 a error 143/`, send(1, 1, ""))
	s.tells(t, `0 b error 145/`, cancels(1, 0, 1))
	s.tells(t, `0 a error 6/0 a down/0 a ok 1/`, crash(0, 0, 0, 0), send(1, 1, "x"), boots(0), send(1, 1, "y"))
}
