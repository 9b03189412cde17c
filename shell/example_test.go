package shell_test

import (
	"testing"

	"lantern/api"
)

// The chapter's table of examples, row by row.
func TestExamples(t *testing.T) {
	tells(t, "", "")
	tells(t, "# x", "")
	tells(t, "send a 1 all hello/tick 3", `0 a ok 1/1 a sent 1:1/1 a sends 1/2 b start 1:1 service 1/2 b red 1:1 service 1 "hello"/2 b sends 1/3 a done 1:1/3 a sends 1/`)
	tells(t, "lose/send a 1 2 abc/tick 1", "0 a ok 1/1 a sent 1:1/1 a sends 2/")
	tells(t, "fill a 9 all 3 255/tick 3", "0 a ok 1/1 a sent 1:1/1 a sends 1/2 b sends 1/3 a off 1:1 why 1/3 a sends 1/")
	tells(t, "send a 1 1", "0 a error 143/")
	tells(t, "cancel b a 1", "0 b error 145/")
	tells(t, "tick 0", "error 150/")
	tells(t, "tick 01", "error 170 at line 1/")
	tells(t, "boot c", "error 170 at line 1/")
	tells(t, "tick 1/set a mtu 90", "error 170 at line 2/")
	tells(t, "set a mtu 10", "error 140/")
	tells(t, "crash a 0 0/send a 1 1 x/boot a/send a 1 1 y", "0 a error 6/0 a down/0 a ok 1/")
}

// DOC.md's ten examples of the whole.
func TestExamplesOfTheWhole(t *testing.T) {
	const sent = "0 a ok 1/1 a sent 1:1/1 a sends 1/"
	tells(t, "send a 1 all hello/tick 3", sent+`2 b start 1:1 service 1/2 b red 1:1 service 1 "hello"/2 b sends 1/3 a done 1:1/3 a sends 1/`)
	tells(t, "lose/send a 1 all x/tick 23", sent+`21 a sends 1/22 b start 1:1 service 1/22 b red 1:1 service 1 "x"/22 b sends 1/23 a done 1:1/23 a sends 1/`)
	tells(t, "send a 1 2 abcd/tick 2", `0 a ok 1/1 a sent 1:1/1 a sends 2/2 b start 1:1 service 1/2 b red 1:1 service 1 "ab"/2 b green 1:1 service 1 at 2 "cd" last/2 b sends 1/`)
	tells(t, "send a 1 0 abc/tick 2", sent+`2 b green 1:1 service 1 at 0 "abc" last/`)
	tells(t, "send a 9 all x/tick 3", sent+`2 b sends 1/3 a off 1:1 why 1/3 a sends 1/`)
	tells(t, "send a 1 all x/cancel a a 1/tick 2", `0 a ok 1/0 a off 1:1 why 0/0 a ok/1 a sends 1/2 b sends 1/`)
	tells(t, "crash b 0 0/send a 1 all x/tick 2/boot b/tick 20", sent+`2 b down/21 a sends 1/22 b start 1:1 service 1/22 b red 1:1 service 1 "x"/22 b sends 1/`)
	tells(t, "crash b 1 0 done/send a 1 all x/tick 2/boot b/tick 1", sent+`2 b down/2 b red 1:1 service 1 "x" replayed/3 b sends 1/`)
	tells(t, "open a 10 20 1/send a 1 all x/tick 12", `0 a ok 1/10 a sent 1:1/10 a sends 1/11 b start 1:1 service 1/11 b red 1:1 service 1 "x"/11 b sends 1/12 a done 1:1/12 a sends 1/`)
	tells(t, "set a room 30/send a 1 all abcdefghijklmnopqrstuvwxyz", "0 a error 5/")
}

// The errors' numbers are those of the chapter, and of DOC.md's limits.
func TestErrorsAndLimits(t *testing.T) {
	fatalIf(t, api.ErrLong != 2 || api.ErrShellLine != 170, "errors %d and %d", api.ErrLong, api.ErrShellLine)
	fatalIf(t, api.MaxLine != mostBytes || api.MaxBlock != mostBlock, "limits %d and %d", api.MaxLine, api.MaxBlock)
}
