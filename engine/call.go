package engine

import (
	"errors"

	"lantern/api"
	"lantern/disk"
)

// call is one that is being done. What it tells, and what its records come to, counts only when it is through: on a loss of power nobody is to see any of it.
type call struct {
	*Engine
	out     api.Out
	written []api.Record
}

// does does a call, and tells what came of it.
func (e *Engine) does(work func(*call) error) (api.Out, error) {
	if e.dead {
		return api.Out{}, api.ErrEngineDead
	}
	c := &call{Engine: e}
	before := e.Sight()
	err := work(c)
	if refused(err, api.ErrDown) {
		e.die(before)
		return api.Out{}, err
	}
	c.follow()
	if refused(err, api.ErrFull) {
		e.sight.Full++
	}
	if err != nil {
		return api.Out{}, err
	}
	return c.out, nil
}

// die lets go of all but what can still be asked for.
func (e *Engine) die(before api.Sight) {
	*e = Engine{table: e.table, sight: before, dead: true}
}

// follow lets the table follow what was written.
func (c *call) follow() {
	for _, r := range c.written {
		c.table.Apply(r) // it can follow: what is there is always as the table has it
	}
}

// write puts records into the journal.
func (c *call) write(safe bool, l ...api.Record) error {
	if err := said(c.journal.Write(l, safe)); err != nil {
		return err
	}
	c.written = append(c.written, l...)
	return nil
}

// tell tells the client something.
func (c *call) tell(n api.Notice) { c.out.Notices = append(c.out.Notices, n) }

// owe remembers a record that is to be written behind what was told.
func (c *call) owe(kind int, s api.Session) {
	c.owed = append(c.owed, api.Record{Kind: kind, Session: s})
}

// unlessFull counts that there was no room, where a step that finds none is let be.
func (c *call) unlessFull(err error) error {
	if refused(err, api.ErrFull) {
		c.sight.Full++
		return nil
	}
	return err
}

// refusal is what the journal said instead of doing as it was told.
type refusal struct {
	number api.Errno
	cause  error
}

// Error tells it in the journal's words.
func (r refusal) Error() string { return r.cause.Error() }

// Unwrap is what was said.
func (r refusal) Unwrap() error { return r.cause }

// said is what the journal said, if that was a refusal.
func said(err error) error {
	if err == nil {
		return nil
	}
	return refusal{disk.Number(err), err}
}

// refused tells whether the journal refused something, for that reason.
func refused(err error, number api.Errno) bool {
	var r refusal
	return errors.As(err, &r) && r.number == number
}
