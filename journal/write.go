package journal

import (
	"errors"

	"lantern/api"
	"lantern/disk"
	"lantern/record"
)

// Write puts records behind those that are there; and makes all of it safe, if sync says so.
func (j *Journal) Write(l []api.Record, sync bool) error {
	b, err := j.frames(l)
	if err != nil {
		return err
	}
	if len(l) > 0 {
		if err := j.heard(j.on.Append(name, b)); err != nil {
			return err
		}
		j.size += len(b)
		j.loose += len(b)
	}
	if !sync || j.loose == 0 {
		return nil
	}
	if err := j.heard(j.on.Sync(name)); err != nil {
		return err
	}
	j.loose = 0
	return nil
}

// Rewrite puts records in the place of all that is there.
func (j *Journal) Rewrite(l []api.Record) error {
	b, err := j.frames(l)
	if err != nil {
		return err
	}
	err = j.inTurn(
		// Of no records, too: the file must be there to be renamed.
		func() error { return j.on.Append(newName, b) },
		func() error { return j.on.Sync(newName) },
		func() error { return j.on.Rename(newName, name) },
	)
	if err != nil {
		return err
	}
	j.size, j.loose = len(b), 0
	return nil
}

// frames are those of records, if the journal can still take them.
func (j *Journal) frames(l []api.Record) ([]byte, error) {
	if j.dead {
		return nil, api.ErrJournalDead
	}
	b, e := record.Frame(l)
	// An Errno that is OK would be an error that is not nil.
	if e != api.OK {
		return nil, e
	}
	return b, nil
}

// inTurn does acts, each if the one ahead was not refused.
func (j *Journal) inTurn(acts ...func() error) error {
	for _, act := range acts {
		if err := j.heard(act()); err != nil {
			return err
		}
	}
	return nil
}

// heard hands on what an act was answered. The journal is dead behind ErrDown: whether the act was done can't be known any more, so nor what stands in the files.
func (j *Journal) heard(err error) error {
	if errors.Is(err, disk.ErrDown) {
		j.dead, j.size, j.loose = true, 0, 0
	}
	return err
}
