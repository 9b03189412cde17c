package shell

import "lantern/api"

// command is what the first word of a line asks for.
type command struct {
	does    func(*script, *line)
	setting bool // else it is an event
}

// commands are all of them, by that word.
func commands() map[string]command {
	return map[string]command{
		"set":    {does: (*script).set, setting: true},
		"serve":  {does: (*script).serve, setting: true},
		"open":   {does: (*script).open, setting: true},
		"send":   {does: (*script).send},
		"fill":   {does: (*script).fill},
		"cancel": {does: (*script).cancel},
		"tick":   {does: (*script).tick},
		"crash":  {does: (*script).crash},
		"boot":   {does: (*script).boot},
		"hex":    {does: (*script).hex},
		"lose":   {does: (*script).lose},
		"late":   {does: (*script).late},
		"copy":   {does: (*script).copies},
	}
}

// add puts an event behind the others. Where there are too many, one too many is enough to be refused; a short line can stand for a whole block, so that holding all of them would cost much.
func (s *script) add(x api.Event) {
	if len(s.Events) <= api.MaxEvents {
		s.Events = append(s.Events, x)
	}
}

func (s *script) set(l *line) {
	who, key, n := l.engine(), l.word(), l.number()
	at := s.place(who, key)
	if at == nil {
		l.refuseIf(true)
		return
	}
	*at = n
}

func (s *script) serve(l *line) {
	c := &s.Configs[l.engine()]
	c.Services = append(c.Services, l.number())
}

// open leaves the peer to be said when all ids are known.
func (s *script) open(l *line) {
	c := &s.Configs[l.engine()]
	from, to, rate := l.number(), l.number(), l.number()
	c.Contacts = append(c.Contacts, api.Contact{From: from, To: to, Rate: rate})
}

func (s *script) send(l *line) {
	who, service, red := l.engine(), l.number(), l.word()
	block := []byte(l.tail())
	s.submit(who, service, l.red(red, len(block)), block)
}

func (s *script) fill(l *line) {
	who, service, red := l.engine(), l.number(), l.word()
	size, seed := l.number(), l.number()
	if size > api.MaxBlock {
		l.refuseIf(true)
		return
	}
	s.submit(who, service, l.red(red, size), filled(size, seed))
}

// filled is the block that a seed stands for.
func filled(size, seed int) []byte {
	b := make([]byte, size)
	for i := range b {
		b[i] = byte(seed + 7*i)
	}
	return b
}

func (s *script) submit(who, service, red int, block []byte) {
	s.add(api.Event{Kind: api.DoSubmit, Who: who, A: service, B: red, Data: block})
}

func (s *script) cancel(l *line) {
	who, whose, n := l.engine(), l.engine(), l.number()
	s.add(api.Event{Kind: api.DoCancel, Who: who, A: whose, B: n})
}

func (s *script) tick(l *line) {
	s.add(api.Event{Kind: api.DoTick, A: l.number()})
}

func (s *script) crash(l *line) {
	x := api.Event{Kind: api.DoCrash}
	x.Who, x.A, x.B = l.engine(), l.number(), l.number()
	switch l.word() {
	case "":
	case "done":
		x.C = 1
	default:
		l.refuseIf(true)
	}
	s.add(x)
}

func (s *script) boot(l *line) {
	s.add(api.Event{Kind: api.DoBoot, Who: l.engine()})
}

func (s *script) hex(l *line) {
	who := l.engine()
	b, ok := pairs(l.word())
	l.refuseIf(!ok)
	s.add(api.Event{Kind: api.DoInject, Who: who, Data: b})
}

func (s *script) lose(*line) {
	s.add(api.Event{Kind: api.DoFate, A: 1})
}

func (s *script) late(l *line) { s.arrive(l.number(), 1) }

func (s *script) copies(l *line) {
	late, n := l.number(), l.number()
	s.arrive(late, n)
}

// arrive foretells that copies of a segment come.
func (s *script) arrive(late, copies int) {
	s.add(api.Event{Kind: api.DoFate, B: late, C: copies})
}
