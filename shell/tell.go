package shell

import (
	"strconv"
	"strings"

	"lantern/api"
)

// tell is lines as a text.
func tell(told []api.Line) string {
	var b strings.Builder
	for _, x := range told {
		b.WriteString(strconv.Itoa(x.Tick) + " " + name(x.Who))
		for _, w := range words(x) {
			b.WriteByte(' ')
			b.WriteString(w)
		}
		b.WriteByte('\n')
	}
	return b.String()
}

// name is the word for an engine.
func name(who int) string {
	if who == 0 {
		return "a"
	}
	return "b"
}

// words is what a line tells, without its tick and its engine.
func words(x api.Line) []string {
	switch x.Kind {
	case api.LineAnswer:
		return answer(x)
	case api.LineSent:
		return []string{"sends", strconv.Itoa(x.Number)}
	case api.LineNotice:
		return notice(x.Notice)
	}
	return []string{"down"}
}

func answer(x api.Line) []string {
	switch {
	case x.Err != api.OK:
		return []string{x.Err.Error()}
	case x.Number != 0:
		return []string{"ok", strconv.Itoa(x.Number)}
	}
	return []string{"ok"}
}

func notice(n api.Notice) []string {
	l := bare(n)
	if n.Kind == api.NoteGreen && n.Last {
		l = append(l, "last")
	}
	if n.Replayed {
		l = append(l, "replayed")
	}
	return l
}

// bare is a notice without what stands behind some of them alone.
func bare(n api.Notice) []string {
	s := strconv.Itoa(n.Session.Origin) + ":" + strconv.Itoa(n.Session.Number)
	service, how := strconv.Itoa(n.Service), strconv.Itoa(n.How)
	switch n.Kind {
	case api.NoteStart:
		return []string{"start", s, "service", service}
	case api.NoteGreen:
		return []string{"green", s, "service", service, "at", strconv.Itoa(n.Offset), quoted(n.Data)}
	case api.NoteRed:
		return []string{"red", s, "service", service, quoted(n.Data)}
	case api.NoteGone:
		return []string{"gone", s, "why", how}
	case api.NoteOff:
		return []string{"off", s, "why", how}
	case api.NoteSent:
		return []string{"sent", s}
	}
	return []string{"done", s}
}

// quoted is bytes as a text of which each one can be told from all others.
func quoted(data []byte) string {
	var b strings.Builder
	b.WriteByte('"')
	for _, x := range data {
		switch {
		case x == '"' || x == '\\':
			b.WriteByte('\\')
			b.WriteByte(x)
		case ' ' <= x && x <= '~':
			b.WriteByte(x)
		default:
			b.WriteByte('\\')
			b.WriteByte('0' + x/100)
			b.WriteByte('0' + x/10%10)
			b.WriteByte('0' + x%10)
		}
	}
	b.WriteByte('"')
	return b.String()
}
