package shell_test

import (
	"bytes"
	"encoding/hex"
	"fmt"
	"math/big"
	"regexp"
	"strings"

	"lantern/api"
	"lantern/world"
)

// keys are what can be set, and what it is where nothing is set (id: of the first engine).
var keys = []struct {
	name  string
	usual int
	at    func(c *api.Config) *int // nil: the room, which is no engine's business
}{
	{"id", 1, func(c *api.Config) *int { return &c.Id }},
	{"mtu", 1000, func(c *api.Config) *int { return &c.Peers[0].Mtu }},
	{"timeout", 20, func(c *api.Config) *int { return &c.Peers[0].Timeout }},
	{"retry", 5, func(c *api.Config) *int { return &c.Rules.Retry }},
	{"cycles", 10, func(c *api.Config) *int { return &c.Rules.Cycles }},
	{"sessions", 10, func(c *api.Config) *int { return &c.Sessions }},
	{"hold", 100000, func(c *api.Config) *int { return &c.Hold }},
	{"idle", 500, func(c *api.Config) *int { return &c.Idle }},
	{"every", 0, func(c *api.Config) *int { return &c.Every }},
	{"queue", 500, func(c *api.Config) *int { return &c.Queue }},
	{"compact", 10000, func(c *api.Config) *int { return &c.Compact }},
	{"room", 1000000, nil},
}

// reading is what the model makes of a text: the chapter's tables as patterns.
type reading struct {
	c      [2]api.Config
	room   [2]int
	events []api.Event
	bad    int // the first line that is none; 0: there is none
}

// form is a line of the tables: W an engine, N a number, R a number or `all`, K a key, H pairs of digits, T a blank and whatever stands behind it, or nothing.
type form struct {
	words   string
	setting bool
	does    func(r *reading, v []int, text string)
}

const all = -1 // a red part that is as long as its block

func (r *reading) event(kind, who, a, b, c int, data []byte) {
	r.events = append(r.events, api.Event{Kind: kind, Who: who, A: a, B: b, C: c, Data: data})
}

func (r *reading) block(who, service, red int, data []byte) {
	if red == all {
		red = len(data)
	}
	r.event(api.DoSubmit, who, service, red, 0, data)
}

var forms = []form{
	{"set W K N", true, func(r *reading, v []int, _ string) {
		at := &r.room[v[0]]
		if f := keys[v[1]].at; f != nil {
			at = f(&r.c[v[0]])
		}
		*at = v[2]
	}},
	{"serve W N", true, func(r *reading, v []int, _ string) {
		r.c[v[0]].Services = append(r.c[v[0]].Services, v[1])
	}},
	{"open W N N N", true, func(r *reading, v []int, _ string) {
		r.c[v[0]].Contacts = append(r.c[v[0]].Contacts, api.Contact{From: v[1], To: v[2], Rate: v[3]})
	}},
	{"send W N RT", false, func(r *reading, v []int, text string) {
		r.block(v[0], v[1], v[2], []byte(text))
	}},
	{"fill W N R N N", false, func(r *reading, v []int, _ string) {
		data := make([]byte, v[3])
		for i := range data {
			data[i] = byte((v[4]%256 + 7*i) % 256)
		}
		r.block(v[0], v[1], v[2], data)
	}},
	{"cancel W W N", false, func(r *reading, v []int, _ string) { r.event(api.DoCancel, v[0], v[1], v[2], 0, nil) }},
	{"tick N", false, func(r *reading, v []int, _ string) { r.event(api.DoTick, 0, v[0], 0, 0, nil) }},
	{"crash W N N", false, func(r *reading, v []int, _ string) { r.event(api.DoCrash, v[0], v[1], v[2], 0, nil) }},
	{"crash W N N done", false, func(r *reading, v []int, _ string) { r.event(api.DoCrash, v[0], v[1], v[2], 1, nil) }},
	{"boot W", false, func(r *reading, v []int, _ string) { r.event(api.DoBoot, v[0], 0, 0, 0, nil) }},
	{"hex W H", false, func(r *reading, v []int, text string) {
		data, err := hex.DecodeString(text)
		if err != nil {
			panic(err)
		}
		r.event(api.DoInject, v[0], 0, 0, 0, data)
	}},
	{"lose", false, func(r *reading, v []int, _ string) { r.event(api.DoFate, 0, 1, 0, 0, nil) }},
	{"late N", false, func(r *reading, v []int, _ string) { r.event(api.DoFate, 0, 0, v[0], 1, nil) }},
	{"copy N N", false, func(r *reading, v []int, _ string) { r.event(api.DoFate, 0, 0, v[0], v[1], nil) }},
}

// pattern is a form's.
func (f form) pattern() *regexp.Regexp {
	const digits = `0|[1-9][0-9]{0,18}`
	var names []string
	for _, k := range keys {
		names = append(names, k.name)
	}
	p := strings.NewReplacer(" ", `[ \t]+`, "W", `(a|b)`, "N", `(`+digits+`)`, "RT", `(all|`+digits+`)(?:[ \t](.*))?`, "R", `(all|`+digits+`)`, "K", `(`+strings.Join(names, "|")+`)`, "H", `((?:[0-9a-f]{2})+)`).Replace(f.words)
	if !strings.HasSuffix(f.words, "T") {
		p += `[ \t]*`
	}
	return regexp.MustCompile(`^[ \t]*` + p + `$`)
}

var patterns = func() (l []*regexp.Regexp) {
	for _, f := range forms {
		l = append(l, f.pattern())
	}
	return l
}()

var (
	saysNothing = regexp.MustCompile(`^[ \t]*(#.*)?$`)
	mayStand    = regexp.MustCompile(`^[\t -~]*$`)
	greatest    = big.NewInt(api.MaxNum)
)

// values are what the words of a line are that has a form; nil, if a number of it is too great.
func (f form) values(found []string) (v []int, text string) {
	v = []int{}
	kinds := strings.Join(strings.Fields(strings.NewReplacer("done", "", "RT", "R T").Replace(f.words))[1:], "")
	for i, kind := range kinds {
		w := found[1+i]
		switch {
		case kind == 'W':
			v = append(v, strings.Index("ab", w))
		case kind == 'K':
			for j, k := range keys {
				if k.name == w {
					v = append(v, j)
				}
			}
		case kind == 'T' || kind == 'H':
			text = w
		case w == "all":
			v = append(v, all)
		default:
			n, _ := new(big.Int).SetString(w, 10)
			if n.Cmp(greatest) > 0 {
				return nil, ""
			}
			v = append(v, int(n.Int64()))
		}
	}
	return v, text
}

// line tells whether a line may stand where it does, and does what it says.
func (r *reading) line(l string) bool {
	if !mayStand.MatchString(l) || saysNothing.MatchString(l) {
		return mayStand.MatchString(l)
	}
	for i, f := range forms {
		found := patterns[i].FindStringSubmatch(l)
		if found == nil || f.setting && len(r.events) > 0 {
			continue
		}
		v, text := f.values(found)
		if v == nil || strings.HasPrefix(f.words, "fill") && v[3] > 65536 {
			return false
		}
		f.does(r, v, text)
		return true
	}
	return false
}

// readAs reads a text as the chapter says.
func readAs(text string) reading {
	r := reading{room: [2]int{1000000, 1000000}}
	for who := range r.c {
		r.c[who].Peers = []api.Peer{{}}
		for _, k := range keys {
			if k.at != nil {
				*k.at(&r.c[who]) = k.usual
			}
		}
	}
	r.c[1].Id = 2
	for i, l := range strings.Split(text, "\n") {
		if !r.line(l) {
			r.bad = i + 1
			return r
		}
	}
	for who := range r.c {
		c, other := &r.c[who], r.c[1-who].Id
		if c.Services == nil {
			c.Services = []int{1}
		}
		if c.Contacts == nil {
			c.Contacts = []api.Contact{{From: 0, To: 1 << 40, Rate: 10}}
		}
		c.Peers[0].Id = other
		for i := range c.Contacts {
			c.Contacts[i].Peer = other
		}
	}
	return r
}

// answers is what the model answers.
func answers(text string) string {
	if len(text) > 200000 {
		return "error 2\n"
	}
	r := readAs(text)
	if r.bad > 0 {
		return fmt.Sprintf("error 170 at line %d\n", r.bad)
	}
	told, no := world.Run(r.c, r.room, r.events)
	if no != api.OK {
		return fmt.Sprintf("error %d\n", no)
	}
	return asText(told)
}

// asText is lines as the second table has them.
func asText(told []api.Line) string {
	var b bytes.Buffer
	for _, x := range told {
		fmt.Fprintf(&b, "%d %c %s\n", x.Tick, "ab"[x.Who], lineText(x))
	}
	return b.String()
}

func lineText(x api.Line) string {
	switch {
	case x.Kind == api.LineAnswer && x.Err != 0:
		return fmt.Sprint("error ", int(x.Err))
	case x.Kind == api.LineAnswer && x.Number == 0:
		return "ok"
	case x.Kind == api.LineAnswer:
		return fmt.Sprint("ok ", x.Number)
	case x.Kind == api.LineDown:
		return "down"
	case x.Kind == api.LineSent:
		return fmt.Sprint("sends ", x.Number)
	}
	n := x.Notice
	s := fmt.Sprintf("%d:%d", n.Session.Origin, n.Session.Number)
	last, replayed := "", ""
	if n.Last {
		last = " last"
	}
	if n.Replayed {
		replayed = " replayed"
	}
	return map[int]string{
		api.NoteStart: fmt.Sprintf("start %s service %d", s, n.Service),
		api.NoteGreen: fmt.Sprintf("green %s service %d at %d %s%s", s, n.Service, n.Offset, byteText(n.Data), last),
		api.NoteRed:   fmt.Sprintf("red %s service %d %s", s, n.Service, byteText(n.Data)),
		api.NoteGone:  fmt.Sprintf("gone %s why %d", s, n.How),
		api.NoteOff:   fmt.Sprintf("off %s why %d", s, n.How),
		api.NoteSent:  fmt.Sprintf("sent %s", s),
		api.NoteDone:  fmt.Sprintf("done %s", s),
	}[n.Kind] + replayed
}

var quotes = func() (l [256]string) {
	for i := range l {
		l[i] = fmt.Sprintf("\\%03d", i)
		if i >= 32 && i <= 126 {
			l[i] = string(rune(i))
		}
	}
	l['"'], l['\\'] = `\"`, `\\`
	return l
}()

func byteText(data []byte) string {
	var b strings.Builder
	for _, x := range data {
		b.WriteString(quotes[x])
	}
	return `"` + b.String() + `"`
}
