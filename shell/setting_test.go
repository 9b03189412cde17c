package shell_test

import (
	"encoding/hex"
	"fmt"
	"strings"
	"testing"

	"lantern/api"
	"lantern/segment"
)

// hexOf is the digits of a segment's bytes.
func hexOf(t *testing.T, x api.Segment) string {
	b, no := segment.Print(x)
	fatalIf(t, no != api.OK, "error %d of %+v", no, x)
	return hex.EncodeToString(b)
}

// side is one engine, and the other one, as words of a text.
type side struct {
	me, other string
	id        int
}

var sides = []side{{"a", "b", 1}, {"b", "a", 2}}

// of is a text about this side: A stands for it, B for the other one.
func (s side) of(text string) string {
	return strings.NewReplacer("A", s.me, "B", s.other).Replace(text)
}

// comes is a line by which a red byte comes to this side, in a session of the other one's.
func (s side) comes(t *testing.T, kind, check int) string {
	x := api.Segment{Type: kind, Session: api.Session{Origin: 3 - s.id, Number: 5}, Service: 1, Data: []byte("x"), Check: check}
	return "hex A " + hexOf(t, x) + "/"
}

// close are texts of which at least one is answered otherwise, if the key is one less or one more than it is where nothing is set.
func (s side) close(t *testing.T, key string) []string {
	checks := ""
	for i := range 14 {
		checks += s.comes(t, api.RedCheck, 1+i)
	}
	full := "set A sessions 64/set A queue 65536/" + strings.Repeat("fill A 1 all 65536 0/", 15)
	return map[string][]string{
		"id":       {"send A 1 all x/tick 3", "send B 1 all x/tick 3"},
		"mtu":      {"fill A 1 0 992 0/tick 1", "fill A 1 0 993 0/tick 1"},
		"timeout":  {"lose/send A 1 all x/tick 25"},
		"retry":    {strings.Repeat("lose/", 9) + "send A 1 all x/tick 200"},
		"cycles":   {checks},
		"sessions": {strings.Repeat("fill A 1 0 1 0/", 12)},
		"hold":     {"open B 0 9 1000/fill B 1 all 65536 0/fill B 1 all 34464 0/send B 1 all x/tick 2"},
		"idle":     {s.comes(t, api.RedPlain, 0) + "tick 498/tick 1/tick 1/tick 1"},
		"every":    {"fill A 1 all 3000 0/tick 2"},
		"queue":    {"set A mtu 80/fill A 1 0 35730 0/send A 1 0 x"},
		"compact":  {"fill A 1 all 9946 0/cancel A A 1/crash A 1 0/tick 1", "fill A 1 all 9947 0/cancel A A 1/crash A 1 0/tick 1"},
		"room":     {full + "fill A 1 all 16597 0", full + "fill A 1 all 16598 0"},
	}[key]
}

// told is what the texts that are close to a key are answered, all in all, behind some lines.
func (s side) told(t *testing.T, ahead, key string) string {
	var out strings.Builder
	for _, x := range s.close(t, key) {
		out.WriteString(do(t, lines(s.of(ahead+x))))
		out.WriteString("=\n")
	}
	return out.String()
}

// usual is what a key is where nothing is set.
func (s side) usual(key string) int {
	for _, k := range keys {
		if k.name == key && key != "id" {
			return k.usual
		}
	}
	return s.id
}

// set is a line that sets a key of this side.
func (s side) set(key string, n int) string { return fmt.Sprintf("set A %s %d/", key, n) }

// The set-up: each key, never set, set once, set twice: it is the chapter's number, to the last digit, and the last setting counts.
func TestP171EachKey(t *testing.T) {
	t.Parallel()
	fatalIf(t, len(keys) != 12, "%d keys", len(keys))
	for _, s := range sides {
		for _, k := range keys {
			n := s.usual(k.name)
			never, once := s.told(t, "", k.name), s.told(t, s.set(k.name, n), k.name)
			fatalIf(t, strings.Contains(never, "error 140\n"), "%s: %s", k.name, never)
			fatalIf(t, never != once, "%s is not %d: %s\n%s", k.name, n, short(never), short(once))
			more := s.told(t, s.set(k.name, n+1), k.name)
			fatalIf(t, more == never, "%s: %d is as %d", k.name, n+1, n)
			fatalIf(t, s.told(t, s.set(k.name, n+1)+s.set(k.name, n), k.name) != never, "%s: the last one does not count", k.name)
			fatalIf(t, s.told(t, s.set(k.name, n)+s.set(k.name, n+1), k.name) != more, "%s: the first one counts", k.name)
			if n > 0 {
				fatalIf(t, s.told(t, s.set(k.name, n-1), k.name) == never, "%s: %d is as %d", k.name, n-1, n)
			}
		}
	}
}

// A key is at its engine alone, and is none of the others.
func TestP171KeysApart(t *testing.T) {
	tells(t, "set a id 5/send a 1 all x/send b 1 all y/tick 1", "0 a ok 1/0 b ok 1/1 a sent 5:1/1 a sends 1/1 b sent 2:1/1 b sends 1/")
	tells(t, "set b id 5/send a 1 all x/send b 1 all y/tick 1", "0 a ok 1/0 b ok 1/1 a sent 1:1/1 a sends 1/1 b sent 5:1/1 b sends 1/")
	tells(t, "set a id 2/set b id 1/send a 1 all x/tick 3", `0 a ok 1/1 a sent 2:1/1 a sends 1/2 b start 2:1 service 1/2 b red 2:1 service 1 "x"/2 b sends 1/3 a done 2:1/3 a sends 1/`)
	tells(t, "set a mtu 80/fill a 1 0 200 0/fill b 1 0 200 0/tick 1", "0 a ok 1/0 b ok 1/1 a sent 1:1/1 a sends 3/1 b sent 2:1/1 b sends 1/")
	tells(t, "set a timeout 3/lose/lose/send a 1 all x/send b 1 all y/tick 4", "0 a ok 1/0 b ok 1/1 a sent 1:1/1 a sends 1/1 b sent 2:1/1 b sends 1/4 a sends 1/")
	tells(t, "set b timeout 3/lose/lose/send a 1 all x/send b 1 all y/tick 4", "0 a ok 1/0 b ok 1/1 a sent 1:1/1 a sends 1/1 b sent 2:1/1 b sends 1/4 b sends 1/")
	tells(t, "set a room 0/send b 1 all y", "0 a error 5/0 b ok 1/")
	tells(t, "set b room 0/send a 1 all y", "0 b error 5/0 a ok 1/")
	for _, s := range sides {
		for _, k := range keys {
			for _, other := range keys {
				if other.name != k.name {
					do(t, lines(s.of(s.set(other.name, s.usual(other.name)+5)+s.set(k.name, s.usual(k.name)+7)+s.close(t, k.name)[0])))
				}
			}
		}
	}
}

// Each key at what it may be at the least and at the most, and one past it: world.Run says what may be.
func TestP171KeysAtTheirLimits(t *testing.T) {
	t.Parallel()
	for _, k := range []struct {
		name       string
		least, far int
	}{
		{"id", 1, api.MaxNum}, {"mtu", 80, 4096}, {"timeout", 1, 1 << 20}, {"retry", 1, 100}, {"cycles", 1, 1000}, {"sessions", 1, 64},
		{"hold", 1, 1 << 22}, {"idle", 1, 1 << 20}, {"every", 0, 65536}, {"queue", 1, 1 << 16}, {"compact", 1, api.MaxNum}, {"room", 0, api.MaxNum},
	} {
		for _, s := range sides {
			least := k.least
			if k.name == "id" {
				least = s.id // 1 is the other one's
			}
			for _, n := range []int{least, k.far} {
				plays(t, s.of(s.set(k.name, n)+"send A 1 all x/send B 1 1 yz/tick 9"))
			}
			if k.least > 0 {
				tells(t, s.of(s.set(k.name, k.least-1)+"tick 1"), "error 140/")
			}
			want := "error 140/"
			if k.far == api.MaxNum {
				want = "error 170 at line 1/"
			}
			tells(t, s.of(fmt.Sprintf("set A %s %d/tick 1", k.name, uint64(k.far)+1)), want)
		}
	}
	tells(t, "set a id 2", "error 140/")
	tells(t, "set b id 1/tick 1", "error 140/")
	tells(t, "set b id 1/set b id 2/tick 1", "")
	tells(t, "set a id 7/set b id 7", "error 140/")
}

// A key that is none.
func TestP171NoKeys(t *testing.T) {
	for _, key := range []string{"x", "ids", "i", "Id", "ID", "mtu1", "1", "a", "set", "retries", "service", "services", "contacts", "rate", "peer", "peers", "rules", "serve", "open", "#", "#id", "id#", "room/", "every,", "queue=", "=", "hold:"} {
		noneAt(t, "1", "set a "+strings.ReplaceAll(key, "/", "|")+" 5")
		noneAt(t, "1", "set b "+strings.ReplaceAll(key, "/", "|")+" 5")
	}
	noneAt(t, "1", "set a 5 id")
	noneAt(t, "1", "set id a 5")
	noneAt(t, "1", "set a id")
	noneAt(t, "1", "set a id all")
	noneAt(t, "1", "set a idid 5")
	noneAt(t, "1", "set a id 5 5")
	noneAt(t, "1", "set a id mtu 5")
}

// What an engine serves: 1, where no line of its own says it; else what its lines say, and no more.
func TestP171Services(t *testing.T) {
	green := func(service int) string { return fmt.Sprintf("send a %d 0 x/", service) }
	heard := func(service int) string { return fmt.Sprintf("2 b green 1:1 service %d at 0 \"x\" last/", service) }
	const sent = "0 a ok 1/1 a sent 1:1/1 a sends 1/"
	tells(t, green(1)+"tick 2", sent+heard(1))
	tells(t, green(0)+"tick 2", sent)
	tells(t, green(2)+"tick 2", sent)
	tells(t, "serve b 7/"+green(7)+"tick 2", sent+heard(7))
	tells(t, "serve b 7/"+green(1)+"tick 2", sent)
	tells(t, "serve a 7/"+green(1)+"tick 2", sent+heard(1))
	tells(t, "serve a 7/"+green(7)+"tick 2", sent)
	for _, service := range []int{0, 1, 7, api.MaxNum} {
		tells(t, "serve b 7/serve b 1/serve b 0/serve b "+most+"/"+green(service)+"tick 2", sent+heard(service))
	}
	tells(t, "serve a 1", "")
	tells(t, "serve b 1/"+green(1)+"tick 2", sent+heard(1))
	tells(t, "serve a 4/serve a 4", "error 140/")
	tells(t, "serve b 1/serve b 1", "error 140/")
	tells(t, "serve a 4/serve b 4", "")
	var many strings.Builder
	for i := range 16 {
		fmt.Fprintf(&many, "serve b %d/", 100+i)
	}
	tells(t, many.String()+green(115)+"tick 2", sent+heard(115))
	tells(t, many.String()+"serve b 99/"+green(115)+"tick 2", "error 140/")
	tells(t, many.String()+"serve a 99/"+green(115)+"tick 2", sent+heard(115))
}

// When an engine may send: at all times 10 a tick, where no line of its own says it; else what its lines say.
func TestP171Contacts(t *testing.T) {
	t.Parallel()
	const end = "1099511627776" // MaxTick
	for _, x := range []string{"", "open a 0 " + end + " 10/", "open b 0 5 1/", "open b 0 5 1/open a 0 " + end + " 10/"} {
		tells(t, x+"fill a 9 0 20000 0/tick 3", "0 a ok 1/1 a sends 10/2 a sends 10/3 a sent 1:1/3 a sends 1/")
	}
	for _, x := range []string{"", "open b 0 " + end + " 10/", "open a 0 5 1/"} {
		tells(t, x+"fill b 9 0 20000 0/tick 3", "0 b ok 1/1 b sends 10/2 b sends 10/3 b sent 2:1/3 b sends 1/")
	}
	tells(t, "tick 1000/tick 1000/send a 9 0 x/tick 1", "2000 a ok 1/2001 a sent 1:1/2001 a sends 1/")
	tells(t, "open b 0 5 1/fill a 1 0 9000 0/tick 1", "0 a ok 1/1 a sent 1:1/1 a sends 10/")
	tells(t, "open a 0 5 1/fill a 1 0 9000 0/tick 1", "0 a ok 1/1 a sends 1/")
	tells(t, "open a 0 5 1/open a 1 2 3/fill a 1 0 9000 0/tick 1", "0 a ok 1/1 a sends 4/")
	tells(t, "open a 7 8 2/open a 3 5 1/send a 9 0 x/send a 9 0 y/send a 9 0 z/send a 9 0 z/tick 20",
		"0 a ok 1/0 a ok 2/0 a ok 3/0 a ok 4/3 a sent 1:1/3 a sends 1/4 a sent 1:2/4 a sends 1/7 a sent 1:3/7 a sent 1:4/7 a sends 2/")
	tells(t, "open b 10 20 1/send a 1 all x/tick 12", `0 a ok 1/1 a sent 1:1/1 a sends 1/2 b start 1:1 service 1/2 b red 1:1 service 1 "x"/10 b sends 1/11 a done 1:1/11 a sends 1/`)
	tells(t, "open a 0 5 1/open b 0 5 1/set a id 8/set b id 9/send a 1 all x/tick 3", `0 a ok 1/1 a sent 8:1/1 a sends 1/2 b start 8:1 service 1/2 b red 8:1 service 1 "x"/2 b sends 1/3 a done 8:1/3 a sends 1/`)
	for _, x := range []string{"0 0 1", "5 4 1", "0 9 1001", "0 1099511627777 1", "0 " + most + " 1", most + " " + most + " " + most} {
		tells(t, "open a "+x, "error 140/")
		tells(t, "open b "+x+"/tick 1", "error 140/")
		tells(t, "open a 0 9 1/open a "+x+"/tick 1", "error 140/")
	}
	plays(t, "open a 0 9 1000/tick 1")
	plays(t, "open a 1099511627775 1099511627776 1/tick 1")
	tells(t, strings.Repeat("open a 0 9 1/", 100)+"fill a 9 0 65536 0/tick 1", "0 a ok 1/1 a sent 1:1/1 a sends 67/")
	tells(t, strings.Repeat("open a 0 9 1/", 101), "error 140/")
	tells(t, strings.Repeat("open a 0 9 1/", 100)+strings.Repeat("open b 0 9 1/", 100), "")
}

// Settings stand ahead of the first event, whatever they and it say.
func TestP171SettingsFirst(t *testing.T) {
	settings := []string{"set a id 1", "set b room 9", "serve a 4", "serve b 1", "open a 0 9 1", "open b 0 0 0"}
	events := []string{"send a 1 all x", "send a 1 0", "fill b 1 1 3 3", "cancel a b 4", "tick 1", "tick 0", "crash a 0 0", "crash b 9 9 done", "boot a", "hex a 00", "lose", "late 4", "late 0", "copy 1 2"}
	for _, x := range settings {
		for _, y := range events {
			fatalIf(t, strings.Contains(do(t, x+"\n"+y), "170"), "%s behind %s", y, x)
			noneAt(t, "2", y+"/"+x)
			noneAt(t, "3", x+"/"+y+"/"+x)
			noneAt(t, "5", x+"/"+y+"/"+y+"/#/"+x+"/"+x)
			fatalIf(t, strings.Contains(do(t, x+"\n"+x+"\n#\n"+y+"\n"+y), "170"), "%s behind %s", y, x)
		}
	}
}
