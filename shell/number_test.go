package shell_test

import (
	"strings"
	"testing"
)

// numbers are words that are numbers.
var numbers = []string{"0", "1", "9", "10", "99", "100", "1000", "65536", "1099511627776", "999999999999999999", "1000000000000000000", "4611686018427387902", most}

// noNumbers are words that are none.
var noNumbers = []string{
	"00", "01", "000", "007", "0000000000000000000", "0000000000000000001", "00000000000000000000", "0" + most,
	oneMore, "4611686018427387910", "4611686018427387999", "4700000000000000000", "9223372036854775807", "9223372036854775808", "9999999999999999999",
	"10000000000000000000", "18446744073709551615", "18446744073709551616", "18446744073709551617", "36893488147419103233", "99999999999999999999", "100000000000000000000000",
	"-1", "+1", "-0", "+0", "--1", "1-", "-", "+", "-" + most,
	"1x", "x1", "x", "1x1", "0x1", "0x", "1e3", "1.0", "1.", ".1", "1,000", "1_000", "0b1", "0o7", "1:1", "a", "b", "done", "1/2", "1'", "\"1\"", "(1)", "1#", "#", "#1", "1;", "$1", "1a", "f", "ff", "/", ":", "1/", "1:", "A", "~", "!",
}

// A number, at each place where one can stand: what is one is taken, what is none is not.
func TestP171Numbers(t *testing.T) {
	for _, x := range ways {
		words := strings.Fields(x)
		for i, w := range words {
			if w[0] < '0' || w[0] > '9' || words[0] == "hex" {
				continue
			}
			for _, n := range numbers {
				fill := words[0] == "fill" && i == 4 && len(n) > 5
				got := do(t, with(words, i, n))
				fatalIf(t, strings.Contains(got, "170") != fill, "%s: %s: %s", x, n, got)
			}
			for _, n := range noNumbers {
				noneAt(t, "1", with(words, i, strings.ReplaceAll(n, "/", "|")))
			}
			red := (words[0] == "send" || words[0] == "fill") && i == 3
			got := do(t, with(words, i, "all"))
			fatalIf(t, strings.Contains(got, "170") == red, "%s: all: %s", x, got)
		}
	}
	for _, x := range []string{"send a 1 ", "fill a 1 "} {
		end := map[string]string{"send": "xyz", "fill": "3 5"}[strings.Fields(x)[0]]
		for _, n := range numbers {
			fatalIf(t, strings.Contains(do(t, x+n+" "+end), "170"), "%s%s", x, n)
		}
		for _, n := range noNumbers {
			noneAt(t, "1", x+strings.ReplaceAll(n, "/", "|")+" "+end)
		}
		for _, n := range []string{"All", "ALL", "al", "alll", "all1", "1all", "\"all\"", "any"} {
			noneAt(t, "1", x+n+" "+end)
		}
	}
}

// What a number is, told by what comes of it.
func TestP171NumbersAsTheyAre(t *testing.T) {
	for _, n := range numbers[1:] {
		if n == "1" || n == most {
			continue
		}
		tells(t, "set b id "+n+"/send b 1 all x/tick 1", "0 b ok 1/1 b sent "+n+":1/1 b sends 1/")
		tells(t, "serve b "+n+"/send a "+n+" 0 x/tick 2", "0 a ok 1/1 a sent 1:1/1 a sends 1/2 b green 1:1 service "+n+" at 0 \"x\" last/")
	}
	tells(t, "set b id "+most+"/send b 1 all x/tick 1", "0 b ok 1/1 b sent "+most+":1/1 b sends 1/")
	tells(t, "serve b 0/send a 0 0 x/tick 2", "0 a ok 1/1 a sent 1:1/1 a sends 1/2 b green 1:1 service 0 at 0 \"x\" last/")
	for digit := range 10 {
		n := strings.Repeat(string(rune('1'+digit%9)), 3) + string(rune('0'+digit))
		tells(t, "set b id "+n+"/send b 1 all x/tick 1", "0 b ok 1/1 b sent "+n+":1/1 b sends 1/")
	}
}
