package tests

import (
	"fmt"
	"slices"
	"strings"
	"testing"

	"loop.example/maltclaim/impl"
)

// exchange is a line of a session, and the answer that the document asks for.
type exchange struct{ line, answer string }

// sessionOf asks ClaimSession, and looks at what is asked of every text: one line of answer to each line, and the same
// answers again.
func sessionOf(t *testing.T, text string) string {
	t.Helper()
	got := impl.ClaimSession(text)
	if again := impl.ClaimSession(text); again != got {
		t.Errorf("another answer to the same text %q: %q, %q", text, got, again)
	}
	lines := strings.Count(text, "\n")
	if text != "" && !strings.HasSuffix(text, "\n") {
		lines++
	}
	if lines > 200 || len(text) > 10000 {
		if got != "too long\n" {
			t.Errorf("a text of %d bytes and %d lines is answered %q", len(text), lines, got)
		}
	} else if strings.Count(got, "\n") != lines || got != "" && !strings.HasSuffix(got, "\n") {
		t.Errorf("%d lines are answered %q", lines, got)
	}
	return got
}

// checkTalk plays the lines once with a newline behind the last one, and once without.
func checkTalk(t *testing.T, name string, talk []exchange) {
	t.Helper()
	var text, asked strings.Builder
	for _, e := range talk {
		text.WriteString(e.line + "\n")
		asked.WriteString(e.answer + "\n")
	}
	whole := text.String()
	texts := []string{whole}
	if n := len(talk); n > 0 && talk[n-1].line != "" {
		texts = append(texts, strings.TrimSuffix(whole, "\n"))
	}
	for _, x := range texts {
		if got := sessionOf(t, x); got != asked.String() {
			t.Errorf("%s: %q\nis answered\n%s\nthe document asks for\n%s", name, x, got, asked.String())
		}
	}
}

// brewery is what most of these sessions start with.
func brewery() []exchange {
	return []exchange{
		{"foe ale lye", "ok"},
		{"spot j 0 0 -", "ok"},
		{"spot keg 40 0 -", "ok"},
		{"spot tun 100 60 ale,malt", "ok"},
		{"valves a,b,c,d", "ok"},
	}
}

// afterBrewery plays these behind the brewery.
func afterBrewery(t *testing.T, name string, talk ...exchange) {
	t.Helper()
	checkTalk(t, name, append(brewery(), talk...))
}

func TestSessionExample(t *testing.T) {
	checkTalk(t, "the document's example", append(brewery(), []exchange{
		{"move ale 1 j,keg>30,tun<30 a,b c", "code 8"},
		{"move ale,malt 2 j,keg>30,tun<30 a,b c", "code 0"},
		{"show tun", "30-60 of 100 ale,malt"},
		{"show keg", "0-30 of 40 ale,malt"},
		{"valve a", "2 -"},
		{"valve c", "0 2"},
		{"move ale 3 keg<5 d -", "code 6"},
		{"permit 3 - - b", "code 4"},
		{"permit 4 - - c,d", "code 0"},
		{"move lye 5 - - a", "code 7"},
		{"over 2 20", "code 12"},
		{"stop 2", "code 0"},
		{"valve a", "0 -"},
		{"over 2 20", "code 0"},
		{"show tun", "40-40 of 100 ale,malt"},
		{"show keg", "20-20 of 40 ale,malt"},
		{"move lye 6 keg>5 d -", "code 7"},
		{"move ale,malt 7 keg>21 a -", "code 10"},
		{"move lye 8 j b -", "code 8"},
		{"stop 4", "code 0"},
		{"over 4 0", "code 0"},
		{"clean 9 j - a,b", "code 0"},
		{"stop 9", "code 0"},
		{"cleaned 9", "code 0"},
		{"show j", "0-0 of 0 -"},
		{"move lye 9 j a -", "code 4"},
		{"move lye 10 j b -", "code 0"},
		{"show j", "0-0 of 0 lye"},
	}...))
}

func TestSessionLines(t *testing.T) {
	checkTalk(t, "an empty text", nil)
	if got := sessionOf(t, ""); got != "" {
		t.Errorf("an empty text is answered %q", got)
	}
	checkTalk(t, "an empty line alone", []exchange{{"", "bad"}})
	checkTalk(t, "empty lines", []exchange{{"", "bad"}, {"", "bad"}, {"", "bad"}})
	afterBrewery(t, "empty lines within",
		exchange{"", "bad"}, exchange{"show keg", "0-0 of 40 -"}, exchange{"", "bad"}, exchange{"", "bad"}, exchange{"valve a", "0 -"}, exchange{"", "bad"})
	afterBrewery(t, "what ends no line",
		exchange{"show keg\r", "none"}, exchange{"show keg\x00", "none"}, exchange{"show keg\u2028", "none"}, exchange{"valve a\v", "0 -"}, exchange{"stop 1\f", "code 3"})
}

// eachKind is a line of each kind, with its answer behind the brewery.
func eachKind() []exchange {
	return []exchange{
		{"foe malt oil", "ok"},
		{"spot vat 9 5 oil", "ok"},
		{"valves a,b", "ok"},
		{"move ale,malt 1 keg>5,tun<5 a b", "code 0"},
		{"clean 1 keg - a", "code 0"},
		{"permit 1 tun - a", "code 0"},
		{"stop 1", "code 3"},
		{"over 1 0", "code 3"},
		{"cleaned 1", "code 3"},
		{"show tun", "60-60 of 100 ale,malt"},
		{"valve a", "0 -"},
	}
}

// spoilt are writings of a line that are none.
func spoilt(line string) []string {
	words := strings.Split(line, " ")
	list := []string{" " + line, line + " ", " " + line + " ", line + " x", line + " -", line + " 1", "x " + line, "\t" + line, words[0],
		strings.ToUpper(line), "x" + line, strings.ReplaceAll(line, " ", "  "), strings.ReplaceAll(line, " ", "\t"), strings.ReplaceAll(line, " ", "")}
	for i := range words {
		list = append(list, strings.Join(without(words, i), " "))
		list = append(list, strings.Join(slices.Insert(slices.Clone(words), i, words[i]), " "))
		if i > 0 {
			list = append(list, strings.Join(words[:i], " ")+"  "+strings.Join(words[i:], " "))
		}
	}
	return list
}

func TestSessionEachKindOfLine(t *testing.T) {
	as := []exchange{
		{"show j", "0-0 of 0 -"}, {"show keg", "0-0 of 40 -"}, {"show tun", "60-60 of 100 ale,malt"}, {"show vat", "none"},
		{"valve a", "0 -"}, {"permit 1 - - a,b,c,d", "code 0"}, {"foe lye malt", "ok"},
	}
	for _, e := range eachKind() {
		afterBrewery(t, "as it should be", e)
		for _, line := range spoilt(e.line) {
			afterBrewery(t, "spoilt", append([]exchange{{line, "bad"}}, as...)...)
			checkTalk(t, "spoilt, as the first line", []exchange{{line, "bad"}, {"show tun", "none"}, e0(e)})
		}
	}
	for _, line := range []string{"x", "-", "foes a b", "Foe a b", "move-", "showtun", "cleane 1", "valv a", "code 0", "ok", "too long", "\x00", "\xff", "é", " ", "  ", "\t", "#", "0"} {
		afterBrewery(t, "no command", append([]exchange{{line, "bad"}}, as...)...)
	}
}

// e0 is the line with its answer at a book with nothing in it.
func e0(e exchange) exchange {
	switch word, _, _ := strings.Cut(e.line, " "); word {
	case "move", "clean", "permit":
		e.answer = "code 2"
	case "show":
		e.answer = "none"
	}
	return e
}

// Each command ahead of any spot.
func TestSessionOfAnEmptyBook(t *testing.T) {
	for _, e := range eachKind() {
		checkTalk(t, "alone", []exchange{e0(e)})
	}
	checkTalk(t, "valves and foes alone", []exchange{
		{"show keg", "none"}, {"valve a", "0 -"}, {"stop 1", "code 3"}, {"over 1 1", "code 3"}, {"cleaned 1", "code 3"},
		{"valves a,b", "ok"}, {"foe ale lye", "ok"},
		{"clean 1 j - a", "code 2"}, {"clean 1 - - -", "code 2"}, {"permit 1 - - -", "code 2"}, {"move ale 1 - - -", "code 2"},
		{"move ale,lye 1 - a -", "code 8"}, {"move ale 2 - a b", "code 0"}, {"clean 3 - - b", "code 0"}, {"permit 4 - - b", "code 0"},
		{"valve a", "2 -"}, {"valve b", "0 2,3,4"},
		{"stop 3", "code 0"}, {"cleaned 3", "code 0"}, {"valve b", "0 2,4"},
	})
}

// An empty word is a word: it stands between two spaces, or behind the last.
func TestSessionEmptyWords(t *testing.T) {
	afterBrewery(t, "empty words", []exchange{
		{"show ", "none"}, {"valve ", "0 -"}, {"valves ", "no"}, {"stop ", "code 3"}, {"cleaned ", "code 3"}, {"over  ", "code 3"},
		{"foe  malt", "no"}, {"foe malt ", "no"}, {"spot  1 0 -", "no"}, {"spot v  0 -", "no"}, {"spot v 0  -", "no"}, {"spot v 0 0 ", "no"},
		{"permit  - - a", "code 2"}, {"permit 1  - a", "code 2"}, {"permit 1 -  a", "code 2"}, {"permit 1 - - ", "code 2"},
		{"move  1 - a -", "code 2"}, {"move ale 1 - a ", "code 2"},
		{"move ale 1 - a -", "code 0"},
	}...)
}

// notNumbers are read as -1.
func notNumbers() []string {
	return []string{"", "00", "01", "007", "0000001", "+1", "+0", "-1", "-0", "-", "--1", "1.0", "1.", ".1", "1e3", "0x1", "0b1", "1_0", "1,0",
		"10000000", "99999999", "00000001", "00000000", "12345678901234567890", "18446744073709551617", "9223372036854775808", strings.Repeat("1", 400),
		"a", "1a", "a1", "1\r", "\t1", "1\x00", "\x001", "1\xff", "٣", "１", "1１", "²", "one", "/", ":", "1/", "1:"}
}

// moved is taken as it is where nothing was to be moved, so that it tells what a word is read as.
func TestSessionNumbers(t *testing.T) {
	over := func(word, answer string) {
		t.Helper()
		afterBrewery(t, "moved", exchange{"permit 1 - - a", "code 0"}, exchange{"stop 1", "code 0"}, exchange{"over 1 " + word, answer}, exchange{"stop 1", map[string]string{"code 0": "code 3", "code 2": "code 0"}[answer]})
	}
	for _, word := range []string{"0", "1", "9", "10", "100", "1000000", "1234567", "9999999"} {
		over(word, "code 0")
	}
	for _, word := range notNumbers() {
		over(word, "code 2")
		afterBrewery(t, "no number",
			exchange{"permit " + word + " - - a", "code 2"}, exchange{"clean " + word + " - - a", "code 2"}, exchange{"move ale " + word + " - a -", "code 2"},
			exchange{"permit 1 - - a", "code 0"},
			exchange{"stop " + word, "code 3"}, exchange{"over " + word + " 0", "code 3"}, exchange{"cleaned " + word, "code 3"},
			exchange{"spot v " + word + " 0 -", "no"}, exchange{"spot v 1000 " + word + " -", "no"}, exchange{"spot v " + word + " " + word + " -", "no"},
			exchange{"show v", "none"})
	}
	for word, answer := range map[string]string{"0": "code 2", "1": "code 0", "999999": "code 0", "1000000": "code 0", "1000001": "code 2", "9999999": "code 2"} {
		afterBrewery(t, "Number", exchange{"permit " + word + " - - a", answer})
		afterBrewery(t, "Number", exchange{"clean " + word + " - - a", answer})
		afterBrewery(t, "Number", exchange{"move ale " + word + " - a -", answer})
	}
	for _, n := range []int{0, 1, 999, 1000, 1001, 1000000, 9999999} {
		answer, shown := "no", "none"
		if n <= 1000 {
			answer, shown = "ok", fmt.Sprintf("0-0 of %d -", n)
		}
		checkTalk(t, "Cap", []exchange{{fmt.Sprintf("spot v %d 0 -", n), answer}, {"show v", shown}})
		if n <= 1000 {
			shown = fmt.Sprintf("%d-%d of 1000 -", n, n)
		}
		checkTalk(t, "what is in it", []exchange{{fmt.Sprintf("spot v 1000 %d -", n), answer}, {"show v", shown}})
	}
	checkTalk(t, "more than it holds", []exchange{{"spot v 5 6 -", "no"}, {"spot v 5 5 -", "ok"}, {"show v", "5-5 of 5 -"}})
}

// notLists have a name that is none, or are not in order.
func notLists() []string {
	return []string{"", ",", "a,", ",a", "a,,b", "b,a", "a,a", "A", "nine-byte", "a,nine-byte", "a;b", "a.b", "é", "\xff", "a,\x00", "a<1", "a,-", "a,b,ab"}
}

func TestSessionLists(t *testing.T) {
	twelve := manyNames(12)
	for _, list := range []string{"a", "a,b", "a,b,c", "-,a", "--", "-a", "a,ab,b", "12345678", strings.Join(twelve, ",")} {
		first, _, _ := strings.Cut(list, ",")
		checkTalk(t, "valves", []exchange{{"valves " + list, "ok"}, {"permit 1 - - " + list, "code 0"}, {"valve " + first, "0 1"}, {"move ale 2 - " + list + " -", "code 7"}})
		checkTalk(t, "opens", []exchange{{"valves " + list, "ok"}, {"move ale 1 - " + list + " -", "code 0"}, {"valve " + first, "1 -"}})
	}
	for _, list := range append(notLists(), strings.Join(manyNames(13), ",")) {
		checkTalk(t, "no valves", []exchange{{"valves a,b", "ok"}, {"valves " + list, "no"}, {"permit 1 - - " + list, "code 2"}, {"move ale 1 - " + list + " -", "code 2"},
			{"clean 1 - - " + list, "code 2"}, {"move ale 1 - a b", "code 0"}})
	}
	checkTalk(t, "none", []exchange{{"valves a", "ok"}, {"permit 1 - - a", "code 0"}, {"valves -", "no"}, {"stop 1", "code 0"}, {"over 1 0", "code 0"},
		{"valves -", "ok"}, {"permit 2 - - a", "code 2"}, {"permit 2 - - -", "code 2"}})
	for _, list := range []string{"-", "ale", "ale,malt", "-,ale", strings.Join(twelve[:8], ",")} {
		checkTalk(t, "May", []exchange{{"spot v 5 5 " + list, "ok"}, {"show v", "5-5 of 5 " + list}})
		stuffs := exchange{"move " + list + " 1 v>5 - -", "code 0"}
		shown := exchange{"show v", "0-5 of 5 " + list}
		if list == "-" {
			stuffs.answer, shown.answer = "code 2", "0-0 of 5 -"
		}
		checkTalk(t, "stuffs", []exchange{{"spot v 5 0 -", "ok"}, stuffs, shown})
	}
	for _, list := range append(notLists(), strings.Join(twelve[:9], ",")) {
		checkTalk(t, "no stuffs", []exchange{{"spot v 5 0 " + list, "no"}, {"show v", "none"}, {"spot v 5 0 -", "ok"}, {"move " + list + " 1 v>5 - -", "code 2"}, {"show v", "0-0 of 5 -"}})
	}
	afterBrewery(t, "a valve that is opened and kept shut", exchange{"move ale 1 - a a", "code 2"}, exchange{"valve a", "0 -"})
	afterBrewery(t, "what only a move has", exchange{"permit 1 - a b", "code 2"}, exchange{"clean 1 - a b", "code 2"}, exchange{"permit 1 keg>1 - b", "code 2"}, exchange{"clean 1 tun<1 - b", "code 2"})
}

func TestSessionUses(t *testing.T) {
	as := []exchange{{"show j", "0-0 of 0 -"}, {"show keg", "0-0 of 40 -"}, {"show tun", "60-60 of 100 ale,malt"}}
	for uses, shown := range map[string][]string{
		"tun<5":          {as[0].answer, as[1].answer, "55-60 of 100 ale,malt"},
		"tun>5":          {as[0].answer, as[1].answer, "60-65 of 100 ale,malt"},
		"tun":            {as[0].answer, as[1].answer, as[2].answer},
		"tun<60":         {as[0].answer, as[1].answer, "0-60 of 100 ale,malt"},
		"tun>40":         {as[0].answer, as[1].answer, "60-100 of 100 ale,malt"},
		"j":              {"0-0 of 0 ale,malt", as[1].answer, as[2].answer},
		"keg>40":         {as[0].answer, "0-40 of 40 ale,malt", as[2].answer},
		"j,keg>7,tun<9":  {"0-0 of 0 ale,malt", "0-7 of 40 ale,malt", "51-60 of 100 ale,malt"},
		"j,keg,tun":      {"0-0 of 0 ale,malt", "0-0 of 40 ale,malt", as[2].answer},
		"keg>1,tun>1":    {as[0].answer, "0-1 of 40 ale,malt", "60-61 of 100 ale,malt"},
		"j,keg>12,tun>1": {"0-0 of 0 ale,malt", "0-12 of 40 ale,malt", "60-61 of 100 ale,malt"},
		"-":              {as[0].answer, as[1].answer, as[2].answer},
	} {
		afterBrewery(t, "uses", exchange{"move ale,malt 1 " + uses + " a -", "code 0"}, exchange{"show j", shown[0]}, exchange{"show keg", shown[1]}, exchange{"show tun", shown[2]})
	}
	for _, uses := range []string{"", ",", "j,", ",j", "j,,tun", "tun,j", "j,j", "tun<5,tun>5", "j<5,j", "-,j", "j,-", "vat", "vat<5", "vat>5",
		"tun<5>3", "tun>5<3", "tun<>5", "tun><5", "tun<<5", "tun>>5", "tun<5<5", "tun>5>5", "<tun<5", "<<tun>5", "tun<<5>5", "tun>>5<5",
		"tun<", "tun>", "<5", ">5", "<", ">", "<>", "><", "<<", ">>", "5<tun", "tun<x", "tun<-5", "tun<+5", "tun<05", "tun<0", "tun>0", "tun<1001", "tun>1001",
		"tun>00000005", "tun<5\r", "tun=5", "tun-5", "tun:5", "TUN<5", "tun<5j", "tun<5;j", "tun\x00<5", "\xff", "tun<٣"} {
		afterBrewery(t, "no uses", append([]exchange{
			{"move ale,malt 1 " + uses + " a -", "code 2"}, {"clean 1 " + uses + " - a", "code 2"}, {"permit 1 " + uses + " - a", "code 2"},
		}, as...)...)
	}
	afterBrewery(t, "more than there is, and than it holds", append([]exchange{
		{"move ale,malt 1 tun<61 - -", "code 9"}, {"move ale,malt 2 tun<1000 - -", "code 9"}, {"move ale,malt 3 keg>41 - -", "code 10"}, {"move ale,malt 4 keg>1000 - -", "code 10"},
	}, as...)...)
	checkTalk(t, "a place whose name is a sign for none", []exchange{{"spot - 5 0 -", "ok"}, {"spot a 5 0 -", "ok"}, {"permit 1 -,a - -", "code 0"}, {"show -", "0-0 of 5 -"}, {"permit 2 - - -", "code 2"}})
	var talk []exchange
	for _, name := range manyNames(8) {
		talk = append(talk, exchange{"spot " + name + " 1 0 -", "ok"})
	}
	checkTalk(t, "nine places and eight", append(talk, exchange{"permit 1 " + strings.Join(manyNames(9), ",") + " - -", "code 2"},
		exchange{"permit 1 " + strings.Join(manyNames(8), ",") + " - -", "code 0"}, exchange{"permit 2 n007 - -", "code 6"}))
}

func TestSessionFoes(t *testing.T) {
	checkTalk(t, "in order", []exchange{{"foe a b", "ok"}, {"foe a c", "ok"}, {"foe b c", "ok"}, {"foe b d", "ok"}})
	checkTalk(t, "not in order", []exchange{{"foe b a", "no"}, {"foe a a", "no"}, {"foe b d", "ok"}, {"foe b d", "no"}, {"foe b c", "no"}, {"foe a z", "no"}, {"foe d b", "no"}, {"foe b e", "ok"}})
	checkTalk(t, "no names", []exchange{{"foe A b", "no"}, {"foe a B", "no"}, {"foe a nine-byte", "no"}, {"foe a,b c", "no"}, {"foe - a", "ok"}})
	checkTalk(t, "what was answered no is no foe", []exchange{{"valves v", "ok"}, {"foe c d", "ok"}, {"foe b a", "no"}, {"foe a b", "no"}, {"move a,b 1 - v -", "code 0"}})
	checkTalk(t, "what was answered ok is one", []exchange{{"valves v", "ok"}, {"foe a b", "ok"}, {"move a,b 1 - v -", "code 8"}})
	checkTalk(t, "already together", []exchange{{"spot t 5 5 ale,lye", "ok"}, {"foe ale lye", "no"}, {"foe ale oil", "ok"}, {"move ale,lye 1 t<1 - -", "code 0"}})
	checkTalk(t, "foes first", []exchange{{"foe ale lye", "ok"}, {"spot t 5 5 ale,lye", "no"}, {"spot t 5 5 ale", "ok"}, {"spot u 5 5 lye", "ok"}})
	var talk []exchange
	for i, name := range manyNames(14) {
		talk = append(talk, exchange{"foe a " + name, []string{"ok", "no"}[btoi(i >= 12)]})
	}
	checkTalk(t, "as many as there may be", talk)
}

func TestSessionSpots(t *testing.T) {
	names := []string{"a", "ab", "b", "c"}
	for i := range 256 {
		order := []int{i & 3, i >> 2 & 3, i >> 4 & 3, i >> 6 & 3}
		var talk []exchange
		there := map[int]int{}
		for n, at := range order {
			if there[at] == 0 {
				there[at] = n + 1
				talk = append(talk, exchange{fmt.Sprintf("spot %s 9 %d -", names[at], n+1), "ok"})
			} else {
				talk = append(talk, exchange{fmt.Sprintf("spot %s 9 %d -", names[at], n+1), "no"})
			}
		}
		var uses []string
		for at, name := range names {
			if there[at] == 0 {
				talk = append(talk, exchange{"show " + name, "none"})
				continue
			}
			uses = append(uses, name+"<1")
			talk = append(talk, exchange{"show " + name, fmt.Sprintf("%d-%d of 9 -", there[at], there[at])})
		}
		talk = append(talk, exchange{"move x 1 " + strings.Join(uses, ",") + " - -", "code 0"})
		checkTalk(t, "spots in any order", talk)
	}
	afterBrewery(t, "of a name that is there", exchange{"spot keg 40 0 -", "no"}, exchange{"spot keg 50 5 ale", "no"}, exchange{"show keg", "0-0 of 40 -"}, exchange{"move ale 1 keg>3 - -", "code 0"},
		exchange{"spot keg 40 0 -", "no"}, exchange{"spot keh 1 1 -", "ok"}, exchange{"spot a 0 0 lye", "ok"}, exchange{"show keg", "0-3 of 40 ale"}, exchange{"stop 1", "code 0"}, exchange{"over 1 3", "code 0"}, exchange{"show keg", "3-3 of 40 ale"})
	checkTalk(t, "no names", []exchange{{"spot A 1 1 -", "no"}, {"spot nine-byte 1 1 -", "no"}, {"spot a,b 1 1 -", "no"}, {"spot é 1 1 -", "no"}, {"show A", "none"}, {"show a,b", "none"}})
	var talk []exchange
	for i, name := range manyNames(10) {
		talk = append(talk, exchange{"spot " + name + " 1 1 -", []string{"ok", "no"}[btoi(i >= 8)]})
	}
	checkTalk(t, "as many as there may be", append(talk, exchange{"show n007", "1-1 of 1 -"}, exchange{"show n008", "none"}))
}

func TestSessionValves(t *testing.T) {
	afterBrewery(t, "that a part uses", []exchange{
		{"move ale 1 - a b", "code 0"}, {"permit 2 - - b,c", "code 0"},
		{"valves b,c,d", "no"}, {"valves a,c", "no"}, {"valves a,b", "no"}, {"valves -", "no"}, {"valves x", "no"}, {"valves c,b,a", "no"},
		{"valve a", "1 -"}, {"valve b", "0 1,2"}, {"valve c", "0 2"}, {"valve d", "0 -"}, {"valve e", "0 -"},
		{"permit 3 - - d", "code 0"}, {"permit 4 - - e", "code 2"},
		{"valves a,b,c,d,e", "ok"}, {"permit 4 - - e", "code 0"}, {"valve e", "0 4"},
		{"stop 1", "code 0"}, {"valves b,c,d,e", "no"}, {"over 1 0", "code 0"}, {"valves b,c,d,e", "ok"}, {"permit 5 - - a", "code 2"},
		{"valve b", "0 2"}, {"valve a", "0 -"},
	}...)
	afterBrewery(t, "opened, kept shut by several, neither, not there", []exchange{
		{"move ale 1 - a c", "code 0"}, {"permit 12 - - c,d", "code 0"}, {"clean 123 keg - c", "code 0"},
		{"valve a", "1 -"}, {"valve b", "0 -"}, {"valve c", "0 1,12,123"}, {"valve d", "0 12"}, {"valve x", "0 -"}, {"valve -", "0 -"}, {"valve a,c", "0 -"}, {"valve A", "0 -"},
		{"stop 1", "code 0"}, {"valve a", "0 -"}, {"valve c", "0 1,12,123"},
		{"stop 12", "code 0"}, {"over 12 0", "code 0"}, {"valve c", "0 1,123"}, {"valve d", "0 -"},
	}...)
}

func TestSessionShow(t *testing.T) {
	afterBrewery(t, "show", []exchange{
		{"show j", "0-0 of 0 -"}, {"show keg", "0-0 of 40 -"}, {"show tun", "60-60 of 100 ale,malt"},
		{"show", "bad"}, {"show a", "none"}, {"show ke", "none"}, {"show kegs", "none"}, {"show KEG", "none"}, {"show j,keg", "none"}, {"show -", "none"}, {"show ale", "none"},
		{"spot vat 1000 1000 a,b,c,d,e,f,g,h", "ok"}, {"show vat", "1000-1000 of 1000 a,b,c,d,e,f,g,h"},
	}...)
}

// over is never done, cleaned is, and moves nothing.
func TestSessionOver(t *testing.T) {
	start := []exchange{{"spot j 0 0 lye", "ok"}, {"spot keg 9 0 ale", "ok"}, {"spot tun 9 4 ale", "ok"}, {"valves a", "ok"}, {"clean 1 j,keg - a", "code 0"}, {"move ale 2 tun<4 - a", "code 0"}}
	for _, c := range []struct{ line, first, j, second, tun string }{
		{"over %d 0", "code 0", "0-0 of 0 lye", "code 0", "4-4 of 9 ale"},
		{"over %d 3", "code 0", "0-0 of 0 lye", "code 0", "1-1 of 9 ale"},
		{"over %d 4", "code 0", "0-0 of 0 lye", "code 0", "0-0 of 9 ale"},
		{"over %d 5", "code 0", "0-0 of 0 lye", "code 2", "0-4 of 9 ale"},
		{"over %d x", "code 2", "0-0 of 0 lye", "code 2", "0-4 of 9 ale"},
		{"cleaned %d", "code 0", "0-0 of 0 -", "code 0", "4-4 of 9 ale"},
	} {
		one, two := fmt.Sprintf(c.line, 1), fmt.Sprintf(c.line, 2)
		early := func(code string) string { return map[string]string{"code 0": "code 12", "code 2": "code 2"}[code] }
		checkTalk(t, c.line, append(slices.Clone(start), []exchange{
			{one, early(c.first)}, {two, early(c.second)}, {"stop 1", "code 0"}, {"stop 2", "code 0"}, {"stop 2", "code 0"}, {"stop 3", "code 3"},
			{one, c.first}, {two, c.second}, {"show j", c.j}, {"show tun", c.tun},
			{one, map[string]string{"code 0": "code 3", "code 2": "code 2"}[c.first]},
		}...))
	}
}

// What ClaimGrant answers goes on in the session, a refusal that uses the number up too.
func TestSessionGrants(t *testing.T) {
	afterBrewery(t, "codes", []exchange{
		{"permit 5 - - x", "code 2"}, {"permit 5 x - -", "code 2"}, {"permit 5 - - a", "code 0"}, {"permit 5 - - a", "code 0"}, {"permit 5 - - b", "code 3"}, {"clean 5 - - a", "code 3"},
		{"permit 4 - - a", "code 4"}, {"move ale 6 - a -", "code 7"}, {"move ale 6 - b -", "code 4"}, {"clean 7 tun - -", "code 11"}, {"permit 7 tun - -", "code 4"},
		{"permit 8 tun - -", "code 0"}, {"clean 9 tun - -", "code 6"}, {"move ale,lye 10 - b -", "code 8"}, {"move lye 11 keg<1 b -", "code 9"}, {"move lye 12 keg>41 b -", "code 10"},
		{"move lye 13 keg>40 b c", "code 0"}, {"show keg", "0-40 of 40 lye"},
		{"permit 14 - - c", "code 0"}, {"permit 15 - - c", "code 0"}, {"permit 16 - - c", "code 0"}, {"permit 17 - - c", "code 5"}, {"permit 14 - - c", "code 0"},
		{"stop 14", "code 0"}, {"permit 17 - - c", "code 4"}, {"permit 18 - - c", "code 5"}, {"over 14 0", "code 0"}, {"permit 14 - - c", "code 4"}, {"permit 19 - - c", "code 0"},
		{"valve c", "0 13,15,16,19"},
	}...)
}

func TestSessionLimits(t *testing.T) {
	full := strings.Repeat("show "+strings.Repeat("x", 44)+"\n", 200)
	for _, c := range []struct {
		name, text, asked string
	}{
		{"both limits met", full, strings.Repeat("none\n", 200)},
		{"the last without its newline", full[:9999], strings.Repeat("none\n", 200)},
		{"one byte more, in a line", "x" + full, "too long\n"},
		{"one byte more, an empty line", full + "\n", "too long\n"},
		{"lines", strings.Repeat("\n", 200), strings.Repeat("bad\n", 200)},
		{"one line more, empty", strings.Repeat("\n", 201), "too long\n"},
		{"one line more, without a newline", strings.Repeat("\n", 200) + "x", "too long\n"},
		{"the last without a newline", strings.Repeat("\n", 199) + "x", strings.Repeat("bad\n", 200)},
		{"bytes", strings.Repeat("x", 10000), "bad\n"},
		{"bytes and a newline", strings.Repeat("x", 9999) + "\n", "bad\n"},
		{"one byte more", strings.Repeat("x", 10001), "too long\n"},
		{"one byte more, the newline", strings.Repeat("x", 10000) + "\n", "too long\n"},
		{"bytes that are no runes of their own", strings.Repeat("é", 5000), "bad\n"},
		{"one byte more than runes", strings.Repeat("é", 5000) + "x", "too long\n"},
		{"far beyond", strings.Repeat("valves a\n", 1000000), "too long\n"},
		{"a long list", "valves " + strings.Repeat(",", 9993), "no\n"},
		{"many words", "foe " + strings.Repeat(" ", 9996), "bad\n"},
		{"a long number", "stop " + strings.Repeat("1", 9995), "code 3\n"},
		{"many uses", "permit 1 " + strings.Repeat("a,", 4990) + "a - -", "code 2\n"},
	} {
		if got := sessionOf(t, c.text); got != c.asked {
			t.Errorf("%s: answered %.200q, the document asks for %.200q", c.name, got, c.asked)
		}
	}
}

// Nothing is kept from call to call: a session ends with its text.
func TestSessionKeepsNothing(t *testing.T) {
	afterBrewery(t, "a session", exchange{"permit 9 - - a", "code 0"})
	checkTalk(t, "another one", []exchange{{"show tun", "none"}, {"valve a", "0 -"}, {"stop 9", "code 3"}, {"permit 9 - - a", "code 2"}, {"valves a", "ok"}, {"permit 1 - - a", "code 0"}})
	afterBrewery(t, "the first again", exchange{"permit 9 - - a", "code 0"})
}
