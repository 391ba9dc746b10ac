package tests

import (
	"fmt"
	"math/rand"
	"regexp"
	"slices"
	"strconv"
	"strings"
	"testing"

	"loop.example/maltclaim/impl"
)

// Sessions are held against the document's table, written out anew here: each line is one of these forms, or bad.

var plainForms = []struct {
	form *regexp.Regexp
	play func(b impl.ClaimBook, w []string) (impl.ClaimBook, string)
}{
	{plainForm("foe", 2), plainPlayFoe},
	{plainForm("spot", 4), plainPlaySpot},
	{plainForm("valves", 1), func(b impl.ClaimBook, w []string) (impl.ClaimBook, string) {
		next := tidyBook(b)
		next.Valves = plainList(w[1])
		return plainIfOk(b, next)
	}},
	{plainForm("move", 5), func(b impl.ClaimBook, w []string) (impl.ClaimBook, string) {
		return plainTold(plainGrant(b, plainWant(1, plainList(w[1]), w[2:])))
	}},
	{plainForm("clean", 4), func(b impl.ClaimBook, w []string) (impl.ClaimBook, string) {
		return plainTold(plainGrant(b, plainWant(2, nil, w[1:])))
	}},
	{plainForm("permit", 4), func(b impl.ClaimBook, w []string) (impl.ClaimBook, string) {
		return plainTold(plainGrant(b, plainWant(3, nil, w[1:])))
	}},
	{plainForm("stop", 1), func(b impl.ClaimBook, w []string) (impl.ClaimBook, string) {
		return plainTold(plainStop(b, plainNumber(w[1])))
	}},
	{plainForm("over", 2), func(b impl.ClaimBook, w []string) (impl.ClaimBook, string) {
		return plainTold(plainOver(b, plainNumber(w[1]), plainNumber(w[2]), false))
	}},
	{plainForm("cleaned", 1), func(b impl.ClaimBook, w []string) (impl.ClaimBook, string) {
		return plainTold(plainOver(b, plainNumber(w[1]), 0, true))
	}},
	{plainForm("show", 1), plainPlayShow},
	{plainForm("valve", 1), func(b impl.ClaimBook, w []string) (impl.ClaimBook, string) {
		may, shut := plainValve(b, w[1])
		return b, fmt.Sprint(may) + " " + plainListWord(strings.Fields(strings.Trim(fmt.Sprint(shut), "[]")))
	}},
}

func plainForm(word string, behind int) *regexp.Regexp {
	return regexp.MustCompile(`\A` + word + strings.Repeat(` ([^ ]*)`, behind) + `\z`)
}

func plainPlayFoe(b impl.ClaimBook, w []string) (impl.ClaimBook, string) {
	next := tidyBook(b)
	next.Foes = append(next.Foes, impl.ClaimFoe{A: w[1], B: w[2]})
	return plainIfOk(b, next)
}

func plainPlaySpot(b impl.ClaimBook, w []string) (impl.ClaimBook, string) {
	in := plainNumber(w[3])
	next := tidyBook(b)
	next.Spots = append([]impl.ClaimSpot{{Name: w[1], Cap: plainNumber(w[2]), Least: in, Most: in, May: plainList(w[4])}}, next.Spots...)
	slices.SortStableFunc(next.Spots, func(s, t impl.ClaimSpot) int { return strings.Compare(s.Name, t.Name) })
	return plainIfOk(b, next)
}

func plainPlayShow(b impl.ClaimBook, w []string) (impl.ClaimBook, string) {
	s := plainSpot(b, w[1])
	if s == nil {
		return b, "none"
	}
	return b, fmt.Sprintf("%d-%d of %d %s", s.Least, s.Most, s.Cap, plainListWord(s.May))
}

func plainIfOk(b, next impl.ClaimBook) (impl.ClaimBook, string) {
	if plainBookOk(next) {
		return next, "ok"
	}
	return b, "no"
}

func plainTold(next impl.ClaimBook, code int) (impl.ClaimBook, string) {
	return next, fmt.Sprintf("code %d", code)
}

func plainListWord(list []string) string {
	if len(list) == 0 {
		return "-"
	}
	return strings.Join(list, ",")
}

func plainList(word string) []string {
	var list []string
	if word != "-" {
		list = strings.Split(word, ",")
	}
	return list
}

var plainDecimals = regexp.MustCompile(`\A(0|[1-9][0-9]{0,6})\z`)

func plainNumber(word string) int {
	n := -1
	if plainDecimals.MatchString(word) {
		n, _ = strconv.Atoi(word)
	}
	return n
}

var (
	plainFromForm = regexp.MustCompile(`(?s)\A([^<]*)<([^<]*)\z`)
	plainToForm   = regexp.MustCompile(`(?s)\A([^>]*)>([^>]*)\z`)
)

func plainWant(kind int, stuffs, w []string) impl.ClaimWant {
	want := impl.ClaimWant{Kind: kind, Stuffs: stuffs, Number: plainNumber(w[0]), Opens: plainList(w[2]), Shuts: plainList(w[3])}
	for _, use := range plainList(w[1]) {
		u := impl.ClaimUse{Name: use, Role: 3}
		if m := plainFromForm.FindStringSubmatch(use); m != nil {
			u = impl.ClaimUse{Name: m[1], Role: 1, Amount: plainNumber(m[2])}
		} else if m := plainToForm.FindStringSubmatch(use); m != nil {
			u = impl.ClaimUse{Name: m[1], Role: 2, Amount: plainNumber(m[2])}
		}
		want.Uses = append(want.Uses, u)
	}
	return want
}

// plainLine is the book behind a line, and its answer.
func plainLine(b impl.ClaimBook, line string) (impl.ClaimBook, string) {
	for _, f := range plainForms {
		if w := f.form.FindStringSubmatch(line); w != nil {
			return f.play(b, w)
		}
	}
	return b, "bad"
}

func plainSession(text string) string {
	lines := strings.SplitAfter(text, "\n")
	if lines[len(lines)-1] == "" {
		lines = lines[:len(lines)-1]
	}
	if len(text) > 10000 || len(lines) > 200 {
		return "too long\n"
	}
	var b impl.ClaimBook
	answer, all := "", ""
	for _, line := range lines {
		b, answer = plainLine(b, strings.TrimSuffix(line, "\n"))
		all += answer + "\n"
	}
	return all
}

func checkAnySession(t *testing.T, text string) string {
	t.Helper()
	got := sessionOf(t, text)
	if asked := plainSession(text); got != asked {
		t.Errorf("%q is answered %q, the document asks for %q", text, got, asked)
	}
	return got
}

// checkBeginnings: promise 8. A piece of the text up to any byte has the same answers to the lines that are whole in it.
func checkBeginnings(t *testing.T, text string, ends []int) {
	t.Helper()
	all := impl.ClaimSession(text)
	if all == "too long\n" {
		return
	}
	for _, end := range ends {
		piece := text[:end]
		lines := strings.Count(piece, "\n")
		got := strings.SplitAfterN(impl.ClaimSession(piece), "\n", lines+1)
		asked := strings.SplitAfterN(all, "\n", lines+1)
		if !slices.Equal(got[:lines], asked[:lines]) {
			t.Errorf("the first %d lines of %q are answered %q, and in the whole %q", lines, text, got[:lines], asked[:lines])
		}
	}
}

// usesWord writes uses as a line has them.
func usesWord(uses []impl.ClaimUse) string {
	var list []string
	for _, u := range uses {
		switch u.Role {
		case impl.ClaimFrom:
			list = append(list, fmt.Sprintf("%s<%d", u.Name, u.Amount))
		case impl.ClaimTo:
			list = append(list, fmt.Sprintf("%s>%d", u.Name, u.Amount))
		default:
			list = append(list, u.Name)
		}
	}
	return plainListWord(list)
}

// wantLine writes a want as a line has it.
func wantLine(w impl.ClaimWant) string {
	rest := fmt.Sprintf("%d %s %s %s", w.Number, usesWord(w.Uses), plainListWord(w.Opens), plainListWord(w.Shuts))
	switch w.Kind {
	case impl.ClaimMove:
		return "move " + plainListWord(w.Stuffs) + " " + rest
	case impl.ClaimClean:
		return "clean " + rest
	}
	return "permit " + rest
}

// stationLines sets a station up, its places in any order.
func (c chance) stationLines() []string {
	b := c.station()
	var lines []string
	for _, i := range c.Perm(len(b.Spots))[:4+c.Intn(5)] {
		s := b.Spots[i]
		lines = append(lines, fmt.Sprintf("spot %s %d %d %s", s.Name, s.Cap, s.Least, plainListWord(s.May)))
	}
	for _, f := range b.Foes {
		lines = append(lines, "foe "+f.A+" "+f.B)
	}
	return append(lines, "valves "+plainListWord(b.Valves))
}

// anyLine is a line that mostly has something to say at this book.
func (c chance) anyLine(b impl.ClaimBook) string {
	number := b.Seen + 1 - c.Intn(4)
	if n := len(b.Parts); n > 0 && c.Intn(8) > 0 {
		number = b.Parts[c.Intn(n)].Want.Number
	}
	switch c.Intn(14) {
	case 0:
		return "foe " + c.text() + " " + c.text()
	case 1:
		return fmt.Sprintf("spot %s %d %d %s", c.text(), c.number(9), c.number(5), plainListWord(c.names(2)))
	case 2:
		return "valves " + plainListWord(slices.DeleteFunc(slices.Clone(b.Valves), func(string) bool { return c.Intn(9) == 0 }))
	case 3, 4:
		return fmt.Sprintf("stop %d", number)
	case 5, 6:
		return fmt.Sprintf("over %d %d", number, c.number(4))
	case 7:
		return fmt.Sprintf("cleaned %d", number)
	case 8:
		return "show " + c.text()
	case 9:
		return "valve " + c.text()
	}
	return wantLine(c.claim(b))
}

// spoil changes a byte, takes one out or puts one in.
func (c chance) spoil(line string) string {
	signs := " ,<>-0123456789abcnz\r\t\x00\xff\xc3"
	at := c.Intn(len(line) + 1)
	sign := signs[c.Intn(len(signs))]
	switch c.Intn(3) {
	case 0:
		return line[:at] + string([]byte{sign}) + line[at:]
	case 1:
		return line[:at] + line[min(at+1, len(line)):]
	}
	return line[:at] + string([]byte{sign}) + line[min(at+1, len(line)):]
}

// anySession follows the book by the plain writing, so that its lines fit to it.
func (c chance) anySession(lines, spoiltOf int) string {
	var b impl.ClaimBook
	all := ""
	for _, line := range c.stationLines() {
		b, _ = plainLine(b, line)
		all += line + "\n"
	}
	for range lines {
		line := c.anyLine(b)
		if c.Intn(spoiltOf) == 0 {
			line = c.spoil(line)
		}
		b, _ = plainLine(b, line)
		all += line + "\n"
	}
	return all
}

// kindOfAnswer is an answer without what hangs on the numbers and names in it.
func kindOfAnswer(answer string) string {
	switch {
	case strings.HasPrefix(answer, "code "), slices.Contains([]string{"ok", "no", "bad", "none"}, answer):
		return answer
	case strings.Contains(answer, " of "):
		return "shown"
	case answer == "0 -":
		return "neither"
	case strings.HasPrefix(answer, "0 "):
		return "shut"
	}
	return "opened"
}

func TestSessionsOfStations(t *testing.T) {
	c := chance{rand.New(rand.NewSource(9))}
	count := map[string]int{}
	for range 300 {
		text := c.anySession(100, 12)
		got := checkAnySession(t, text)
		for _, answer := range strings.Split(strings.TrimSuffix(got, "\n"), "\n") {
			count[kindOfAnswer(answer)]++
		}
		ends := []int{0, len(text)}
		for range 6 {
			ends = append(ends, c.Intn(len(text)))
		}
		checkBeginnings(t, text, ends)
	}
	for _, kind := range []string{"ok", "no", "bad", "none", "shown", "neither", "shut", "opened",
		"code 0", "code 2", "code 3", "code 4", "code 5", "code 6", "code 7", "code 8", "code 9", "code 10", "code 11", "code 12"} {
		if count[kind] < 30 {
			t.Errorf("too few of %q: %v", kind, count)
		}
	}
	if count["code 1"] > 0 {
		t.Errorf("a session had a book that was not ok: %v", count)
	}
}

// Bytes of every kind, and signs that a session is made of.
func TestSessionsOfAnyBytes(t *testing.T) {
	c := chance{rand.New(rand.NewSource(10))}
	pieces := []string{"foe", "spot", "valves", "move", "clean", "permit", "stop", "over", "cleaned", "show", "valve", " ", " ", " ", " ", " ", "\n", "\n", "\n",
		"-", "-", ",", "<", ">", "0", "1", "2", "7", "00", "a", "b", "c", "ale", "lye", "\r", "\t", "\x00", "\xff", "é", "😀", "\u2028"}
	for range 4000 {
		var text strings.Builder
		for range c.Intn(80) {
			if c.Intn(12) == 0 {
				text.WriteByte(byte(c.Intn(256)))
			} else {
				text.WriteString(pieces[c.Intn(len(pieces))])
			}
		}
		x := text.String()
		checkAnySession(t, x)
		checkBeginnings(t, x, []int{c.Intn(len(x) + 1), c.Intn(len(x) + 1)})
	}
	for range 400 {
		raw := make([]byte, c.Intn(300))
		c.Read(raw)
		checkAnySession(t, string(raw))
		checkBeginnings(t, string(raw), []int{c.Intn(len(raw) + 1)})
	}
	for i := range 256 {
		b := string([]byte{byte(i)})
		for _, x := range []string{b, b + b, "show " + b + "\nvalves a\nvalve " + b, "spot " + b + " 1 1 " + b + "\nshow " + b, "valves a\npermit 1 - - a\nstop 1" + b + "\nstop " + b + "1\nover 1 " + b + "\n", "show a" + b + "show a\n"} {
			checkAnySession(t, x)
			for end := range len(x) {
				checkBeginnings(t, x, []int{end})
			}
		}
	}
}

// Promise 8 at every place of one text, and around the limits.
func TestSessionBeginnings(t *testing.T) {
	c := chance{rand.New(rand.NewSource(11))}
	text := c.anySession(30, 6)
	var ends []int
	for end := range len(text) + 1 {
		ends = append(ends, end)
	}
	checkBeginnings(t, text, ends)
	for lines := 170; lines <= 200; lines++ {
		long := c.anySession(lines, 10)
		checkAnySession(t, long)
		if len(long) <= 10000 {
			checkBeginnings(t, long, []int{len(long) / 2, len(long) - 1})
		}
	}
}
