package tests

import (
	"math/rand"
	"slices"
	"strings"
	"testing"

	"loop.example/maltclaim/impl"
)

// The functions are held against the document's sentences, written out anew here, at arguments of any kind.

func plainName(s string) bool {
	return len(s) >= 1 && len(s) <= 8 && strings.Trim(s, "abcdefghijklmnopqrstuvwxyz0123456789-") == ""
}

func plainNames(list []string, most int) bool {
	return len(list) <= most && !slices.ContainsFunc(list, func(s string) bool { return !plainName(s) }) &&
		slices.IsSorted(list) && len(slices.Compact(slices.Clone(list))) == len(list)
}

func plainSubset(a, b []string) bool {
	return !slices.ContainsFunc(a, func(s string) bool { return !slices.Contains(b, s) })
}

func plainMeet(a, b []string) bool {
	return slices.ContainsFunc(a, func(s string) bool { return slices.Contains(b, s) })
}

func plainPlaces(w impl.ClaimWant) []string {
	var list []string
	for _, u := range w.Uses {
		list = append(list, u.Name)
	}
	return list
}

func plainWantOk(w impl.ClaimWant) bool {
	move := w.Kind == 1
	for _, u := range w.Uses {
		by := u.Role == 3 && u.Amount == 0
		if !by && !(move && (u.Role == 1 || u.Role == 2) && u.Amount > 0 && u.Amount <= 1000) {
			return false
		}
	}
	return w.Number > 0 && w.Number <= 1000000 && w.Kind > 0 && w.Kind < 4 &&
		plainNames(w.Stuffs, 8) && move == (len(w.Stuffs) > 0) &&
		plainNames(plainPlaces(w), 8) && plainNames(w.Opens, 12) && plainNames(w.Shuts, 12) &&
		!plainMeet(w.Opens, w.Shuts) && (move || len(w.Opens) == 0) &&
		(len(w.Uses) > 0 || len(w.Opens) > 0 || len(w.Shuts) > 0)
}

func plainFoesOk(b impl.ClaimBook) bool {
	var pairs []string
	for _, f := range b.Foes {
		if !plainName(f.A) || !plainName(f.B) || f.A >= f.B {
			return false
		}
		pairs = append(pairs, f.A+"\x00"+f.B)
	}
	return len(pairs) <= 12 && slices.IsSorted(pairs) && len(slices.Compact(pairs)) == len(b.Foes)
}

func plainSpotsOk(b impl.ClaimBook) bool {
	var names []string
	for _, s := range b.Spots {
		names = append(names, s.Name)
		if s.Cap < 0 || s.Cap > 1000 || s.Least < 0 || s.Least > s.Most || s.Most > s.Cap || !plainNames(s.May, 8) {
			return false
		}
		for _, f := range b.Foes {
			if slices.Contains(s.May, f.A) && slices.Contains(s.May, f.B) {
				return false
			}
		}
	}
	return plainNames(names, 8)
}

func plainPartsOk(b impl.ClaimBook) bool {
	last := 0
	for i, p := range b.Parts {
		w := p.Want
		if !plainWantOk(w) || w.Number <= last || w.Number > b.Seen || !plainSubset(w.Opens, b.Valves) || !plainSubset(w.Shuts, b.Valves) {
			return false
		}
		last = w.Number
		for _, q := range b.Parts[:i] {
			v := q.Want
			if plainMeet(plainPlaces(v), plainPlaces(w)) || plainMeet(v.Opens, w.Opens) || plainMeet(v.Opens, w.Shuts) || plainMeet(v.Shuts, w.Opens) {
				return false
			}
		}
		if slices.ContainsFunc(w.Uses, func(u impl.ClaimUse) bool { return !plainUseOk(b, w, u) }) {
			return false
		}
	}
	return len(b.Parts) <= 6
}

func plainUseOk(b impl.ClaimBook, w impl.ClaimWant, u impl.ClaimUse) bool {
	for _, s := range b.Spots {
		if s.Name != u.Name {
			continue
		}
		out := w.Kind == 1 && u.Role != 2 && !plainSubset(s.May, w.Stuffs)
		in := w.Kind == 1 && u.Role != 1 && !plainSubset(w.Stuffs, s.May)
		return u.Amount <= s.Most-s.Least && (w.Kind != 2 || s.Most == 0) && !out && !in
	}
	return false
}

func plainBookOk(b impl.ClaimBook) bool {
	return plainFoesOk(b) && plainSpotsOk(b) && plainNames(b.Valves, 12) && b.Seen >= 0 && b.Seen <= 1000000 && plainPartsOk(b)
}

// chance makes the arguments, the same in each run.
type chance struct{ *rand.Rand }

func (c chance) text() string {
	switch c.Intn(40) {
	case 0:
		return "nine-byte"
	case 1:
		bytes := make([]byte, c.Intn(12))
		c.Read(bytes)
		return string(bytes)
	}
	return string(rune('a' + c.Intn(6)))
}

func (c chance) number(usual int) int {
	if c.Intn(25) == 0 {
		odd := oddNumbers()
		return odd[c.Intn(len(odd))]
	}
	return c.Intn(usual + 1)
}

// names are in order, mostly.
func (c chance) names(most int) []string {
	var list []string
	for range c.Intn(most + 1) {
		list = append(list, c.text())
	}
	if c.Intn(20) > 0 {
		slices.Sort(list)
		list = slices.Compact(list)
	}
	return list
}

func (c chance) want(number int) impl.ClaimWant {
	w := impl.ClaimWant{Number: c.number(1) + number - 1, Kind: c.number(2) + 1, Opens: c.names(1), Shuts: c.names(2)}
	if w.Kind == impl.ClaimMove || c.Intn(20) == 0 {
		w.Stuffs = c.names(3)
	}
	if w.Kind != impl.ClaimMove && c.Intn(20) > 0 {
		w.Opens = nil
	}
	for _, name := range c.names(2) {
		u := impl.ClaimUse{Name: name, Role: impl.ClaimBy}
		if w.Kind == impl.ClaimMove && c.Intn(2) == 0 || c.Intn(20) == 0 {
			u = impl.ClaimUse{Name: name, Role: c.number(2) + 1, Amount: c.number(3)}
		}
		w.Uses = append(w.Uses, u)
	}
	return w
}

func (c chance) book() impl.ClaimBook {
	b := impl.ClaimBook{Valves: []string{"a", "b", "c", "d", "e", "f"}, Seen: c.number(12)}
	for range c.Intn(2) {
		b.Foes = append(b.Foes, impl.ClaimFoe{A: c.text(), B: c.text()})
	}
	for _, name := range []string{"a", "b", "c", "d", "e", "f"} {
		s := impl.ClaimSpot{Name: name, Cap: c.number(9), May: c.names(2)}
		if s.Cap > 0 && s.Cap < 10 && c.Intn(2) == 0 {
			s.Most = c.number(s.Cap)
			s.Least = min(s.Most, c.number(2))
		}
		b.Spots = append(b.Spots, s)
	}
	for i := range c.Intn(4) {
		b.Parts = append(b.Parts, impl.ClaimPart{Want: c.want(3*i + 1), Stopped: c.Intn(2) == 0})
	}
	return b
}

func TestWantsOfAnyKind(t *testing.T) {
	c := chance{rand.New(rand.NewSource(1))}
	count := map[bool]int{}
	for range 40000 {
		w := c.want(1)
		asked := plainWantOk(w)
		count[asked]++
		checkWants(t, []wantCase{{"any want", w, asked}})
	}
	if count[true] < 2000 || count[false] < 2000 {
		t.Errorf("too few of one kind: %v", count)
	}
}

func TestBooksOfAnyKind(t *testing.T) {
	c := chance{rand.New(rand.NewSource(2))}
	count := map[bool]int{}
	parts := 0
	for range 60000 {
		b := c.book()
		asked := plainBookOk(b)
		count[asked]++
		if asked {
			parts += len(b.Parts)
		}
		checkBooks(t, []bookCase{{"any book", b, asked}})
	}
	if count[true] < 2000 || count[false] < 2000 || parts < 1000 {
		t.Errorf("too few of one kind: %v, %d parts", count, parts)
	}
}

// nearBook is a book that is ok with one thing changed, which comes nearer to the edge than a book made by chance.
func (c chance) nearBook() impl.ClaimBook {
	b := aBook()
	s := &b.Spots[c.Intn(len(b.Spots))]
	w := &b.Parts[c.Intn(len(b.Parts))].Want
	texts := []*string{&s.Name, &b.Valves[c.Intn(len(b.Valves))], &s.May[c.Intn(len(s.May))], &w.Shuts[c.Intn(len(w.Shuts))], &w.Uses[c.Intn(len(w.Uses))].Name}
	numbers := []*int{&s.Cap, &s.Least, &s.Most, &b.Seen, &w.Number, &w.Kind, &w.Uses[0].Role, &w.Uses[c.Intn(len(w.Uses))].Amount}
	if c.Intn(2) == 0 {
		known := []string{"a", "ale", "b", "c", "d", "e", "f", "free", "hop", "j", "keg", "lye", "malt", "oil", "pan", "tun", "vat", "z", ""}
		*texts[c.Intn(len(texts))] = known[c.Intn(len(known))]
	} else {
		*numbers[c.Intn(len(numbers))] += c.Intn(5) - 2
	}
	return b
}

func TestBooksWithOneChange(t *testing.T) {
	c := chance{rand.New(rand.NewSource(3))}
	count := map[bool]int{}
	for range 40000 {
		b := c.nearBook()
		asked := plainBookOk(b)
		count[asked]++
		checkBooks(t, []bookCase{{"one change", b, asked}})
	}
	if count[true] < 2000 || count[false] < 2000 {
		t.Errorf("too few of one kind: %v", count)
	}
}
