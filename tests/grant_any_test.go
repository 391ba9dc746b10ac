package tests

import (
	"math/rand"
	"slices"
	"testing"

	"loop.example/maltclaim/impl"
)

// Granting is held against the document's sentences, written out anew here.

func plainFoes(b impl.ClaimBook, s, t string) bool {
	return slices.ContainsFunc(b.Foes, func(f impl.ClaimFoe) bool { return f.A == s && f.B == t || f.A == t && f.B == s })
}

func plainAnyFoes(b impl.ClaimBook, one, other []string) bool {
	return slices.ContainsFunc(one, func(s string) bool {
		return slices.ContainsFunc(other, func(t string) bool { return plainFoes(b, s, t) })
	})
}

// plainSpot is the spot of this name, nil if there is none.
func plainSpot(b impl.ClaimBook, name string) *impl.ClaimSpot {
	for i := range b.Spots {
		if b.Spots[i].Name == name {
			return &b.Spots[i]
		}
	}
	return nil
}

func plainKnown(b impl.ClaimBook, w impl.ClaimWant) bool {
	unknown := slices.ContainsFunc(w.Uses, func(u impl.ClaimUse) bool { return plainSpot(b, u.Name) == nil })
	return !unknown && plainSubset(w.Opens, b.Valves) && plainSubset(w.Shuts, b.Valves)
}

func plainSameWant(v, w impl.ClaimWant) bool {
	return sameBook(impl.ClaimBook{Parts: []impl.ClaimPart{{Want: v}}}, impl.ClaimBook{Parts: []impl.ClaimPart{{Want: w}}})
}

func plainCode(b impl.ClaimBook, w impl.ClaimWant) int {
	if !plainBookOk(b) {
		return 1
	}
	if !plainWantOk(w) || !plainKnown(b, w) {
		return 2
	}
	used, crossed := false, false
	for _, p := range b.Parts {
		v := p.Want
		if v.Number == w.Number {
			return 3 * btoi(!plainSameWant(v, w))
		}
		used = used || plainMeet(plainPlaces(v), plainPlaces(w))
		crossed = crossed || plainMeet(v.Opens, w.Opens) || plainMeet(v.Opens, w.Shuts) || plainMeet(v.Shuts, w.Opens)
	}
	switch {
	case w.Number <= b.Seen:
		return 4
	case len(b.Parts) == 6:
		return 5
	case used:
		return 6
	case crossed:
		return 7
	case plainAnyFoes(b, w.Stuffs, w.Stuffs):
		return 8
	}
	return plainPlaceCode(b, w)
}

func plainPlaceCode(b impl.ClaimBook, w impl.ClaimWant) int {
	for _, u := range w.Uses {
		may := plainSpot(b, u.Name).May
		if w.Kind == 1 && (u.Role != 2 && !plainSubset(may, w.Stuffs) || u.Role == 2 && plainAnyFoes(b, may, w.Stuffs)) {
			return 8
		}
		if w.Kind == 1 && u.Role == 2 && len(plainUnion(may, w.Stuffs)) > 8 {
			return 5
		}
	}
	for _, u := range w.Uses {
		s := plainSpot(b, u.Name)
		switch {
		case u.Role == 1 && s.Least < u.Amount:
			return 9
		case u.Role == 2 && s.Most+u.Amount > s.Cap:
			return 10
		case w.Kind == 2 && s.Most > 0:
			return 11
		}
	}
	return 0
}

func plainUnion(a, b []string) []string {
	set := map[string]bool{}
	for _, s := range append(slices.Clone(a), b...) {
		set[s] = true
	}
	var list []string
	for s := range set {
		list = append(list, s)
	}
	slices.Sort(list)
	return list
}

func plainGrant(b impl.ClaimBook, w impl.ClaimWant) (impl.ClaimBook, int) {
	code := plainCode(b, w)
	b = tidyBook(b)
	switch {
	case code == 1:
		return impl.ClaimBook{}, 1
	case code >= 5:
		b.Seen = w.Number
		return b, code
	case code >= 2 || granted(b, w):
		return b, code
	}
	b.Seen = w.Number
	b.Parts = append(b.Parts, impl.ClaimPart{Want: w})
	for _, u := range w.Uses {
		s := plainSpot(b, u.Name)
		s.Least -= u.Amount * btoi(u.Role == 1)
		s.Most += u.Amount * btoi(u.Role == 2)
		if u.Role != 1 {
			s.May = plainUnion(s.May, w.Stuffs)
		}
	}
	return b, code
}

// checkAnyGrant holds both functions against the plain writing, and gives the code.
func checkAnyGrant(t *testing.T, b impl.ClaimBook, w impl.ClaimWant) (impl.ClaimBook, int) {
	t.Helper()
	got, code := grantOf(t, b, w)
	asked, askedCode := plainGrant(b, w)
	if code != askedCode || !sameBook(got, asked) {
		t.Errorf("got %d and %+v, the document asks for %d and %+v, at %+v and %+v", code, got, askedCode, asked, b, w)
	}
	return got, code
}

func TestGrantsOfAnyKind(t *testing.T) {
	c := chance{rand.New(rand.NewSource(4))}
	count := map[int]int{}
	for range 30000 {
		_, code := checkAnyGrant(t, c.book(), c.want(10))
		count[code]++
	}
	if count[0] < 100 || count[1] < 2000 || count[2] < 1000 {
		t.Errorf("too few of one kind: %v", count)
	}
}

// station is a book that is ok, with some stuffs and amounts in its places.
func (c chance) station() impl.ClaimBook {
	stuffs := manyNames(10)
	b := impl.ClaimBook{Valves: []string{"a", "b", "c", "d", "e", "f", "g", "h"}}
	b.Foes = []impl.ClaimFoe{{A: stuffs[0], B: stuffs[1]}, {A: stuffs[2], B: stuffs[3]}}
	for _, name := range []string{"a", "b", "c", "d", "e", "f", "g", "h"} {
		s := impl.ClaimSpot{Name: name, Cap: c.Intn(10)}
		s.Least = c.Intn(s.Cap + 1)
		s.Most = s.Least
		if c.Intn(2) == 0 {
			s.May = c.some(stuffs[4:], 6)
		}
		b.Spots = append(b.Spots, s)
	}
	return b
}

// some of the names, in order; each with a chance of one in so many.
func (c chance) some(names []string, in int) []string {
	var list []string
	for _, name := range names {
		if c.Intn(in) == 0 {
			list = append(list, name)
		}
	}
	return list
}

// claim is a want that is nearly always ok and known to a station.
func (c chance) claim(b impl.ClaimBook) impl.ClaimWant {
	w := impl.ClaimWant{Number: b.Seen + 1 + c.Intn(5) - c.Intn(2)*c.Intn(3), Kind: 1 + c.Intn(3), Shuts: c.some(b.Valves, 8)}
	if w.Kind == impl.ClaimMove {
		w.Stuffs = c.some(manyNames(10), 2+c.Intn(8))
		w.Opens = slices.DeleteFunc(c.some(b.Valves, 10), func(v string) bool { return slices.Contains(w.Shuts, v) })
	}
	for _, s := range b.Spots {
		if c.Intn(8) > 0 {
			continue
		}
		u := impl.ClaimUse{Name: s.Name, Role: impl.ClaimBy}
		if role := 1 + c.Intn(3); w.Kind == impl.ClaimMove && role != impl.ClaimBy {
			u.Role, u.Amount = role, 1+c.Intn(4)
		}
		if w.Kind == impl.ClaimMove && u.Role != impl.ClaimTo && c.Intn(3) > 0 {
			w.Stuffs = plainUnion(w.Stuffs, s.May)
		}
		w.Uses = append(w.Uses, u)
	}
	return w
}

// Promises 1, 2 and 4 along the lives of stations: what was granted, refused with 5 or more, or is over.
func TestGrantsOfStations(t *testing.T) {
	c := chance{rand.New(rand.NewSource(5))}
	count := map[int]int{}
	for range 300 {
		b := c.station()
		var gone []impl.ClaimWant
		for range 60 {
			w := c.claim(b)
			next, code := checkAnyGrant(t, b, w)
			count[code]++
			if !plainBookOk(next) {
				t.Fatalf("the book is not ok: %+v", next)
			}
			b = next
			if code >= 5 {
				gone = append(gone, w)
			}
			if len(b.Parts) > c.Intn(8) {
				at := c.Intn(len(b.Parts))
				gone = append(gone, b.Parts[at].Want)
				b.Parts[at].Stopped = true
				b, _ = plainOver(b, b.Parts[at].Want.Number, min(c.Intn(3), plainBound(b.Parts[at].Want)), true)
			}
			checkGone(t, b, gone)
		}
	}
	for code := range 12 {
		if code != 1 && count[code] < 20 {
			t.Errorf("too few of code %d: %v", code, count)
		}
	}
}

// checkGone asks for the last of what was refused or is over, and for the first.
func checkGone(t *testing.T, b impl.ClaimBook, gone []impl.ClaimWant) {
	t.Helper()
	if len(gone) == 0 {
		return
	}
	for _, w := range []impl.ClaimWant{gone[0], gone[len(gone)-1]} {
		if _, code := checkAnyGrant(t, b, w); code != 4 {
			t.Errorf("granted again, or told otherwise: code %d, %+v, %+v", code, b, w)
		}
	}
}
