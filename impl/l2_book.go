package impl

import "slices"

// Limits of books.
const (
	ClaimMaxFoes   = 12
	ClaimMaxSpots  = 8
	ClaimMaxValves = 12
	ClaimMaxParts  = 6
)

// ClaimFoe is two stuffs that must not meet.
type ClaimFoe struct {
	A string
	B string
}

// ClaimSpot is a place: how much is in it at least and at most, and which stuffs may be left in it.
type ClaimSpot struct {
	Name  string
	Cap   int
	Least int
	Most  int
	May   []string
}

// ClaimPart is what was granted.
type ClaimPart struct {
	Want    ClaimWant
	Stopped bool
}

// ClaimBook is a station's book.
type ClaimBook struct {
	Foes   []ClaimFoe
	Spots  []ClaimSpot
	Valves []string
	Parts  []ClaimPart
	Seen   int
}

// ClaimBookOk says whether a book is ok.
func ClaimBookOk(b ClaimBook) bool {
	// A later check leans on what the earlier ones have found ok.
	checks := []func(b ClaimBook) bool{foesOk, spotsOk, valvesOk, partsOk, partsApart, placesOk}
	for _, check := range checks {
		if !check(b) {
			return false
		}
	}
	return true
}

func foesOk(b ClaimBook) bool {
	if len(b.Foes) > ClaimMaxFoes {
		return false
	}
	for _, f := range b.Foes {
		if !nameOk(f.A) || !nameOk(f.B) || f.A >= f.B {
			return false
		}
	}
	return ascending(b.Foes, func(f, g ClaimFoe) bool {
		return f.A < g.A || f.A == g.A && f.B < g.B
	})
}

func spotsOk(b ClaimBook) bool {
	if len(b.Spots) > ClaimMaxSpots {
		return false
	}
	for _, s := range b.Spots {
		if !nameOk(s.Name) || !levelsOk(s) || !mayOk(b.Foes, s.May) {
			return false
		}
	}
	return ascending(b.Spots, func(s, t ClaimSpot) bool { return s.Name < t.Name })
}

func levelsOk(s ClaimSpot) bool {
	return within(s.Cap, 0, ClaimMaxCap) && 0 <= s.Least && s.Least <= s.Most && s.Most <= s.Cap
}

func mayOk(foes []ClaimFoe, may []string) bool {
	return namesOk(may, ClaimMaxStuffs) &&
		everyPair(may, func(a, b string) bool { return !areFoes(foes, a, b) })
}

func areFoes(foes []ClaimFoe, a, b string) bool {
	return slices.Contains(foes, ClaimFoe{A: a, B: b}) || slices.Contains(foes, ClaimFoe{A: b, B: a})
}

// everyPair says whether all pairs of a list, the earlier one first, fit.
func everyPair[T any](list []T, fit func(a, b T) bool) bool {
	for i, a := range list {
		for _, b := range list[i+1:] {
			if !fit(a, b) {
				return false
			}
		}
	}
	return true
}

func valvesOk(b ClaimBook) bool {
	return namesOk(b.Valves, ClaimMaxValves) && within(b.Seen, 0, ClaimMaxNumber)
}

func partsOk(b ClaimBook) bool {
	if len(b.Parts) > ClaimMaxParts {
		return false
	}
	for _, p := range b.Parts {
		if p.Want.Number > b.Seen || !ClaimWantOk(p.Want) || !knows(b, p.Want) {
			return false
		}
	}
	return ascending(b.Parts, func(p, q ClaimPart) bool { return p.Want.Number < q.Want.Number })
}

func knows(b ClaimBook, w ClaimWant) bool {
	for _, u := range w.Uses {
		if spotAt(b.Spots, u.Name) < 0 {
			return false
		}
	}
	return allIn(w.Opens, b.Valves) && allIn(w.Shuts, b.Valves)
}

// spotAt is the place of the spot of this name in the list, -1 if there is none.
func spotAt(spots []ClaimSpot, name string) int {
	return slices.IndexFunc(spots, func(s ClaimSpot) bool { return s.Name == name })
}

func allIn(names, list []string) bool {
	for _, name := range names {
		if !slices.Contains(list, name) {
			return false
		}
	}
	return true
}

// How a thing is used by a part.
const (
	usedAsPlace = iota
	usedOpen
	usedShut
)

// usedThing has the way beside the name, as a place and a valve may have the same name.
type usedThing struct {
	way  int
	name string
}

// partsApart holds each part against all ahead of it, so that each two are looked at once.
func partsApart(b ClaimBook) bool {
	used := map[usedThing]int{}
	for _, p := range b.Parts {
		if usesPlaceOf(used, p.Want) || crosses(used, p.Want) {
			return false
		}
		addUsed(used, p.Want)
	}
	return true
}

func usesPlaceOf(used map[usedThing]int, w ClaimWant) bool {
	for _, u := range w.Uses {
		if used[usedThing{usedAsPlace, u.Name}] > 0 {
			return true
		}
	}
	return false
}

func crosses(used map[usedThing]int, w ClaimWant) bool {
	for _, v := range w.Opens {
		if used[usedThing{usedOpen, v}] > 0 || used[usedThing{usedShut, v}] > 0 {
			return true
		}
	}
	for _, v := range w.Shuts {
		if used[usedThing{usedOpen, v}] > 0 {
			return true
		}
	}
	return false
}

func addUsed(used map[usedThing]int, w ClaimWant) {
	for _, u := range w.Uses {
		used[usedThing{usedAsPlace, u.Name}]++
	}
	for _, v := range w.Opens {
		used[usedThing{usedOpen, v}]++
	}
	for _, v := range w.Shuts {
		used[usedThing{usedShut, v}]++
	}
}

func placesOk(b ClaimBook) bool {
	for _, p := range b.Parts {
		for _, u := range p.Want.Uses {
			if !placeOk(b.Spots[spotAt(b.Spots, u.Name)], p.Want, u) {
				return false
			}
		}
	}
	return true
}

func placeOk(s ClaimSpot, w ClaimWant, u ClaimUse) bool {
	if s.Least+u.Amount > s.Most {
		return false
	}
	switch x := kinded(w).(type) {
	case cleanWant:
		return s.Most == 0
	case moveWant:
		return mayFits(s.May, x.Stuffs, u.Role)
	}
	return true
}

func mayFits(may, stuffs []string, role int) bool {
	switch role {
	case ClaimFrom:
		return allIn(may, stuffs)
	case ClaimTo:
		return allIn(stuffs, may)
	}
	return allIn(may, stuffs) && allIn(stuffs, may)
}
