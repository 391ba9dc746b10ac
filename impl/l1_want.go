// Package impl: a station's book of what is claimed.
package impl

import "slices"

// Limits of wants.
const (
	ClaimMaxName   = 8
	ClaimMaxCap    = 1000
	ClaimMaxNumber = 1000000
	ClaimMaxUses   = 8
	ClaimMaxTurns  = 12
	ClaimMaxStuffs = 8
)

// Kinds of wants, and roles of places.
const (
	ClaimMove   = 1
	ClaimClean  = 2
	ClaimPermit = 3
	ClaimFrom   = 1
	ClaimTo     = 2
	ClaimBy     = 3
)

// ClaimUse is what a place is wanted for.
type ClaimUse struct {
	Name   string
	Role   int
	Amount int
}

// ClaimWant is what is wanted of a station under a number.
type ClaimWant struct {
	Number int
	Kind   int
	Stuffs []string
	Uses   []ClaimUse
	Opens  []string
	Shuts  []string
}

// ClaimWantOk says whether a want is ok.
func ClaimWantOk(w ClaimWant) bool {
	k := kinded(w)
	return within(w.Number, 1, ClaimMaxNumber) &&
		listsOfKindOk(k) &&
		namesOk(w.Stuffs, ClaimMaxStuffs) &&
		usesOk(k, w.Uses) &&
		namesOk(w.Opens, ClaimMaxTurns) &&
		namesOk(w.Shuts, ClaimMaxTurns) &&
		!shareAny(w.Opens, w.Shuts) &&
		len(w.Uses)+len(w.Opens)+len(w.Shuts) > 0
}

// kindedWant is a want behind the type of its kind, so that a number that is no kind can't be taken for one.
type kindedWant interface {
	takesRole(role int) bool
}

type moveWant struct{ ClaimWant }

type cleanWant struct{ ClaimWant }

type permitWant struct{ ClaimWant }

func (moveWant) takesRole(role int) bool {
	return within(role, ClaimFrom, ClaimBy)
}

func (cleanWant) takesRole(role int) bool {
	return role == ClaimBy
}

func (permitWant) takesRole(role int) bool {
	return role == ClaimBy
}

// kinded is nil for a Kind that is none.
func kinded(w ClaimWant) kindedWant {
	switch w.Kind {
	case ClaimMove:
		return moveWant{w}
	case ClaimClean:
		return cleanWant{w}
	case ClaimPermit:
		return permitWant{w}
	}
	return nil
}

// listsOfKindOk says whether a want has Stuffs and Opens only as its kind has them.
func listsOfKindOk(k kindedWant) bool {
	switch x := k.(type) {
	case moveWant:
		return len(x.Stuffs) > 0
	case cleanWant:
		return len(x.Stuffs) == 0 && len(x.Opens) == 0
	case permitWant:
		return len(x.Stuffs) == 0 && len(x.Opens) == 0
	}
	return false
}

// usesOk is asked only of a kind that is one: nil has no roles to ask for.
func usesOk(k kindedWant, uses []ClaimUse) bool {
	if len(uses) > ClaimMaxUses {
		return false
	}
	for _, u := range uses {
		if !nameOk(u.Name) || !k.takesRole(u.Role) || !amountOk(u) {
			return false
		}
	}
	return ascending(uses, func(a, b ClaimUse) bool { return a.Name < b.Name })
}

func amountOk(u ClaimUse) bool {
	if u.Role == ClaimBy {
		return u.Amount == 0
	}
	return within(u.Amount, 1, ClaimMaxCap)
}

// namesOk looks at the length first, so that a list of any length is answered at once.
func namesOk(list []string, most int) bool {
	if len(list) > most {
		return false
	}
	for _, name := range list {
		if !nameOk(name) {
			return false
		}
	}
	return ascending(list, func(a, b string) bool { return a < b })
}

// nameOk may go by runes: a byte that is no rune of its own is read as one that no name has.
func nameOk(name string) bool {
	if !within(len(name), 1, ClaimMaxName) {
		return false
	}
	for _, r := range name {
		if !nameRune(r) {
			return false
		}
	}
	return true
}

func nameRune(r rune) bool {
	return r >= 'a' && r <= 'z' || r >= '0' && r <= '9' || r == '-'
}

func within(n, least, most int) bool {
	return least <= n && n <= most
}

// ascending is strict if ahead is.
func ascending[T any](list []T, ahead func(a, b T) bool) bool {
	for i := 1; i < len(list); i++ {
		if !ahead(list[i-1], list[i]) {
			return false
		}
	}
	return true
}

func shareAny(a, b []string) bool {
	for _, name := range a {
		if slices.Contains(b, name) {
			return true
		}
	}
	return false
}
