package tests

import (
	"fmt"
	"math"
	"testing"

	"loop.example/maltclaim/impl"
)

// aBook is a book that is ok, with a part of each kind.
func aBook() impl.ClaimBook {
	return impl.ClaimBook{
		Foes: []impl.ClaimFoe{{A: "ale", B: "lye"}, {A: "ale", B: "oil"}, {A: "lye", B: "malt"}},
		Spots: []impl.ClaimSpot{
			{Name: "free", Cap: 50, Least: 1, Most: 9, May: []string{"lye", "oil"}},
			{Name: "j", Cap: 0, May: []string{"ale", "malt"}},
			{Name: "keg", Cap: 40, Least: 0, Most: 30, May: []string{"ale", "hop", "malt"}},
			{Name: "pan", Cap: 20, May: []string{"lye"}},
			{Name: "tun", Cap: 100, Least: 30, Most: 60, May: []string{"ale"}},
			{Name: "vat", Cap: 70, Least: 10, Most: 70, May: []string{"oil"}},
		},
		Valves: []string{"a", "b", "c", "d", "e", "f"},
		Parts: []impl.ClaimPart{
			{Want: aMove()},
			{Want: impl.ClaimWant{Number: 8, Kind: impl.ClaimClean, Uses: []impl.ClaimUse{{Name: "pan", Role: impl.ClaimBy}}, Shuts: []string{"c", "e"}}},
			{Want: impl.ClaimWant{Number: 11, Kind: impl.ClaimPermit, Uses: []impl.ClaimUse{{Name: "vat", Role: impl.ClaimBy}}, Shuts: []string{"c", "e"}}, Stopped: true},
		},
		Seen: 12,
	}
}

// changedBook is a new book that is ok, with one thing changed.
func changedBook(change func(b *impl.ClaimBook)) impl.ClaimBook {
	b := aBook()
	change(&b)
	return b
}

func TestBooksThatAreOk(t *testing.T) {
	checkBooks(t, []bookCase{
		{"nothing", impl.ClaimBook{}, true},
		{"empty lists", impl.ClaimBook{Foes: []impl.ClaimFoe{}, Spots: []impl.ClaimSpot{}, Valves: []string{}, Parts: []impl.ClaimPart{}}, true},
		{"each list", aBook(), true},
		{"no parts", changedBook(func(b *impl.ClaimBook) { b.Parts = nil }), true},
		{"an empty May", impl.ClaimBook{Spots: []impl.ClaimSpot{{Name: "a", May: []string{}}}}, true},
		{"one name for a place, a valve and a stuff", impl.ClaimBook{
			Spots:  []impl.ClaimSpot{{Name: "a", Cap: 1, May: []string{"a"}}},
			Valves: []string{"a"},
			Parts:  []impl.ClaimPart{{Want: impl.ClaimWant{Number: 1, Kind: impl.ClaimMove, Stuffs: []string{"a"}, Uses: usesOfNames([]string{"a"}), Opens: []string{"a"}}}},
			Seen:   1,
		}, true},
		{"a place and a valve of one name, of two parts", impl.ClaimBook{
			Spots:  []impl.ClaimSpot{{Name: "a"}},
			Valves: []string{"a"},
			Parts: []impl.ClaimPart{
				{Want: impl.ClaimWant{Number: 1, Kind: impl.ClaimPermit, Uses: usesOfNames([]string{"a"})}},
				{Want: impl.ClaimWant{Number: 2, Kind: impl.ClaimMove, Stuffs: []string{"a"}, Opens: []string{"a"}}},
			},
			Seen: 2,
		}, true},
	})
}

func TestBookFoes(t *testing.T) {
	foes := func(list ...impl.ClaimFoe) impl.ClaimBook { return impl.ClaimBook{Foes: list} }
	pair := func(a, b string) impl.ClaimFoe { return impl.ClaimFoe{A: a, B: b} }
	checkBooks(t, []bookCase{
		{"one", foes(pair("a", "b")), true},
		{"by B", foes(pair("a", "b"), pair("a", "c")), true},
		{"by A ahead of B", foes(pair("a", "z"), pair("b", "c")), true},
		{"a beginning comes first", foes(pair("a", "ab")), true},
		{"A behind B", foes(pair("b", "a")), false},
		{"A is B", foes(pair("a", "a")), false},
		{"a longer one first", foes(pair("ab", "a")), false},
		{"twice", foes(pair("a", "b"), pair("a", "b")), false},
		{"not by B", foes(pair("a", "c"), pair("a", "b")), false},
		{"not by A", foes(pair("b", "c"), pair("a", "z")), false},
		{"not by A, the B the same", foes(pair("b", "z"), pair("a", "z")), false},
		{"the last not in order", foes(pair("a", "b"), pair("c", "d"), pair("b", "c")), false},
		{"the last is wrong", foes(pair("a", "b"), pair("c", "b")), false},
	})
	for n := range 30 {
		var list []impl.ClaimFoe
		for _, name := range manyNames(n) {
			list = append(list, pair("a", name))
		}
		checkBooks(t, []bookCase{{"count", impl.ClaimBook{Foes: list}, n <= 12}})
	}
}

func TestBookSpots(t *testing.T) {
	spots := func(names ...string) impl.ClaimBook {
		var b impl.ClaimBook
		for _, name := range names {
			b.Spots = append(b.Spots, impl.ClaimSpot{Name: name})
		}
		return b
	}
	for _, list := range ordered() {
		checkBooks(t, []bookCase{{"ascending", spots(list...), true}})
	}
	for _, list := range disordered() {
		checkBooks(t, []bookCase{{"not ascending", spots(list...), false}})
	}
	for n := range 30 {
		checkBooks(t, []bookCase{{"count", spots(manyNames(n)...), n <= 8}})
	}
}

func TestBookLevels(t *testing.T) {
	numbers := []int{math.MinInt, -1, 0, 1, 2, 999, 1000, 1001, math.MaxInt}
	for _, most := range numbers {
		for _, least := range numbers {
			for _, room := range numbers {
				ok := room >= 0 && room <= 1000 && 0 <= least && least <= most && most <= room
				s := impl.ClaimSpot{Name: "b", Cap: room, Least: least, Most: most}
				name := fmt.Sprintf("Cap %d, Least %d, Most %d", room, least, most)
				checkBooks(t, []bookCase{
					{name, impl.ClaimBook{Spots: []impl.ClaimSpot{s}}, ok},
					{name + ", the second", impl.ClaimBook{Spots: []impl.ClaimSpot{{Name: "a"}, s}}, ok},
				})
			}
		}
	}
}

func TestBookMay(t *testing.T) {
	may := func(list []string) impl.ClaimBook {
		return impl.ClaimBook{Spots: []impl.ClaimSpot{{Name: "a"}, {Name: "b", May: list}}}
	}
	for _, list := range ordered() {
		checkBooks(t, []bookCase{{"ascending", may(list), true}})
	}
	for _, list := range disordered() {
		checkBooks(t, []bookCase{{"not ascending", may(list), false}})
	}
	for n := range 30 {
		checkBooks(t, []bookCase{{"count", may(manyNames(n)), n <= 8}})
	}
}

// Promise 2, NEVER MET.
func TestBookMayHasNoFoes(t *testing.T) {
	names := manyNames(8)
	for i := range names {
		for j := range names {
			b := impl.ClaimBook{Foes: []impl.ClaimFoe{{A: names[i], B: names[j]}}}
			checkBooks(t, []bookCase{{"the pair alone", b, i < j}})
			b.Spots = []impl.ClaimSpot{{Name: "a"}, {Name: "b", May: names}}
			checkBooks(t, []bookCase{{"both in one May, either order of the pair", b, false}})
			if i < j {
				b.Spots = []impl.ClaimSpot{{Name: "a", May: names[i : i+1]}, {Name: "b", May: names[j : j+1]}}
				checkBooks(t, []bookCase{{"in two places", b, true}})
				b.Spots = []impl.ClaimSpot{{Name: "a"}, {Name: "b", May: []string{names[i], names[j]}}}
				checkBooks(t, []bookCase{{"they alone in one May", b, false}})
				b.Spots = []impl.ClaimSpot{{Name: "a"}, {Name: "b", May: without(names, j)}, {Name: "c", May: without(names, i)}}
				checkBooks(t, []bookCase{{"one of them and all others", b, true}})
			}
		}
	}
	b := impl.ClaimBook{Spots: []impl.ClaimSpot{{Name: "a", May: []string{"b", "y"}}}}
	b.Foes = []impl.ClaimFoe{{A: "a", B: "b"}, {A: "a", B: "y"}, {A: "b", B: "x"}, {A: "x", B: "y"}}
	checkBooks(t, []bookCase{{"each has foes, but not the other", b, true}})
	b.Foes = []impl.ClaimFoe{{A: "a", B: "b"}, {A: "a", B: "y"}, {A: "b", B: "x"}, {A: "b", B: "y"}}
	checkBooks(t, []bookCase{{"the last of Foes", b, false}})
}

// without is a new list, all but the one at this place.
func without(names []string, at int) []string {
	var list []string
	for i, name := range names {
		if i != at {
			list = append(list, name)
		}
	}
	return list
}

func TestBookValvesAndSeen(t *testing.T) {
	for _, list := range ordered() {
		checkBooks(t, []bookCase{{"ascending", impl.ClaimBook{Valves: list}, true}})
	}
	for _, list := range disordered() {
		checkBooks(t, []bookCase{{"not ascending", impl.ClaimBook{Valves: list}, false}})
	}
	for n := range 30 {
		checkBooks(t, []bookCase{{"count", impl.ClaimBook{Valves: manyNames(n)}, n <= 12}})
	}
	for _, n := range oddNumbers() {
		checkBooks(t, []bookCase{{"Seen", impl.ClaimBook{Seen: n}, n >= 0 && n <= 1000000}})
	}
}

// permits is a book of permits of these numbers, each keeping the valve shut.
func permits(seen int, numbers ...int) impl.ClaimBook {
	b := impl.ClaimBook{Valves: []string{"a"}, Seen: seen}
	for _, n := range numbers {
		b.Parts = append(b.Parts, impl.ClaimPart{Want: impl.ClaimWant{Number: n, Kind: impl.ClaimPermit, Shuts: []string{"a"}}})
	}
	return b
}

func TestBookPartNumbers(t *testing.T) {
	checkBooks(t, []bookCase{
		{"ascending", permits(9, 1, 2, 9), true},
		{"none above Seen", permits(9, 1, 2, 8), true},
		{"the last above Seen", permits(9, 1, 2, 10), false},
		{"the only one above Seen", permits(0, 1), false},
		{"the same twice", permits(9, 1, 2, 2), false},
		{"the same twice at first", permits(9, 1, 1, 2), false},
		{"not ascending", permits(9, 1, 3, 2), false},
		{"not ascending at first", permits(9, 2, 1, 3), false},
		{"the greatest", permits(1000000, 1, 999999, 1000000), true},
		{"above the greatest", permits(1000001, 1000001), false},
		{"0", permits(9, 0), false},
		{"below 0", permits(9, -1, 1), false},
	})
	all := []int{1, 2, 3, 4, 5, 6, 7, 8, 9, 10}
	for n := range all {
		checkBooks(t, []bookCase{{"count", permits(20, all[:n]...), n <= 6}})
	}
}

func TestBookPartsAreOkWants(t *testing.T) {
	change := func(at int, f func(w *impl.ClaimWant)) impl.ClaimBook {
		return changedBook(func(b *impl.ClaimBook) { f(&b.Parts[at].Want) })
	}
	checkBooks(t, []bookCase{
		{"Number", change(0, func(w *impl.ClaimWant) { w.Number = 0 }), false},
		{"no Kind", change(0, func(w *impl.ClaimWant) { w.Kind = 0 }), false},
		{"no Kind, of the last", change(2, func(w *impl.ClaimWant) { w.Kind = 4 }), false},
		{"Stuffs of a permit", change(2, func(w *impl.ClaimWant) { w.Stuffs = []string{"oil"} }), false},
		{"Opens of a clean", change(1, func(w *impl.ClaimWant) { w.Opens = []string{"f"} }), false},
		{"a Role that is none", change(0, func(w *impl.ClaimWant) { w.Uses[0].Role = 0 }), false},
		{"Uses not ascending", change(0, func(w *impl.ClaimWant) { w.Uses[0], w.Uses[1] = w.Uses[1], w.Uses[0] }), false},
		{"Shuts what it opens", change(0, func(w *impl.ClaimWant) { w.Shuts = []string{"b"} }), false},
		{"wants nothing", change(2, func(w *impl.ClaimWant) { w.Uses, w.Shuts = nil, nil }), false},
		{"a part that is nothing", changedBook(func(b *impl.ClaimBook) { b.Parts[0] = impl.ClaimPart{} }), false},
	})
}

func TestBookKnowsItsParts(t *testing.T) {
	for i, s := range aBook().Spots {
		gone := changedBook(func(b *impl.ClaimBook) { b.Spots = append(b.Spots[:i:i], b.Spots[i+1:]...) })
		checkBooks(t, []bookCase{{"without the place " + s.Name, gone, s.Name == "free"}})
	}
	for i, v := range aBook().Valves {
		gone := changedBook(func(b *impl.ClaimBook) { b.Valves = without(b.Valves, i) })
		checkBooks(t, []bookCase{{"without the valve " + v, gone, v == "f"}})
	}
	lone := func(w impl.ClaimWant) impl.ClaimBook {
		w.Number, w.Kind, w.Stuffs = 1, impl.ClaimMove, []string{"ale"}
		return impl.ClaimBook{Spots: []impl.ClaimSpot{{Name: "p", May: []string{"ale"}}}, Valves: []string{"v"}, Parts: []impl.ClaimPart{{Want: w}}, Seen: 1}
	}
	checkBooks(t, []bookCase{
		{"a known place", lone(impl.ClaimWant{Uses: usesOfNames([]string{"p"})}), true},
		{"a valve is no place", lone(impl.ClaimWant{Uses: usesOfNames([]string{"v"})}), false},
		{"an unknown place behind a known one", lone(impl.ClaimWant{Uses: usesOfNames([]string{"p", "q"})}), false},
		{"a known valve", lone(impl.ClaimWant{Opens: []string{"v"}}), true},
		{"a place is no valve to open", lone(impl.ClaimWant{Opens: []string{"p"}}), false},
		{"a place is no valve to keep shut", lone(impl.ClaimWant{Shuts: []string{"p"}}), false},
		{"an unknown valve behind a known one", lone(impl.ClaimWant{Opens: []string{"v", "w"}}), false},
		{"an unknown one kept shut behind a known one", lone(impl.ClaimWant{Shuts: []string{"v", "w"}}), false},
	})
}

// twoParts is a book of two moves at two numbers; between and ahead of them stand permits, if asked for.
func twoParts(v, w impl.ClaimWant, between bool) impl.ClaimBook {
	b := impl.ClaimBook{Valves: []string{"a", "b", "c", "z"}, Seen: 9}
	for _, name := range []string{"p", "q", "r"} {
		b.Spots = append(b.Spots, impl.ClaimSpot{Name: name, Cap: 10, Least: 1, Most: 9, May: []string{"ale"}})
	}
	add := func(w impl.ClaimWant) { b.Parts = append(b.Parts, impl.ClaimPart{Want: w}) }
	v.Number, v.Kind, v.Stuffs = 2, impl.ClaimMove, []string{"ale"}
	w.Number, w.Kind, w.Stuffs = 4, impl.ClaimMove, []string{"ale"}
	if between {
		add(impl.ClaimWant{Number: 1, Kind: impl.ClaimPermit, Shuts: []string{"z"}})
	}
	add(v)
	if between {
		add(impl.ClaimWant{Number: 3, Kind: impl.ClaimPermit, Shuts: []string{"z"}})
	}
	add(w)
	return b
}

// Promise 1, ONCE.
func TestBookPartsAreApart(t *testing.T) {
	from := func(name string) []impl.ClaimUse {
		return []impl.ClaimUse{{Name: name, Role: impl.ClaimFrom, Amount: 1}}
	}
	into := func(name string) []impl.ClaimUse {
		return []impl.ClaimUse{{Name: name, Role: impl.ClaimTo, Amount: 1}}
	}
	cases := []struct {
		name string
		v, w impl.ClaimWant
		ok   bool
	}{
		{"two places", impl.ClaimWant{Uses: from("p")}, impl.ClaimWant{Uses: into("q")}, true},
		{"one place", impl.ClaimWant{Uses: from("p")}, impl.ClaimWant{Uses: from("p")}, false},
		{"one place in two roles", impl.ClaimWant{Uses: from("p")}, impl.ClaimWant{Uses: into("p")}, false},
		{"one place by and by", impl.ClaimWant{Uses: usesOfNames([]string{"p"})}, impl.ClaimWant{Uses: usesOfNames([]string{"p"})}, false},
		{"one of several places", impl.ClaimWant{Uses: usesOfNames([]string{"p", "r"})}, impl.ClaimWant{Uses: usesOfNames([]string{"q", "r"})}, false},
		{"two valves open", impl.ClaimWant{Opens: []string{"a"}}, impl.ClaimWant{Opens: []string{"b"}}, true},
		{"one valve opened by two", impl.ClaimWant{Opens: []string{"a"}}, impl.ClaimWant{Opens: []string{"a"}}, false},
		{"one of several valves", impl.ClaimWant{Opens: []string{"a", "c"}}, impl.ClaimWant{Opens: []string{"b", "c"}}, false},
		{"opened, and kept shut", impl.ClaimWant{Opens: []string{"a"}}, impl.ClaimWant{Shuts: []string{"a"}}, false},
		{"one of several is opened, and kept shut", impl.ClaimWant{Opens: []string{"a", "c"}}, impl.ClaimWant{Shuts: []string{"b", "c"}}, false},
		{"opened, and others kept shut", impl.ClaimWant{Opens: []string{"a"}}, impl.ClaimWant{Shuts: []string{"b", "c"}}, true},
		{"each opens what the other keeps shut", impl.ClaimWant{Opens: []string{"a"}, Shuts: []string{"b"}}, impl.ClaimWant{Opens: []string{"b"}, Shuts: []string{"a"}}, false},
		{"kept shut by two", impl.ClaimWant{Shuts: []string{"a"}}, impl.ClaimWant{Shuts: []string{"a"}}, true},
		{"several kept shut by two", impl.ClaimWant{Opens: []string{"a"}, Shuts: []string{"b", "c"}}, impl.ClaimWant{Shuts: []string{"b", "c"}}, true},
	}
	for _, c := range cases {
		for _, between := range []bool{false, true} {
			there, back := twoParts(c.v, c.w, between), twoParts(c.w, c.v, between)
			checkBooks(t, []bookCase{{c.name, there, c.ok}, {c.name + ", the other way round", back, c.ok}})
			for _, b := range []impl.ClaimBook{there, back} {
				for i := range b.Parts {
					b.Parts[i].Stopped = true
				}
				checkBooks(t, []bookCase{{c.name + ", all Stopped", b, c.ok}})
			}
		}
	}
}

// All ways in which two moves may turn three valves.
func TestBookCrossing(t *testing.T) {
	names := []string{"a", "b", "c"}
	for bits := range 1 << 12 {
		open1, shut1, open2, shut2 := bits&7, bits>>3&7, bits>>6&7, bits>>9&7
		if open1&shut1 != 0 || open2&shut2 != 0 || open1|shut1 == 0 || open2|shut2 == 0 {
			continue
		}
		b := twoParts(
			impl.ClaimWant{Opens: someOf(names, open1), Shuts: someOf(names, shut1)},
			impl.ClaimWant{Opens: someOf(names, open2), Shuts: someOf(names, shut2)}, false)
		crossed := open1&(open2|shut2)|open2&(open1|shut1) != 0
		checkBooks(t, []bookCase{{"crossing", b, !crossed}})
	}
}

// onePart is a book of one part that uses one place.
func onePart(w impl.ClaimWant, s impl.ClaimSpot) impl.ClaimBook {
	w.Number, s.Name = 1, w.Uses[0].Name
	return impl.ClaimBook{
		Spots: []impl.ClaimSpot{{Name: "0"}, s},
		Parts: []impl.ClaimPart{{Want: w}},
		Seen:  1,
	}
}

func TestBookAmounts(t *testing.T) {
	for _, role := range []int{impl.ClaimFrom, impl.ClaimTo} {
		for _, amount := range []int{1, 2, 3, 999, 1000} {
			for _, least := range []int{0, 1, 2, 3, 999, 1000} {
				for _, most := range []int{0, 1, 2, 3, 4, 5, 6, 999, 1000} {
					w := impl.ClaimWant{Kind: impl.ClaimMove, Stuffs: []string{"ale"}, Uses: []impl.ClaimUse{{Name: "p", Role: role, Amount: amount}}}
					s := impl.ClaimSpot{Cap: 1000, Least: least, Most: most, May: []string{"ale"}}
					name := fmt.Sprintf("Role %d, Amount %d, Least %d, Most %d", role, amount, least, most)
					checkBooks(t, []bookCase{{name, onePart(w, s), least+amount <= most}})
				}
			}
		}
	}
}

func TestBookLevelsOfUsedPlaces(t *testing.T) {
	levels := []struct{ least, most int }{{0, 0}, {0, 1}, {0, 10}, {1, 1}, {1, 10}, {10, 10}}
	for _, l := range levels {
		s := impl.ClaimSpot{Cap: 10, Least: l.least, Most: l.most, May: []string{"ale"}}
		by := usesOfNames([]string{"p"})
		name := fmt.Sprintf("Least %d, Most %d", l.least, l.most)
		checkBooks(t, []bookCase{
			{"clean, " + name, onePart(impl.ClaimWant{Kind: impl.ClaimClean, Uses: by}, s), l.most == 0},
			{"permit, " + name, onePart(impl.ClaimWant{Kind: impl.ClaimPermit, Uses: by}, s), true},
			{"move by, " + name, onePart(impl.ClaimWant{Kind: impl.ClaimMove, Stuffs: []string{"ale"}, Uses: by}, s), true},
		})
	}
}

// All May and all Stuffs of three names, with each Role and Kind.
func TestBookMayOfUsedPlaces(t *testing.T) {
	names := []string{"ale", "hop", "malt"}
	for may := range 8 {
		for stuffs := range 8 {
			s := impl.ClaimSpot{Cap: 10, Least: 1, Most: 9, May: someOf(names, may)}
			for role, ok := range map[int]bool{
				impl.ClaimFrom: may&^stuffs == 0,
				impl.ClaimTo:   stuffs&^may == 0,
				impl.ClaimBy:   may == stuffs,
			} {
				u := impl.ClaimUse{Name: "p", Role: role, Amount: 8}
				if role == impl.ClaimBy {
					u.Amount = 0
				}
				w := impl.ClaimWant{Kind: impl.ClaimMove, Stuffs: someOf(names, stuffs), Uses: []impl.ClaimUse{u}}
				name := fmt.Sprintf("Role %d, May %v, Stuffs %v", role, s.May, w.Stuffs)
				checkBooks(t, []bookCase{{name, onePart(w, s), ok && stuffs != 0}})
			}
		}
		empty := impl.ClaimSpot{Cap: 10, May: someOf(names, may)}
		by := usesOfNames([]string{"p"})
		checkBooks(t, []bookCase{
			{"any May of a clean", onePart(impl.ClaimWant{Kind: impl.ClaimClean, Uses: by}, empty), true},
			{"any May of a permit", onePart(impl.ClaimWant{Kind: impl.ClaimPermit, Uses: by}, empty), true},
		})
	}
}

// The last point of what is ok is asked of all places of all parts.
func TestBookEachUsedPlace(t *testing.T) {
	checkBooks(t, []bookCase{
		{"the first place of a move", changedBook(func(b *impl.ClaimBook) { b.Spots[1].May = nil }), false},
		{"its second", changedBook(func(b *impl.ClaimBook) { b.Spots[2].Least = 1 }), false},
		{"its second: May", changedBook(func(b *impl.ClaimBook) { b.Spots[2].May = []string{"ale", "hop"} }), false},
		{"its third", changedBook(func(b *impl.ClaimBook) { b.Spots[4].Least = 31 }), false},
		{"its third: May", changedBook(func(b *impl.ClaimBook) { b.Spots[4].May = []string{"ale", "hop"} }), false},
		{"of the clean", changedBook(func(b *impl.ClaimBook) { b.Spots[3].Most = 1 }), false},
		{"of the permit", changedBook(func(b *impl.ClaimBook) { b.Spots[5].Least = 70 }), true},
		{"a place that is not used", changedBook(func(b *impl.ClaimBook) { b.Spots[0].Least = 9 }), true},
		{"Stuffs of a part may be foes, if none of them meet", impl.ClaimBook{
			Foes:  []impl.ClaimFoe{{A: "ale", B: "lye"}},
			Spots: []impl.ClaimSpot{{Name: "p", Cap: 1, Most: 1}},
			Parts: []impl.ClaimPart{{Want: impl.ClaimWant{Number: 1, Kind: impl.ClaimMove, Stuffs: []string{"ale", "lye"}, Uses: []impl.ClaimUse{{Name: "p", Role: impl.ClaimFrom, Amount: 1}}}}},
			Seen:  1,
		}, true},
	})
}

// bookNames are the books with this name in each place that asks for one.
func bookNames(name, before, behind string) []impl.ClaimBook {
	return []impl.ClaimBook{
		{Foes: []impl.ClaimFoe{{A: name, B: behind}}},
		{Foes: []impl.ClaimFoe{{A: before, B: name}}},
		{Spots: []impl.ClaimSpot{{Name: name}}},
		{Spots: []impl.ClaimSpot{{Name: "p", May: []string{name}}}},
		{Valves: []string{name}},
	}
}

func TestBookNames(t *testing.T) {
	for _, name := range goodNames() {
		if name == "-" {
			continue // nothing that is a name comes ahead of it
		}
		for i, b := range bookNames(name, "-", "zzzzzzzz") {
			checkBooks(t, []bookCase{{fmt.Sprintf("name %q at %d", name, i), b, true}})
		}
	}
	for _, name := range badNames() {
		for _, other := range []string{"-", "a", "zzzzzzzz"} {
			for i, b := range bookNames(name, other, other) {
				checkBooks(t, []bookCase{{fmt.Sprintf("name %q at %d", name, i), b, false}})
			}
		}
	}
	checkBooks(t, []bookCase{
		{"the last of Spots", impl.ClaimBook{Spots: []impl.ClaimSpot{{Name: "a"}, {Name: "b_"}}}, false},
		{"the last of Valves", impl.ClaimBook{Valves: []string{"a", "b_"}}, false},
		{"the last of May", impl.ClaimBook{Spots: []impl.ClaimSpot{{Name: "a", May: []string{"a", "b_"}}}}, false},
	})
}

// All limits of a book and of its wants met at once.
func TestBookFull(t *testing.T) {
	names := manyNames(12)
	var b impl.ClaimBook
	for _, name := range names {
		b.Foes = append(b.Foes, impl.ClaimFoe{A: "a", B: name})
	}
	for _, name := range names[:8] {
		b.Spots = append(b.Spots, impl.ClaimSpot{Name: name, Cap: 1000, Most: 1000, May: names[:8]})
	}
	b.Valves, b.Seen = names, 1000000
	w := impl.ClaimWant{Number: 999995, Kind: impl.ClaimMove, Stuffs: names[:8], Opens: names}
	for _, s := range b.Spots {
		w.Uses = append(w.Uses, impl.ClaimUse{Name: s.Name, Role: impl.ClaimTo, Amount: 1000})
	}
	b.Parts = []impl.ClaimPart{{Want: w}}
	checkBooks(t, []bookCase{{"a move of all", b, true}})
	b.Parts = nil
	for i := range 6 {
		b.Parts = append(b.Parts, impl.ClaimPart{Want: impl.ClaimWant{Number: 999995 + i, Kind: impl.ClaimPermit, Shuts: names}})
	}
	checkBooks(t, []bookCase{{"six permits for all valves", b, true}})
}

func TestBookOfAnyLength(t *testing.T) {
	long := manyNames(20000)
	b := aBook()
	for _, name := range long {
		b.Foes = append(b.Foes, impl.ClaimFoe{A: name, B: name})
		b.Spots = append(b.Spots, impl.ClaimSpot{Name: name, May: long})
		b.Parts = append(b.Parts, impl.ClaimPart{Want: aMove()})
	}
	if impl.ClaimBookOk(b) || impl.ClaimBookOk(impl.ClaimBook{Valves: long}) || impl.ClaimBookOk(impl.ClaimBook{Parts: b.Parts}) {
		t.Error("lists of any length are refused")
	}
	far := impl.ClaimSpot{Name: "p", Cap: math.MaxInt, Least: math.MaxInt, Most: math.MaxInt}
	w := impl.ClaimWant{Number: math.MaxInt, Kind: 1, Stuffs: []string{"a"}, Uses: []impl.ClaimUse{{Name: "p", Role: 1, Amount: math.MaxInt}}}
	checkBooks(t, []bookCase{{"far numbers", impl.ClaimBook{Spots: []impl.ClaimSpot{far}, Parts: []impl.ClaimPart{{Want: w}}, Seen: math.MaxInt}, false}})
}
