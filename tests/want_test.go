package tests

import (
	"fmt"
	"math"
	"testing"

	"loop.example/maltclaim/impl"
)

// aMove is a move that is ok, with something in each list.
func aMove() impl.ClaimWant {
	return impl.ClaimWant{
		Number: 7,
		Kind:   impl.ClaimMove,
		Stuffs: []string{"ale", "malt"},
		Uses: []impl.ClaimUse{
			{Name: "j", Role: impl.ClaimBy},
			{Name: "keg", Role: impl.ClaimTo, Amount: 30},
			{Name: "tun", Role: impl.ClaimFrom, Amount: 30},
		},
		Opens: []string{"a", "b"},
		Shuts: []string{"c", "d"},
	}
}

// aClean is a claim to clean that is ok.
func aClean() impl.ClaimWant {
	return impl.ClaimWant{Number: 7, Kind: impl.ClaimClean, Uses: []impl.ClaimUse{{Name: "j", Role: impl.ClaimBy}}, Shuts: []string{"a"}}
}

// aPermit is a permit that is ok.
func aPermit() impl.ClaimWant {
	return impl.ClaimWant{Number: 7, Kind: impl.ClaimPermit, Uses: []impl.ClaimUse{{Name: "j", Role: impl.ClaimBy}}, Shuts: []string{"a"}}
}

// changedWant is the want with one thing changed.
func changedWant(w impl.ClaimWant, change func(w *impl.ClaimWant)) impl.ClaimWant {
	change(&w)
	return w
}

func allKinds() []impl.ClaimWant {
	return []impl.ClaimWant{aMove(), aClean(), aPermit()}
}

func TestConstantsOfTheTable(t *testing.T) {
	got := []int{impl.ClaimMaxName, impl.ClaimMaxCap, impl.ClaimMaxNumber, impl.ClaimMaxUses, impl.ClaimMaxTurns, impl.ClaimMaxStuffs,
		impl.ClaimMaxFoes, impl.ClaimMaxSpots, impl.ClaimMaxValves, impl.ClaimMaxParts, impl.ClaimMaxSession, impl.ClaimMaxLines,
		impl.ClaimMove, impl.ClaimClean, impl.ClaimPermit, impl.ClaimFrom, impl.ClaimTo, impl.ClaimBy}
	asked := []int{8, 1000, 1000000, 8, 12, 8, 12, 8, 12, 6, 10000, 200, 1, 2, 3, 1, 2, 3}
	for i := range asked {
		if got[i] != asked[i] {
			t.Errorf("constant %d is %d, the document asks for %d", i, got[i], asked[i])
		}
	}
}

func TestWantOfEachKind(t *testing.T) {
	checkWants(t, []wantCase{
		{"move", aMove(), true},
		{"clean", aClean(), true},
		{"permit", aPermit(), true},
		{"nothing", impl.ClaimWant{}, false},
	})
	for _, n := range oddNumbers() {
		lean := impl.ClaimWant{Number: 1, Kind: n, Shuts: []string{"a"}}
		full := changedWant(aMove(), func(w *impl.ClaimWant) { w.Kind = n })
		checkWants(t, []wantCase{
			{"Kind without Stuffs", lean, n == 2 || n == 3},
			{"Kind with Stuffs", full, n == 1},
		})
	}
}

func TestWantNumber(t *testing.T) {
	for _, w := range allKinds() {
		for _, n := range oddNumbers() {
			w.Number = n
			checkWants(t, []wantCase{{"Number", w, n >= 1 && n <= 1000000}})
		}
	}
}

func TestWantStuffs(t *testing.T) {
	for _, list := range ordered() {
		checkWants(t, []wantCase{{"ascending", changedWant(aMove(), func(w *impl.ClaimWant) { w.Stuffs = list }), true}})
	}
	for _, list := range disordered() {
		checkWants(t, []wantCase{{"not ascending", changedWant(aMove(), func(w *impl.ClaimWant) { w.Stuffs = list }), false}})
	}
	for n := range 30 {
		checkWants(t, []wantCase{
			{"of a move", changedWant(aMove(), func(w *impl.ClaimWant) { w.Stuffs = manyNames(n) }), n >= 1 && n <= 8},
			{"of a clean", changedWant(aClean(), func(w *impl.ClaimWant) { w.Stuffs = manyNames(n) }), n == 0},
			{"of a permit", changedWant(aPermit(), func(w *impl.ClaimWant) { w.Stuffs = manyNames(n) }), n == 0},
		})
	}
}

func TestWantUses(t *testing.T) {
	for _, base := range allKinds() {
		for n := range 30 {
			checkWants(t, []wantCase{{"count", changedWant(base, func(w *impl.ClaimWant) { w.Uses = manyUses(n) }), n <= 8}})
		}
		for _, list := range ordered() {
			checkWants(t, []wantCase{{"ascending", changedWant(base, func(w *impl.ClaimWant) { w.Uses = usesOfNames(list) }), true}})
		}
		for _, list := range disordered() {
			checkWants(t, []wantCase{{"not ascending", changedWant(base, func(w *impl.ClaimWant) { w.Uses = usesOfNames(list) }), false}})
		}
	}
	twice := []impl.ClaimUse{{Name: "keg", Role: impl.ClaimFrom, Amount: 1}, {Name: "keg", Role: impl.ClaimTo, Amount: 2}}
	checkWants(t, []wantCase{{"one place in two roles", changedWant(aMove(), func(w *impl.ClaimWant) { w.Uses = twice }), false}})
}

func usesOfNames(names []string) []impl.ClaimUse {
	var list []impl.ClaimUse
	for _, name := range names {
		list = append(list, impl.ClaimUse{Name: name, Role: impl.ClaimBy})
	}
	return list
}

func TestWantRolesAndAmounts(t *testing.T) {
	for _, base := range allKinds() {
		for _, role := range oddNumbers() {
			for _, amount := range oddNumbers() {
				by := role == 3 && amount == 0
				moved := (role == 1 || role == 2) && amount >= 1 && amount <= 1000 && base.Kind == 1
				use := impl.ClaimUse{Name: "k", Role: role, Amount: amount}
				for _, uses := range [][]impl.ClaimUse{
					{use},
					{use, {Name: "z", Role: impl.ClaimBy}},
					{{Name: "a", Role: impl.ClaimBy}, use},
				} {
					name := fmt.Sprintf("Kind %d, Role %d, Amount %d", base.Kind, role, amount)
					checkWants(t, []wantCase{{name, changedWant(base, func(w *impl.ClaimWant) { w.Uses = uses }), by || moved}})
				}
			}
		}
	}
}

func TestWantOpensAndShuts(t *testing.T) {
	for _, list := range ordered() {
		checkWants(t, []wantCase{
			{"Opens ascending", changedWant(aMove(), func(w *impl.ClaimWant) { w.Opens, w.Shuts = list, nil }), true},
			{"Shuts ascending", changedWant(aMove(), func(w *impl.ClaimWant) { w.Opens, w.Shuts = nil, list }), true},
		})
	}
	for _, list := range disordered() {
		checkWants(t, []wantCase{
			{"Opens not ascending", changedWant(aMove(), func(w *impl.ClaimWant) { w.Opens, w.Shuts = list, nil }), false},
			{"Shuts not ascending", changedWant(aMove(), func(w *impl.ClaimWant) { w.Opens, w.Shuts = nil, list }), false},
		})
	}
	for n := range 40 {
		checkWants(t, []wantCase{
			{"Opens of a move", changedWant(aMove(), func(w *impl.ClaimWant) { w.Opens = manyNames(n) }), n <= 12},
			{"Opens of a clean", changedWant(aClean(), func(w *impl.ClaimWant) { w.Opens = manyNames(n) }), n == 0},
			{"Opens of a permit", changedWant(aPermit(), func(w *impl.ClaimWant) { w.Opens = manyNames(n) }), n == 0},
		})
		for _, base := range allKinds() {
			checkWants(t, []wantCase{{"Shuts", changedWant(base, func(w *impl.ClaimWant) { w.Shuts = manyNames(n) }), n <= 12}})
		}
	}
	both := manyNames(24)
	checkWants(t, []wantCase{{"both full", changedWant(aMove(), func(w *impl.ClaimWant) { w.Opens, w.Shuts = both[:12], both[12:] }), true}})
}

func TestWantOpensNoneThatItShuts(t *testing.T) {
	names := manyNames(4)
	for opens := range 16 {
		for shuts := range 16 {
			w := changedWant(aMove(), func(w *impl.ClaimWant) {
				w.Opens, w.Shuts = someOf(names, opens), someOf(names, shuts)
			})
			checkWants(t, []wantCase{{"in both", w, opens&shuts == 0}})
		}
	}
	w := aMove()
	w.Opens = []string{"j", "keg", "tun"}
	w.Shuts = []string{"ale", "malt"}
	checkWants(t, []wantCase{{"a valve may have the name of a place or a stuff", w, true}})
}

// someOf are the names whose bit is set.
func someOf(names []string, bits int) []string {
	var list []string
	for i, name := range names {
		if bits>>i&1 == 1 {
			list = append(list, name)
		}
	}
	return list
}

func TestWantOfSomething(t *testing.T) {
	for _, kind := range []int{1, 2, 3} {
		var stuffs []string
		if kind == 1 {
			stuffs = []string{"ale"}
		}
		w := impl.ClaimWant{Number: 1, Kind: kind, Stuffs: stuffs}
		empty := w
		empty.Uses, empty.Opens, empty.Shuts = []impl.ClaimUse{}, []string{}, []string{}
		checkWants(t, []wantCase{
			{"all nil", w, false},
			{"all empty", empty, false},
			{"Uses alone", changedWant(w, func(w *impl.ClaimWant) { w.Uses = manyUses(1) }), true},
			{"Opens alone", changedWant(w, func(w *impl.ClaimWant) { w.Opens = []string{"a"} }), kind == 1},
			{"Shuts alone", changedWant(w, func(w *impl.ClaimWant) { w.Shuts = []string{"a"} }), true},
			{"empty lists are none", changedWant(empty, func(w *impl.ClaimWant) { w.Shuts = []string{"a"} }), true},
		})
		if kind != 1 {
			empty.Stuffs, empty.Shuts = []string{}, []string{"a"}
			checkWants(t, []wantCase{{"an empty list of Stuffs is none", empty, true}})
		}
	}
}

// placesForNames are the wants with this name in each place that asks for one.
func placesForNames(name string) []impl.ClaimWant {
	return []impl.ClaimWant{
		changedWant(aMove(), func(w *impl.ClaimWant) { w.Stuffs = []string{name} }),
		changedWant(aMove(), func(w *impl.ClaimWant) { w.Uses = []impl.ClaimUse{{Name: name, Role: impl.ClaimBy}} }),
		changedWant(aMove(), func(w *impl.ClaimWant) { w.Uses = []impl.ClaimUse{{Name: name, Role: impl.ClaimFrom, Amount: 1}} }),
		changedWant(aClean(), func(w *impl.ClaimWant) { w.Uses = []impl.ClaimUse{{Name: name, Role: impl.ClaimBy}} }),
		changedWant(aMove(), func(w *impl.ClaimWant) { w.Opens, w.Shuts = []string{name}, nil }),
		changedWant(aMove(), func(w *impl.ClaimWant) { w.Opens, w.Shuts = nil, []string{name} }),
		changedWant(aPermit(), func(w *impl.ClaimWant) { w.Shuts = []string{name} }),
	}
}

func TestWantNames(t *testing.T) {
	for _, name := range goodNames() {
		for i, w := range placesForNames(name) {
			checkWants(t, []wantCase{{fmt.Sprintf("name %q at %d", name, i), w, true}})
		}
	}
	for _, name := range badNames() {
		for i, w := range placesForNames(name) {
			checkWants(t, []wantCase{{fmt.Sprintf("name %q at %d", name, i), w, false}})
		}
	}
	// A bad name that is not the only one of its list: each list is looked at to its end.
	checkWants(t, []wantCase{
		{"Stuffs", changedWant(aMove(), func(w *impl.ClaimWant) { w.Stuffs = []string{"a", "b_"} }), false},
		{"Uses", changedWant(aMove(), func(w *impl.ClaimWant) { w.Uses = usesOfNames([]string{"a", "b_"}) }), false},
		{"Opens", changedWant(aMove(), func(w *impl.ClaimWant) { w.Opens = []string{"a", "b_"} }), false},
		{"Shuts", changedWant(aMove(), func(w *impl.ClaimWant) { w.Shuts = []string{"c", "d_"} }), false},
	})
}

func TestWantOfAnyLength(t *testing.T) {
	long := manyNames(50000)
	checkWants(t, []wantCase{
		{"Stuffs", changedWant(aMove(), func(w *impl.ClaimWant) { w.Stuffs = long }), false},
		{"Uses", changedWant(aMove(), func(w *impl.ClaimWant) { w.Uses = usesOfNames(long) }), false},
		{"Opens and Shuts", changedWant(aMove(), func(w *impl.ClaimWant) { w.Opens, w.Shuts = long, long }), false},
		{"far numbers", impl.ClaimWant{Number: math.MaxInt, Kind: math.MinInt, Uses: []impl.ClaimUse{{Name: "", Role: math.MinInt, Amount: math.MaxInt}}}, false},
	})
}
