package tests

import (
	"fmt"
	"math"
	"slices"
	"testing"

	"loop.example/maltclaim/impl"
)

// checkGrant asks for a code, and for the book that the document says is behind it.
func checkGrant(t *testing.T, name string, b impl.ClaimBook, w impl.ClaimWant, asked int) impl.ClaimBook {
	t.Helper()
	got, code := grantOf(t, b, w)
	if code != asked {
		t.Errorf("%s: code %d, the document asks for %d: %+v, %+v", name, code, asked, b, w)
		return got
	}
	if code == 0 && !granted(b, w) {
		checkGranted(t, name, got, b, w)
		return got
	}
	behind := b
	switch {
	case code == 1:
		behind = impl.ClaimBook{}
	case code >= 5:
		behind.Seen = w.Number
	}
	if !sameBook(got, behind) {
		t.Errorf("%s: behind code %d the book is %+v, the document asks for %+v", name, code, got, behind)
	}
	if code >= 5 {
		checkUsedUp(t, name, got, w)
	}
	return got
}

func granted(b impl.ClaimBook, w impl.ClaimWant) bool {
	return slices.ContainsFunc(b.Parts, func(p impl.ClaimPart) bool { return p.Want.Number == w.Number })
}

// checkGranted looks at what hangs on no role: the part and its number; and that it is granted only once (promise 4).
func checkGranted(t *testing.T, name string, got, b impl.ClaimBook, w impl.ClaimWant) {
	t.Helper()
	asked := b
	asked.Parts = append(slices.Clone(b.Parts), impl.ClaimPart{Want: w})
	asked.Seen, asked.Spots = w.Number, got.Spots
	if !sameBook(got, asked) {
		t.Errorf("%s: granted, the book is %+v, the document asks for %+v", name, got, asked)
	}
	if !bookOk(t, got) {
		t.Errorf("%s: granted, the book is not ok: %+v", name, got)
	}
	again, code := grantOf(t, got, w)
	if code != 0 || !sameBook(again, got) {
		t.Errorf("%s: granted twice, code %d and %+v, ahead of it %+v", name, code, again, got)
	}
}

// checkUsedUp: what was refused with 5 or more is never granted under its number, nor is anything else (promise 4).
func checkUsedUp(t *testing.T, name string, got impl.ClaimBook, w impl.ClaimWant) {
	t.Helper()
	if !bookOk(t, got) {
		t.Errorf("%s: refused, the book is not ok: %+v", name, got)
	}
	all := got.Parts
	for n := range len(all) + 1 {
		got.Parts = all[:n]
		again, code := grantOf(t, got, w)
		if code != 4 || !sameBook(again, got) {
			t.Errorf("%s: asked again with %d parts, code %d and %+v", name, n, code, again)
		}
	}
	got.Parts = nil
	other := impl.ClaimWant{Number: w.Number, Kind: impl.ClaimPermit, Shuts: []string{"v"}}
	got.Valves = []string{"v"}
	if code := impl.ClaimCode(got, other); code != 4 {
		t.Errorf("%s: another want under a refused number, code %d", name, code)
	}
}

// aYard is a book with two parts and with free places to grant of.
func aYard() impl.ClaimBook {
	return impl.ClaimBook{
		Foes: []impl.ClaimFoe{{A: "ale", B: "lye"}, {A: "hop", B: "oil"}},
		Spots: []impl.ClaimSpot{
			{Name: "busy", May: []string{"ale"}},
			{Name: "j", May: []string{"malt"}},
			{Name: "keg", Cap: 40, Least: 3, Most: 10, May: []string{"hop"}},
			{Name: "other", Cap: 9, Least: 1, Most: 8, May: []string{"oil"}},
			{Name: "tun", Cap: 100, Least: 60, Most: 70, May: []string{"ale", "malt"}},
		},
		Valves: []string{"a", "b", "c", "d"},
		Parts: []impl.ClaimPart{
			{Want: impl.ClaimWant{Number: 3, Kind: impl.ClaimMove, Stuffs: []string{"ale"}, Uses: []impl.ClaimUse{{Name: "busy", Role: impl.ClaimBy}}, Opens: []string{"a"}, Shuts: []string{"b"}}, Stopped: true},
			{Want: impl.ClaimWant{Number: 5, Kind: impl.ClaimPermit, Shuts: []string{"b"}}},
		},
		Seen: 6,
	}
}

// yardMove is a move that aYard can grant.
func yardMove() impl.ClaimWant {
	return impl.ClaimWant{Number: 7, Kind: impl.ClaimMove, Stuffs: []string{"ale", "malt"},
		Uses: []impl.ClaimUse{
			{Name: "j", Role: impl.ClaimBy},
			{Name: "keg", Role: impl.ClaimTo, Amount: 30},
			{Name: "tun", Role: impl.ClaimFrom, Amount: 25},
		},
		Opens: []string{"c"}, Shuts: []string{"b", "d"}}
}

func TestGrantWhole(t *testing.T) {
	asked := aYard()
	asked.Spots[1].May = []string{"ale", "malt"}
	asked.Spots[2] = impl.ClaimSpot{Name: "keg", Cap: 40, Least: 3, Most: 40, May: []string{"ale", "hop", "malt"}}
	asked.Spots[4] = impl.ClaimSpot{Name: "tun", Cap: 100, Least: 35, Most: 70, May: []string{"ale", "malt"}}
	asked.Parts = append(asked.Parts, impl.ClaimPart{Want: yardMove()})
	asked.Seen = 7
	got := checkGrant(t, "a move", aYard(), yardMove(), 0)
	if !sameBook(got, asked) {
		t.Errorf("got %+v, the document asks for %+v", got, asked)
	}
	far := yardMove()
	far.Number = 1000000
	if got = checkGrant(t, "a far number", aYard(), far, 0); got.Seen != 1000000 {
		t.Errorf("Seen is %d", got.Seen)
	}
}

// What is no move leaves all places as they are.
func TestGrantCleanAndPermit(t *testing.T) {
	all := usesOfNames([]string{"j", "keg", "other", "tun"})
	w := impl.ClaimWant{Number: 9, Kind: impl.ClaimPermit, Uses: all, Shuts: []string{"b", "c"}}
	if got := checkGrant(t, "permit", aYard(), w, 0); !sameBook(impl.ClaimBook{Spots: got.Spots}, impl.ClaimBook{Spots: aYard().Spots}) {
		t.Errorf("a permit changed places: %+v", got.Spots)
	}
	b := aYard()
	for i := range b.Spots {
		b.Spots[i].Least, b.Spots[i].Most = 0, 0
	}
	w.Kind = impl.ClaimClean
	if got := checkGrant(t, "clean", b, w, 0); !sameBook(impl.ClaimBook{Spots: got.Spots}, impl.ClaimBook{Spots: b.Spots}) {
		t.Errorf("a clean changed places: %+v", got.Spots)
	}
	checkGrant(t, "a clean without places", aYard(), impl.ClaimWant{Number: 9, Kind: impl.ClaimClean, Shuts: []string{"b"}}, 0)
	checkGrant(t, "a move without places", aYard(), impl.ClaimWant{Number: 9, Kind: impl.ClaimMove, Stuffs: []string{"oil"}, Opens: []string{"c"}}, 0)
}

// grantFault is one thing that is wrong: the code it gives, and how it comes in.
type grantFault struct {
	code int
	add  func(b *impl.ClaimBook, w *impl.ClaimWant)
}

// commonFaults are those of wants of each kind, in the order of the document.
func commonFaults() []grantFault {
	return []grantFault{
		{1, func(b *impl.ClaimBook, w *impl.ClaimWant) { b.Foes = append(b.Foes, impl.ClaimFoe{A: "z", B: "z"}) }},
		{2, func(b *impl.ClaimBook, w *impl.ClaimWant) { w.Shuts = append(w.Shuts, "zz") }},
		{3, func(b *impl.ClaimBook, w *impl.ClaimWant) {
			for i := range b.Parts {
				b.Parts[i].Want.Number = w.Number + i
			}
			b.Seen = w.Number + len(b.Parts)
		}},
		{4, func(b *impl.ClaimBook, w *impl.ClaimWant) { b.Seen = max(b.Seen, w.Number) }},
		{5, func(b *impl.ClaimBook, w *impl.ClaimWant) {
			for range 3 {
				last := b.Parts[len(b.Parts)-1].Want.Number
				b.Parts = append(b.Parts, impl.ClaimPart{Want: impl.ClaimWant{Number: last + 1, Kind: impl.ClaimPermit, Shuts: []string{"s"}}})
			}
			b.Seen = max(b.Seen, b.Parts[5].Want.Number)
		}},
		{6, func(b *impl.ClaimBook, w *impl.ClaimWant) { w.Uses[0].Name = "busy" }},
		{7, func(b *impl.ClaimBook, w *impl.ClaimWant) { w.Shuts = append([]string{"o"}, w.Shuts...) }},
	}
}

// faultBook has three parts, one that uses a place, one that opens a valve, one that keeps one shut.
func faultBook() impl.ClaimBook {
	return impl.ClaimBook{
		Foes:   []impl.ClaimFoe{{A: "ale", B: "lye"}},
		Spots:  []impl.ClaimSpot{{Name: "busy"}, {Name: "free"}, {Name: "p1", Cap: 10}, {Name: "p2", Cap: 10}, {Name: "p3", Cap: 10}, {Name: "p4", Cap: 10}, {Name: "p5", Cap: 10}, {Name: "p6", Cap: 10}},
		Valves: []string{"o", "s", "t"},
		Parts: []impl.ClaimPart{
			{Want: impl.ClaimWant{Number: 11, Kind: impl.ClaimPermit, Uses: usesOfNames([]string{"busy"})}},
			{Want: impl.ClaimWant{Number: 12, Kind: impl.ClaimMove, Stuffs: []string{"ale"}, Opens: []string{"o"}}},
			{Want: impl.ClaimWant{Number: 13, Kind: impl.ClaimPermit, Shuts: []string{"s"}}},
		},
		Seen: 16,
	}
}

// placeFault is what is wrong with one place of a move.
type placeFault struct {
	code int
	spot impl.ClaimSpot
	use  impl.ClaimUse
}

// placeFaults give their code to a move of ale. Those of 5 and 8 have another one behind it, of the same place.
func placeFaults() []placeFault {
	return []placeFault{
		{8, impl.ClaimSpot{Cap: 10, May: []string{"hop"}}, impl.ClaimUse{Role: impl.ClaimFrom, Amount: 1}},
		{8, impl.ClaimSpot{Cap: 10, May: []string{"lye"}}, impl.ClaimUse{Role: impl.ClaimTo, Amount: 11}},
		{8, impl.ClaimSpot{Cap: 10, May: []string{"a", "b", "c", "d", "e", "f", "g", "lye"}}, impl.ClaimUse{Role: impl.ClaimTo, Amount: 1}},
		{5, impl.ClaimSpot{Cap: 10, May: []string{"a", "b", "c", "d", "e", "f", "g", "h"}}, impl.ClaimUse{Role: impl.ClaimTo, Amount: 11}},
		{9, impl.ClaimSpot{Cap: 10}, impl.ClaimUse{Role: impl.ClaimFrom, Amount: 1}},
		{10, impl.ClaimSpot{Cap: 10}, impl.ClaimUse{Role: impl.ClaimTo, Amount: 11}},
	}
}

// addPlaceFaults lays the faults, in this order, at the places p1 and so on, and tells the code of the first.
func addPlaceFaults(b *impl.ClaimBook, w *impl.ClaimWant, order []int) int {
	first, later := 0, 0
	for i, at := range order {
		f := placeFaults()[at]
		f.spot.Name = fmt.Sprintf("p%d", i+1)
		f.use.Name = f.spot.Name
		b.Spots[2+i] = f.spot
		w.Uses = append(w.Uses, f.use)
		if f.code < 9 && first == 0 {
			first = f.code
		}
		if f.code >= 9 && later == 0 {
			later = f.code
		}
	}
	if first == 0 {
		return later
	}
	return first
}

// Each code at arguments where any of the later ones would also do.
func TestGrantOrderOfCodesOfMoves(t *testing.T) {
	faults := append(commonFaults(), grantFault{8, func(b *impl.ClaimBook, w *impl.ClaimWant) { w.Stuffs = append(w.Stuffs, "lye") }})
	for bits := range 1 << len(faults) {
		for _, order := range [][]int{nil, {5, 4}, {4, 5}, {0, 5}, {3, 1, 4}, {5, 2, 3}, {4, 0, 3}, {4, 3, 0}, {0, 1, 2, 3, 4, 5}, {5, 4, 3, 2, 1, 0}} {
			b := faultBook()
			w := impl.ClaimWant{Number: 17, Kind: impl.ClaimMove, Stuffs: []string{"ale"}, Uses: usesOfNames([]string{"free"}), Shuts: []string{"t"}}
			asked := addPlaceFaults(&b, &w, order)
			checkFaults(t, faults, bits, b, w, asked)
		}
	}
}

func TestGrantOrderOfCodesOfOthers(t *testing.T) {
	for _, kind := range []int{impl.ClaimClean, impl.ClaimPermit} {
		for bits := range 1 << len(commonFaults()) {
			for _, most := range []int{0, 1} {
				b := faultBook()
				b.Spots[3].Most = most
				w := impl.ClaimWant{Number: 17, Kind: kind, Uses: usesOfNames([]string{"free", "p1", "p2"}), Shuts: []string{"t"}}
				asked := 0
				if kind == impl.ClaimClean && most > 0 {
					asked = 11
				}
				checkFaults(t, commonFaults(), bits, b, w, asked)
			}
		}
	}
}

// checkFaults brings in the faults whose bit is set: the first of them is asked for, or, if there is none, the other code.
func checkFaults(t *testing.T, faults []grantFault, bits int, b impl.ClaimBook, w impl.ClaimWant, asked int) {
	t.Helper()
	name := fmt.Sprintf("kind %d, faults", w.Kind)
	// The last first: a fault of the number is laid on what the others have made of the book.
	for i, f := range slices.Backward(faults) {
		if bits>>i&1 == 1 {
			f.add(&b, &w)
			asked = f.code
			name += fmt.Sprintf(" %d", f.code)
		}
	}
	checkGrant(t, name, b, w, asked)
}

// All orders of all choices of the faults that are looked for place by place.
func TestGrantPlaceByPlace(t *testing.T) {
	var orders func(order []int)
	count := 0
	orders = func(order []int) {
		b := faultBook()
		w := impl.ClaimWant{Number: 17, Kind: impl.ClaimMove, Stuffs: []string{"ale"}, Shuts: []string{"t"}}
		asked := addPlaceFaults(&b, &w, order)
		checkGrant(t, fmt.Sprint("place by place ", order), b, w, asked)
		count++
		for at := range placeFaults() {
			if !slices.Contains(order, at) {
				orders(append(slices.Clone(order), at))
			}
		}
	}
	orders(nil)
	if count != 1+6+30+120+360+720+720 {
		t.Errorf("%d orders", count)
	}
}

func TestGrantEmptyPlacesForClean(t *testing.T) {
	for bits := range 8 {
		b := faultBook()
		for i := range 3 {
			b.Spots[2+i].Most = bits >> i & 1
		}
		uses := usesOfNames([]string{"p1", "p2", "p3"})
		asked := 0
		if bits > 0 {
			asked = 11
		}
		checkGrant(t, "clean", b, impl.ClaimWant{Number: 17, Kind: impl.ClaimClean, Uses: uses}, asked)
		checkGrant(t, "permit", b, impl.ClaimWant{Number: 17, Kind: impl.ClaimPermit, Uses: uses}, 0)
		checkGrant(t, "move", b, impl.ClaimWant{Number: 17, Kind: impl.ClaimMove, Stuffs: []string{"ale"}, Uses: uses}, 0)
	}
}

func TestGrantOfABookThatIsNotOk(t *testing.T) {
	w := yardMove()
	for i, change := range []func(b *impl.ClaimBook){
		func(b *impl.ClaimBook) { b.Foes[0].B = "ale" },
		func(b *impl.ClaimBook) { b.Spots[3].Most = 10 },
		func(b *impl.ClaimBook) { b.Spots[3].May = []string{"hop", "oil"} },
		func(b *impl.ClaimBook) { b.Valves[1] = "a" },
		func(b *impl.ClaimBook) { b.Seen = -1 },
		func(b *impl.ClaimBook) { b.Seen = 4 },
		func(b *impl.ClaimBook) { b.Seen = math.MaxInt },
		func(b *impl.ClaimBook) { b.Parts[1].Want.Shuts = []string{"a"} },
		func(b *impl.ClaimBook) { b.Spots[0].May = nil },
		func(b *impl.ClaimBook) { b.Spots = nil },
	} {
		b := aYard()
		change(&b)
		name := fmt.Sprintf("change %d", i)
		checkGrant(t, name, b, w, 1)
		checkGrant(t, name+", a part of it", b, aYard().Parts[0].Want, 1)
		checkGrant(t, name+", a want that is not ok", b, impl.ClaimWant{}, 1)
	}
}

func TestGrantOfAWantThatIsNotOkOrNotKnown(t *testing.T) {
	for i, change := range []func(w *impl.ClaimWant){
		func(w *impl.ClaimWant) { w.Kind = 0 },
		func(w *impl.ClaimWant) { w.Kind = impl.ClaimClean },
		func(w *impl.ClaimWant) { w.Stuffs = nil },
		func(w *impl.ClaimWant) { w.Uses[0].Amount = 1 },
		func(w *impl.ClaimWant) { w.Uses[0].Name = "i" },
		func(w *impl.ClaimWant) { w.Uses[2].Name = "tuns" },
		func(w *impl.ClaimWant) { w.Uses[0].Name = "a" },
		func(w *impl.ClaimWant) { w.Opens[0] = "tun" },
		func(w *impl.ClaimWant) { w.Opens = []string{"c", "e"} },
		func(w *impl.ClaimWant) { w.Shuts = []string{"b", "e"} },
		func(w *impl.ClaimWant) { w.Shuts = []string{"c"} },
		func(w *impl.ClaimWant) { w.Uses, w.Opens, w.Shuts = nil, nil, nil },
	} {
		w := yardMove()
		change(&w)
		for _, number := range []int{1, 3, 6, 7, 1000000} {
			w.Number = number
			checkGrant(t, fmt.Sprintf("change %d, number %d", i, number), aYard(), w, 2)
		}
	}
	checkGrant(t, "nothing", aYard(), impl.ClaimWant{}, 2)
	checkGrant(t, "nothing of nothing", impl.ClaimBook{}, impl.ClaimWant{}, 2)
}

func TestGrantNumbers(t *testing.T) {
	for _, seen := range []int{6, 7, 8, 999999, 1000000} {
		for _, number := range append(oddNumbers(), 5, 6, 7, 8, 9) {
			b, w := aYard(), yardMove()
			b.Seen, w.Number = seen, number
			asked := 0
			switch {
			case number < 1 || number > 1000000:
				asked = 2
			case number == 3 || number == 5:
				asked = 3
			case number <= seen:
				asked = 4
			}
			checkGrant(t, fmt.Sprintf("Seen %d, Number %d", seen, number), b, w, asked)
		}
	}
}

// fullBook is aBook with as many parts as there may be.
func fullBook() impl.ClaimBook {
	b := aBook()
	var parts []impl.ClaimPart
	for number := 1; number <= 3; number++ {
		parts = append(parts, impl.ClaimPart{Want: impl.ClaimWant{Number: number, Kind: impl.ClaimPermit, Shuts: []string{"c"}}})
	}
	b.Parts = append(parts, b.Parts...)
	return b
}

// What is granted already is 0 whatever else holds of it, and the book stays as it was.
func TestGrantOfWhatIsGrantedAlready(t *testing.T) {
	for _, b := range []impl.ClaimBook{aBook(), fullBook()} {
		for _, seen := range []int{11, 12, 1000000} {
			b.Seen = seen
			for i := range b.Parts {
				checkGrant(t, "a part", b, b.Parts[i].Want, 0)
				b.Parts[i].Stopped = !b.Parts[i].Stopped
				checkGrant(t, "a part, Stopped or not", b, b.Parts[i].Want, 0)
				w := roomyWant(b.Parts[i].Want)
				w.Stuffs, w.Uses, w.Opens, w.Shuts = notNil(w.Stuffs), notNil(w.Uses), notNil(w.Opens), notNil(w.Shuts)
				checkGrant(t, "the empty list is the nil list", b, w, 0)
			}
		}
	}
	foes := impl.ClaimWant{Number: 1, Kind: impl.ClaimMove, Stuffs: []string{"ale", "lye"}, Uses: []impl.ClaimUse{{Name: "p", Role: impl.ClaimFrom, Amount: 1}}}
	b := impl.ClaimBook{Foes: []impl.ClaimFoe{{A: "ale", B: "lye"}}, Spots: []impl.ClaimSpot{{Name: "p", Cap: 1, Most: 1}}, Parts: []impl.ClaimPart{{Want: foes}}, Seen: 1}
	checkGrant(t, "Stuffs that are foes, and too little", b, foes, 0)
}

func notNil[T any](list []T) []T {
	if list == nil {
		return []T{}
	}
	return list
}

// Any change of a part's want is another want; under its number it is refused, and the book stays as it was.
func TestGrantOfAnotherWantUnderANumber(t *testing.T) {
	for i, change := range []func(w *impl.ClaimWant){
		func(w *impl.ClaimWant) { w.Stuffs = []string{"ale"} },
		func(w *impl.ClaimWant) { w.Stuffs = []string{"ale", "malt", "oil"} },
		func(w *impl.ClaimWant) { w.Stuffs = []string{"ale", "oil"} },
		func(w *impl.ClaimWant) { w.Uses = w.Uses[:2] },
		func(w *impl.ClaimWant) { w.Uses = nil },
		func(w *impl.ClaimWant) { w.Uses = append(w.Uses, impl.ClaimUse{Name: "vat", Role: impl.ClaimBy}) },
		func(w *impl.ClaimWant) { w.Uses[0].Name = "free" },
		func(w *impl.ClaimWant) { w.Uses[1].Role = impl.ClaimFrom },
		func(w *impl.ClaimWant) { w.Uses[2].Amount-- },
		func(w *impl.ClaimWant) { w.Opens = nil },
		func(w *impl.ClaimWant) { w.Opens = []string{"a", "f"} },
		func(w *impl.ClaimWant) { w.Shuts = nil },
		func(w *impl.ClaimWant) { w.Shuts = []string{"c", "e"} },
		func(w *impl.ClaimWant) { w.Opens, w.Shuts = []string{"c", "d"}, []string{"a", "b"} },
		func(w *impl.ClaimWant) { *w = impl.ClaimWant{Kind: impl.ClaimPermit, Shuts: []string{"f"}} },
		func(w *impl.ClaimWant) {
			*w = impl.ClaimWant{Kind: impl.ClaimClean, Uses: usesOfNames([]string{"free"})}
		},
	} {
		for _, b := range []impl.ClaimBook{aBook(), fullBook()} {
			for _, part := range b.Parts {
				w := aMove()
				change(&w)
				w.Number = part.Want.Number
				checkGrant(t, fmt.Sprintf("change %d, number %d", i, w.Number), b, w, 3)
			}
		}
	}
	clean := aBook().Parts[1].Want
	clean.Kind = impl.ClaimPermit
	checkGrant(t, "another Kind alone", aBook(), clean, 3)
	permit := aBook().Parts[2].Want
	permit.Kind = impl.ClaimClean
	checkGrant(t, "another Kind alone, the other way", aBook(), permit, 3)
}

func TestGrantCountOfParts(t *testing.T) {
	all := []int{1, 2, 3, 4, 5, 6}
	for n := range 7 {
		for _, w := range []impl.ClaimWant{
			{Kind: impl.ClaimPermit, Shuts: []string{"a"}},
			{Kind: impl.ClaimClean, Shuts: []string{"a"}},
			{Kind: impl.ClaimMove, Stuffs: []string{"ale"}, Shuts: []string{"a"}},
		} {
			w.Number = 10
			b := permits(9, all[:n]...)
			b.Parts = slices.Clone(b.Parts)
			asked := 0
			if n == 6 {
				asked = 5
			}
			checkGrant(t, fmt.Sprintf("%d parts", n), b, w, asked)
			for i := range b.Parts {
				b.Parts[i].Stopped = true
			}
			checkGrant(t, fmt.Sprintf("%d parts, all Stopped", n), b, w, asked)
		}
	}
}

// oneWant is a book with one part of its own, and the two places p and q.
func oneWant(w impl.ClaimWant, stopped bool) impl.ClaimBook {
	b := impl.ClaimBook{Valves: []string{"a", "b", "c"}, Parts: []impl.ClaimPart{{Want: w, Stopped: stopped}}, Seen: 4}
	for _, name := range []string{"p", "q"} {
		b.Spots = append(b.Spots, impl.ClaimSpot{Name: name, Cap: 10, Least: 2, Most: 8, May: []string{"ale"}})
	}
	return b
}

func TestGrantUsedPlaces(t *testing.T) {
	var wants []impl.ClaimWant
	for _, names := range [][]string{{"p"}, {"q"}, {"p", "q"}} {
		wants = append(wants, impl.ClaimWant{Kind: impl.ClaimPermit, Uses: usesOfNames(names)})
		for role := impl.ClaimFrom; role <= impl.ClaimBy; role++ {
			w := impl.ClaimWant{Kind: impl.ClaimMove, Stuffs: []string{"ale"}, Uses: usesOfNames(names)}
			for i := range w.Uses {
				w.Uses[i].Role, w.Uses[i].Amount = role, 1-role/impl.ClaimBy
			}
			wants = append(wants, w)
		}
	}
	for _, v := range wants {
		for _, w := range wants {
			v.Number, w.Number = 2, 5
			asked := 0
			if plainMeet(plainPlaces(v), plainPlaces(w)) {
				asked = 6
			}
			checkGrant(t, "used", oneWant(v, false), w, asked)
			checkGrant(t, "used by what is Stopped", oneWant(v, true), w, asked)
		}
	}
	valve := impl.ClaimWant{Number: 2, Kind: impl.ClaimMove, Stuffs: []string{"ale"}, Opens: []string{"p"}}
	b := oneWant(valve, false)
	b.Valves = []string{"p"}
	checkGrant(t, "a valve with the name of a place", b, impl.ClaimWant{Number: 5, Kind: impl.ClaimPermit, Uses: usesOfNames([]string{"p"})}, 0)
}

// All ways in which two moves may turn three valves.
func TestGrantCrossing(t *testing.T) {
	names := []string{"a", "b", "c"}
	for bits := range 1 << 12 {
		open1, shut1, open2, shut2 := bits&7, bits>>3&7, bits>>6&7, bits>>9&7
		if open1&shut1 != 0 || open2&shut2 != 0 || open1|shut1 == 0 || open2|shut2 == 0 {
			continue
		}
		v := impl.ClaimWant{Number: 2, Kind: impl.ClaimMove, Stuffs: []string{"ale"}, Opens: someOf(names, open1), Shuts: someOf(names, shut1)}
		w := impl.ClaimWant{Number: 5, Kind: impl.ClaimMove, Stuffs: []string{"ale"}, Opens: someOf(names, open2), Shuts: someOf(names, shut2)}
		asked := 0
		if open1&(open2|shut2)|open2&(open1|shut1) != 0 {
			asked = 7
		}
		checkGrant(t, "crossing", oneWant(v, bits%2 == 0), w, asked)
	}
}

// Not the nearest part alone is looked at: one of three is in the way.
func TestGrantEachPart(t *testing.T) {
	for at := range 3 {
		b := impl.ClaimBook{Spots: []impl.ClaimSpot{{Name: "p"}}, Valves: []string{"a", "b"}, Seen: 3}
		for number := 1; number <= 3; number++ {
			b.Parts = append(b.Parts, impl.ClaimPart{Want: impl.ClaimWant{Number: number, Kind: impl.ClaimPermit, Shuts: []string{"b"}}})
		}
		b.Parts[at].Want.Shuts = []string{"a", "b"}
		opens := impl.ClaimWant{Number: 4, Kind: impl.ClaimMove, Stuffs: []string{"ale"}, Opens: []string{"a"}}
		checkGrant(t, "crossed by one", b, opens, 7)
		b.Parts[at].Want.Uses = usesOfNames([]string{"p"})
		opens.Uses = usesOfNames([]string{"p"})
		checkGrant(t, "used and crossed by one", b, opens, 6)
	}
}

// Promise 2, NEVER MET: all pairs of eight stuffs, as Stuffs of one want.
func TestGrantStuffsThatAreFoes(t *testing.T) {
	names := manyNames(8)
	for i := range names {
		for j := i + 1; j < len(names); j++ {
			b := impl.ClaimBook{Foes: []impl.ClaimFoe{{A: names[i], B: names[j]}}, Valves: []string{"a"}}
			w := impl.ClaimWant{Number: 1, Kind: impl.ClaimMove, Opens: []string{"a"}}
			w.Stuffs = names
			checkGrant(t, "both among all", b, w, 8)
			w.Stuffs = []string{names[i], names[j]}
			checkGrant(t, "both alone", b, w, 8)
			w.Stuffs = without(names, i)
			checkGrant(t, "all but one", b, w, 0)
			w.Stuffs = without(names, j)
			checkGrant(t, "all but the other", b, w, 0)
		}
	}
}

// All May and all Stuffs of four names of which two are foes, in each Role, at the first or the last place.
func TestGrantMay(t *testing.T) {
	names := []string{"ale", "hop", "lye", "malt"}
	foes := []impl.ClaimFoe{{A: "ale", B: "lye"}}
	met := func(bits int) bool { return bits&5 == 5 }
	for may := range 16 {
		for stuffs := 1; stuffs < 16; stuffs++ {
			for role := impl.ClaimFrom; role <= impl.ClaimBy; role++ {
				u := impl.ClaimUse{Name: "p", Role: role, Amount: 1 - role/impl.ClaimBy}
				b := impl.ClaimBook{Foes: foes, Spots: []impl.ClaimSpot{{Name: "o"}, {Name: "p", Cap: 9, Least: 4, Most: 5, May: someOf(names, may)}, {Name: "q"}}}
				w := impl.ClaimWant{Number: 1, Kind: impl.ClaimMove, Stuffs: someOf(names, stuffs), Uses: []impl.ClaimUse{u}}
				asked, left := 0, may
				switch {
				case met(may):
					asked = 1
				case met(stuffs), role != impl.ClaimTo && may&^stuffs != 0, role == impl.ClaimTo && met(may|stuffs):
					asked = 8
				case role != impl.ClaimFrom:
					left = may | stuffs
				}
				name := fmt.Sprintf("May %v, Stuffs %v, Role %d", someOf(names, may), w.Stuffs, role)
				got := checkGrant(t, name, b, w, asked)
				if asked == 0 && !slices.Equal(got.Spots[1].May, someOf(names, left)) {
					t.Errorf("%s: May becomes %v", name, got.Spots[1].May)
				}
				w.Uses = append(usesOfNames([]string{"o"}), u)
				checkGrant(t, name+", the last place", b, w, asked)
				w.Uses = append([]impl.ClaimUse{u}, usesOfNames([]string{"q"})...)
				checkGrant(t, name+", the first place", b, w, asked)
			}
		}
	}
}

// Code 5 at its second place: as many different stuffs as there may be, and one more.
func TestGrantCountOfMay(t *testing.T) {
	names := manyNames(16)
	for may := range 9 {
		for from := range 9 {
			for n := 1; n <= 8; n++ {
				for role := impl.ClaimFrom; role <= impl.ClaimBy; role++ {
					w := impl.ClaimWant{Number: 1, Kind: impl.ClaimMove, Stuffs: names[from : from+n]}
					w.Uses = []impl.ClaimUse{{Name: "p", Role: role, Amount: 1 - role/impl.ClaimBy}}
					b := impl.ClaimBook{Spots: []impl.ClaimSpot{{Name: "p", Cap: 9, Least: 4, Most: 5, May: names[:may]}}}
					asked := 0
					switch {
					case role != impl.ClaimTo && !plainSubset(names[:may], w.Stuffs):
						asked = 8
					case role == impl.ClaimTo && max(may, from+n)-max(0, from-may) > 8:
						asked = 5
					}
					checkGrant(t, fmt.Sprintf("%d in May, Stuffs %d to %d, Role %d", may, from, from+n-1, role), b, w, asked)
				}
			}
		}
	}
}

func TestGrantAmounts(t *testing.T) {
	numbers := []int{0, 1, 2, 3, 500, 999, 1000}
	for _, room := range numbers {
		for _, most := range numbers {
			for _, least := range numbers {
				for _, amount := range []int{1, 2, 3, 500, 501, 999, 1000} {
					if least > most || most > room {
						continue
					}
					s := impl.ClaimSpot{Name: "p", Cap: room, Least: least, Most: most}
					checkAmount(t, s, impl.ClaimUse{Name: "p", Role: impl.ClaimFrom, Amount: amount}, 9*btoi(amount > least))
					checkAmount(t, s, impl.ClaimUse{Name: "p", Role: impl.ClaimTo, Amount: amount}, 10*btoi(most+amount > room))
				}
			}
		}
	}
}

func btoi(yes bool) int {
	if yes {
		return 1
	}
	return 0
}

func checkAmount(t *testing.T, s impl.ClaimSpot, u impl.ClaimUse, asked int) {
	t.Helper()
	name := fmt.Sprintf("%+v, %+v", s, u)
	w := impl.ClaimWant{Number: 1, Kind: impl.ClaimMove, Stuffs: []string{"ale"}, Uses: []impl.ClaimUse{u}}
	got := checkGrant(t, name, impl.ClaimBook{Spots: []impl.ClaimSpot{s}}, w, asked)
	least, most := s.Least, s.Most
	if asked == 0 && u.Role == impl.ClaimFrom {
		least -= u.Amount
	}
	if asked == 0 && u.Role == impl.ClaimTo {
		most += u.Amount
	}
	if got.Spots[0].Least != least || got.Spots[0].Most != most || got.Spots[0].Cap != s.Cap {
		t.Errorf("%s: the place becomes %+v", name, got.Spots[0])
	}
}

// All limits of a want met at once.
func TestGrantFull(t *testing.T) {
	names := manyNames(12)
	b := impl.ClaimBook{Valves: names, Seen: 999999}
	for _, name := range names {
		b.Foes = append(b.Foes, impl.ClaimFoe{A: "a", B: name})
	}
	w := impl.ClaimWant{Number: 1000000, Kind: impl.ClaimMove, Stuffs: names[:8], Opens: names}
	for i, name := range names[:8] {
		s := impl.ClaimSpot{Name: name, Cap: 1000, May: names[:i+1]}
		if i%2 == 0 {
			s.Least, s.Most = 1000, 1000
		}
		b.Spots = append(b.Spots, s)
		w.Uses = append(w.Uses, impl.ClaimUse{Name: name, Role: 1 + i%2, Amount: 1000})
	}
	got := checkGrant(t, "full", b, w, 0)
	for i, s := range got.Spots {
		if s.Least != 0 || s.Most != 1000 || len(s.May) != []int{i + 1, 8}[i%2] {
			t.Errorf("place %d becomes %+v", i, s)
		}
	}
	checkGrant(t, "nothing behind the greatest number", got, impl.ClaimWant{Number: 1000000, Kind: impl.ClaimPermit, Shuts: names}, 3)
	got.Parts = nil
	checkGrant(t, "nothing behind the greatest number", got, w, 4)
}

// Arguments that share memory among themselves give an answer that shares none.
func TestGrantOfSharedLists(t *testing.T) {
	names := []string{"a", "b", "c"}
	uses := usesOfNames(names)
	w := impl.ClaimWant{Number: 2, Kind: impl.ClaimMove, Stuffs: names, Uses: uses, Opens: names}
	b := impl.ClaimBook{Valves: names, Seen: 1}
	for _, name := range names {
		b.Spots = append(b.Spots, impl.ClaimSpot{Name: name, May: names})
	}
	got := checkGrant(t, "granted", b, w, 0)
	checkGrant(t, "a part of the book itself", got, got.Parts[0].Want, 0)
	got.Parts[0].Stopped = true
	for code, w := range map[int]impl.ClaimWant{
		2: {Number: 9, Kind: impl.ClaimMove, Stuffs: names, Shuts: names, Opens: names},
		3: {Number: 2, Kind: impl.ClaimMove, Stuffs: names, Uses: uses, Shuts: names},
		4: {Number: 1, Kind: impl.ClaimMove, Stuffs: names, Uses: uses, Shuts: names},
		6: {Number: 3, Kind: impl.ClaimMove, Stuffs: names, Uses: uses, Shuts: names},
		7: {Number: 3, Kind: impl.ClaimMove, Stuffs: names, Shuts: names},
	} {
		w.Stuffs = got.Spots[0].May
		checkGrant(t, "refused", got, w, code)
	}
}

func TestGrantOfAnyLength(t *testing.T) {
	long := manyNames(20000)
	w := changedWant(yardMove(), func(w *impl.ClaimWant) { w.Uses, w.Stuffs, w.Opens, w.Shuts = usesOfNames(long), long, long, long })
	checkGrant(t, "a long want", aYard(), w, 2)
	b := aYard()
	for range long {
		b.Parts = append(b.Parts, impl.ClaimPart{Want: yardMove()})
	}
	checkGrant(t, "many parts", b, yardMove(), 1)
}

// The document's example; what chapter 4 does between is written into the book here.
func TestGrantExample(t *testing.T) {
	b := impl.ClaimBook{
		Foes:   []impl.ClaimFoe{{A: "ale", B: "lye"}},
		Spots:  []impl.ClaimSpot{{Name: "j"}, {Name: "keg", Cap: 40}, {Name: "tun", Cap: 100, Least: 60, Most: 60, May: []string{"ale", "malt"}}},
		Valves: []string{"a", "b", "c", "d"},
	}
	move := func(stuffs []string, number int, uses []impl.ClaimUse, opens, shuts []string) impl.ClaimWant {
		return impl.ClaimWant{Number: number, Kind: impl.ClaimMove, Stuffs: stuffs, Uses: uses, Opens: opens, Shuts: shuts}
	}
	step := func(w impl.ClaimWant, asked int) { b = checkGrant(t, fmt.Sprintf("number %d", w.Number), b, w, asked) }
	uses := []impl.ClaimUse{{Name: "j", Role: 3}, {Name: "keg", Role: 2, Amount: 30}, {Name: "tun", Role: 1, Amount: 30}}
	both := []string{"ale", "malt"}
	step(move([]string{"ale"}, 1, uses, []string{"a", "b"}, []string{"c"}), 8)
	step(move(both, 2, uses, []string{"a", "b"}, []string{"c"}), 0)
	asked := []impl.ClaimSpot{{Name: "j", May: both}, {Name: "keg", Cap: 40, Most: 30, May: both}, {Name: "tun", Cap: 100, Least: 30, Most: 60, May: both}}
	if !sameBook(impl.ClaimBook{Spots: b.Spots}, impl.ClaimBook{Spots: asked}) {
		t.Errorf("the places are %+v", b.Spots)
	}
	step(move([]string{"ale"}, 3, []impl.ClaimUse{{Name: "keg", Role: 1, Amount: 5}}, []string{"d"}, nil), 6)
	step(impl.ClaimWant{Number: 3, Kind: impl.ClaimPermit, Shuts: []string{"b"}}, 4)
	step(impl.ClaimWant{Number: 4, Kind: impl.ClaimPermit, Shuts: []string{"c", "d"}}, 0)
	step(move([]string{"lye"}, 5, nil, nil, []string{"a"}), 7)
	b.Parts = b.Parts[1:] // stopped, and over with 20 moved
	b.Spots[1].Least, b.Spots[1].Most, b.Spots[2].Least, b.Spots[2].Most = 20, 20, 40, 40
	step(move([]string{"lye"}, 6, []impl.ClaimUse{{Name: "keg", Role: 2, Amount: 5}}, []string{"d"}, nil), 7)
	step(move(both, 7, []impl.ClaimUse{{Name: "keg", Role: 2, Amount: 21}}, []string{"a"}, nil), 10)
	step(move([]string{"lye"}, 8, usesOfNames([]string{"j"}), []string{"b"}, nil), 8)
	b.Parts = nil // stopped, and over
	step(impl.ClaimWant{Number: 9, Kind: impl.ClaimClean, Uses: usesOfNames([]string{"j"}), Shuts: []string{"a", "b"}}, 0)
	b.Parts, b.Spots[0].May = nil, nil // stopped, and cleaned
	step(move([]string{"lye"}, 9, usesOfNames([]string{"j"}), []string{"a"}, nil), 4)
	step(move([]string{"lye"}, 10, usesOfNames([]string{"j"}), []string{"b"}, nil), 0)
	if j := b.Spots[0]; j.Least != 0 || j.Most != 0 || j.Cap != 0 || !slices.Equal(j.May, []string{"lye"}) {
		t.Errorf("j is %+v", j)
	}
}
