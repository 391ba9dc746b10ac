package tests

import (
	"fmt"
	"math"
	"slices"
	"testing"

	"loop.example/maltclaim/impl"
)

// checkStop asks ClaimStop for a code; the book behind it hangs on the code alone.
func checkStop(t *testing.T, name string, b impl.ClaimBook, number, asked int) impl.ClaimBook {
	t.Helper()
	got, code := stopOf(t, b, number)
	behind := tidyBook(b)
	switch {
	case code != asked:
		t.Errorf("%s: code %d, the document asks for %d: %+v, number %d", name, code, asked, b, number)
		return got
	case code == 1:
		behind = impl.ClaimBook{}
	case code == 0:
		behind.Parts[plainPart(b, number)].Stopped = true
	}
	if !sameBook(got, behind) {
		t.Errorf("%s: behind code %d the book is %+v, the document asks for %+v", name, code, got, behind)
	}
	return got
}

// checkOver asks ClaimOver for a code. With 0 it looks at what hangs on no role, and at promises 4 and 6.
func checkOver(t *testing.T, name string, b impl.ClaimBook, number, moved int, done bool, asked int) impl.ClaimBook {
	t.Helper()
	got, code := overOf(t, b, number, moved, done)
	behind := tidyBook(b)
	switch {
	case code != asked:
		t.Errorf("%s: code %d, the document asks for %d: %+v, number %d, moved %d", name, code, asked, b, number, moved)
		return got
	case code == 1:
		behind = impl.ClaimBook{}
	case code == 0:
		at := plainPart(b, number)
		checkSettled(t, name, b, got, b.Parts[at].Want, done)
		behind.Parts = slices.Delete(behind.Parts, at, at+1)
		behind.Spots = got.Spots
	}
	if !sameBook(got, behind) {
		t.Errorf("%s: behind code %d the book is %+v, the document asks for %+v", name, code, got, behind)
	}
	return got
}

// plainPart is the place of the part of this number, -1 if there is none.
func plainPart(b impl.ClaimBook, number int) int {
	for i, p := range b.Parts {
		if p.Want.Number == number {
			return i
		}
	}
	return -1
}

// checkSettled: promises 6 and 4, of the part that is over.
func checkSettled(t *testing.T, name string, b, got impl.ClaimBook, w impl.ClaimWant, done bool) {
	t.Helper()
	if len(got.Spots) != len(b.Spots) {
		t.Fatalf("%s: the places became %+v", name, got.Spots)
	}
	for i, s := range got.Spots {
		old := b.Spots[i]
		used := slices.Contains(plainPlaces(w), s.Name)
		cleaned := used && done && w.Kind == impl.ClaimClean
		if s.Name != old.Name || s.Cap != old.Cap || s.Most-s.Least > old.Most-old.Least {
			t.Errorf("%s: %+v became %+v", name, old, s)
		}
		if !used && (s.Least != old.Least || s.Most != old.Most) {
			t.Errorf("%s: not used, %+v became %+v", name, old, s)
		}
		if cleaned && len(s.May) > 0 || !cleaned && !slices.Equal(s.May, old.May) {
			t.Errorf("%s: May of %+v became %v", name, old, s.May)
		}
	}
	if !bookOk(t, got) {
		t.Errorf("%s: over, the book is not ok: %+v", name, got)
	}
	if code := impl.ClaimCode(got, w); code != 4 {
		t.Errorf("%s: what is over is asked again, code %d", name, code)
	}
	if got.Seen != b.Seen {
		t.Errorf("%s: Seen became %d", name, got.Seen)
	}
}

// allStopped is the book with all its parts Stopped, or with none.
func allStopped(b impl.ClaimBook, stopped bool) impl.ClaimBook {
	b.Parts = slices.Clone(b.Parts)
	for i := range b.Parts {
		b.Parts[i].Stopped = stopped
	}
	return b
}

// brokenBooks are aBook with one thing that is not ok, all of its parts being still there.
func brokenBooks() []impl.ClaimBook {
	var list []impl.ClaimBook
	for _, change := range []func(b *impl.ClaimBook){
		func(b *impl.ClaimBook) { b.Foes[0].B = "ale" },
		func(b *impl.ClaimBook) { b.Spots[0].Least = 10 },
		func(b *impl.ClaimBook) { b.Spots[0].May = []string{"oil", "lye"} },
		func(b *impl.ClaimBook) { b.Spots[4].Least = 31 },
		func(b *impl.ClaimBook) { b.Valves[5] = "e" },
		func(b *impl.ClaimBook) { b.Seen = -1 },
		func(b *impl.ClaimBook) { b.Seen = 10 },
		func(b *impl.ClaimBook) { b.Seen = math.MaxInt },
		func(b *impl.ClaimBook) { b.Parts[2].Want.Shuts = []string{"a"} },
		func(b *impl.ClaimBook) { b.Parts[0].Want.Uses[0].Role = 0 },
		func(b *impl.ClaimBook) { b.Parts[0].Want.Uses[0].Role = 4 },
		func(b *impl.ClaimBook) { b.Parts[0].Want.Uses[2].Role = -1 },
		func(b *impl.ClaimBook) { b.Parts[0].Want.Uses[1].Amount = math.MaxInt },
		func(b *impl.ClaimBook) { b.Parts[1].Want.Uses[0].Name = "z" },
		func(b *impl.ClaimBook) { b.Spots = nil },
		func(b *impl.ClaimBook) { b.Parts = append(b.Parts, b.Parts[2]) },
	} {
		list = append(list, changedBook(change))
	}
	return list
}

func TestStop(t *testing.T) {
	for _, b := range []impl.ClaimBook{aBook(), fullBook(), allStopped(aBook(), false), allStopped(fullBook(), true)} {
		for _, number := range append(oddNumbers(), 5, 6, 7, 8, 9, 10, 11, 12, 13) {
			asked := 3 * btoi(plainPart(b, number) < 0)
			got := checkStop(t, "any number", b, number, asked)
			if asked != 0 {
				continue
			}
			if !bookOk(t, got) {
				t.Errorf("stopped, the book is not ok: %+v", got)
			}
			again := checkStop(t, "Stopped already", got, number, 0)
			if !sameBook(again, got) {
				t.Errorf("stopped twice, %+v became %+v", got, again)
			}
		}
	}
	checkStop(t, "nothing", impl.ClaimBook{}, 0, 3)
	checkStop(t, "one that is over or was refused", aBook(), 12, 3)
}

func TestStopOfABookThatIsNotOk(t *testing.T) {
	for i, b := range brokenBooks() {
		for _, number := range []int{-1, 0, 1, 7, 8, 11, 12} {
			checkStop(t, fmt.Sprintf("broken %d", i), b, number, 1)
		}
	}
}

// All ways in which codes of ClaimOver may meet at one argument.
func TestOverOrderOfCodes(t *testing.T) {
	for _, stopped := range []bool{false, true} {
		for _, moved := range []int{-1, 0, 30, 31} {
			for _, number := range []int{7, 6} {
				for _, broken := range []bool{false, true} {
					for _, done := range []bool{false, true} {
						b := allStopped(aBook(), stopped)
						b.Seen -= 2 * btoi(broken)
						asked := 0
						switch {
						case broken:
							asked = 1
						case number == 6:
							asked = 3
						case moved < 0 || moved > 30:
							asked = 2
						case !stopped:
							asked = 12
						}
						checkOver(t, fmt.Sprintf("Stopped %v", stopped), b, number, moved, done, asked)
					}
				}
			}
		}
	}
}

func TestOverOfABookThatIsNotOk(t *testing.T) {
	for i, b := range brokenBooks() {
		for _, stopped := range []bool{false, true} {
			for _, number := range []int{-1, 7, 8, 11, 12} {
				for _, moved := range []int{-1, 0, 5, 1000} {
					checkOver(t, fmt.Sprintf("broken %d", i), allStopped(b, stopped), number, moved, moved == 0, 1)
				}
			}
		}
	}
}

func TestOverOfNoPart(t *testing.T) {
	b := allStopped(aBook(), true)
	for _, number := range append(oddNumbers(), 5, 6, 9, 10, 12, 13) {
		for _, moved := range oddNumbers() {
			checkOver(t, "no part", b, number, moved, true, 3)
		}
	}
	checkOver(t, "nothing", impl.ClaimBook{}, 0, 0, true, 3)
}

// One part is Stopped, the others are not: only that one can be over.
func TestOverOfEachPart(t *testing.T) {
	for stopped := range aBook().Parts {
		b := allStopped(aBook(), false)
		b.Parts[stopped].Stopped = true
		for i, p := range b.Parts {
			checkOver(t, fmt.Sprintf("part %d of which %d is Stopped", i, stopped), b, p.Want.Number, 0, true, 12*btoi(i != stopped))
		}
	}
}

// levels are Least and Most of all places.
func levels(b impl.ClaimBook) []int {
	var list []int
	for _, s := range b.Spots {
		list = append(list, s.Least, s.Most)
	}
	return list
}

func checkLevels(t *testing.T, name string, b impl.ClaimBook, asked ...int) {
	t.Helper()
	if got := levels(b); !slices.Equal(got, asked) {
		t.Errorf("%s: levels are %v, the document asks for %v", name, got, asked)
	}
}

// The whole book behind a move that is over.
func TestOverWhole(t *testing.T) {
	for _, done := range []bool{false, true} {
		for _, moved := range []int{0, 1, 20, 29, 30} {
			b := allStopped(aBook(), true)
			asked := allStopped(aBook(), true)
			asked.Parts = asked.Parts[1:]
			asked.Spots[2] = impl.ClaimSpot{Name: "keg", Cap: 40, Least: moved, Most: moved, May: []string{"ale", "hop", "malt"}}
			asked.Spots[4] = impl.ClaimSpot{Name: "tun", Cap: 100, Least: 60 - moved, Most: 60 - moved, May: []string{"ale"}}
			got := checkOver(t, "a move", b, 7, moved, done, 0)
			if !sameBook(got, asked) {
				t.Errorf("moved %d: got %+v, the document asks for %+v", moved, got, asked)
			}
		}
	}
}

// oneMove is a book of one place, and of a Stopped move that uses it.
func oneMove(s impl.ClaimSpot, u impl.ClaimUse) impl.ClaimBook {
	s.Name, u.Name, s.May = "p", "p", []string{"ale"}
	w := impl.ClaimWant{Number: 4, Kind: impl.ClaimMove, Stuffs: []string{"ale"}, Uses: []impl.ClaimUse{u}}
	return impl.ClaimBook{Spots: []impl.ClaimSpot{s}, Parts: []impl.ClaimPart{{Want: w, Stopped: true}}, Seen: 4}
}

// All that may be moved out of a place, or into it, and what is beyond.
func TestOverAmounts(t *testing.T) {
	for _, amount := range []int{1, 2, 3, 500, 999, 1000} {
		for _, slack := range []int{0, 1, 250, 999} {
			for _, least := range []int{0, 1, 400} {
				most := least + amount + slack
				if most > 1000 {
					continue
				}
				s := impl.ClaimSpot{Cap: 1000, Least: least, Most: most}
				for _, moved := range append(oddNumbers(), amount-1, amount, amount+1, amount/2) {
					name := fmt.Sprintf("Amount %d, moved %d, %+v", amount, moved, s)
					asked := 2 * btoi(moved < 0 || moved > amount)
					from := checkOver(t, name+", from", oneMove(s, impl.ClaimUse{Role: impl.ClaimFrom, Amount: amount}), 4, moved, moved%2 == 0, asked)
					to := checkOver(t, name+", to", oneMove(s, impl.ClaimUse{Role: impl.ClaimTo, Amount: amount}), 4, moved, moved%2 == 0, asked)
					if asked == 0 {
						checkLevels(t, name+", from", from, least+amount-moved, most-moved)
						checkLevels(t, name+", to", to, least+moved, most-amount+moved)
					}
				}
			}
		}
	}
}

// A move that uses several places: the least of the Amounts bounds what may be moved, and each place is settled by its own.
func TestOverOfSeveralAmounts(t *testing.T) {
	amounts := []int{2, 4, 7}
	for order := range 27 {
		a, b, c := amounts[order%3], amounts[order/3%3], amounts[order/9]
		for roles := range 27 {
			book := impl.ClaimBook{Seen: 9}
			w := impl.ClaimWant{Number: 9, Kind: impl.ClaimMove, Stuffs: []string{"ale"}}
			bound := math.MaxInt
			for i, amount := range []int{a, b, c} {
				u := impl.ClaimUse{Name: string(rune('p' + i)), Role: 1 + []int{roles % 3, roles / 3 % 3, roles / 9}[i], Amount: amount}
				if u.Role == impl.ClaimBy {
					u.Amount = 0
				} else {
					bound = min(bound, amount)
				}
				w.Uses = append(w.Uses, u)
				book.Spots = append(book.Spots, impl.ClaimSpot{Name: u.Name, Cap: 30, Least: 5 + i, Most: 14 + i, May: w.Stuffs})
			}
			book.Parts = []impl.ClaimPart{{Want: w, Stopped: true}}
			for moved := -1; moved <= 9; moved++ {
				checkSeveral(t, book, w, moved, 2*btoi(moved < 0 || moved > bound))
			}
		}
	}
}

func checkSeveral(t *testing.T, b impl.ClaimBook, w impl.ClaimWant, moved, asked int) {
	t.Helper()
	name := fmt.Sprintf("%+v, moved %d", w.Uses, moved)
	got := checkOver(t, name, b, w.Number, moved, true, asked)
	if asked != 0 {
		return
	}
	var list []int
	for i, u := range w.Uses {
		switch u.Role {
		case impl.ClaimFrom:
			list = append(list, 5+i+u.Amount-moved, 14+i-moved)
		case impl.ClaimTo:
			list = append(list, 5+i+moved, 14+i-u.Amount+moved)
		default:
			list = append(list, 5+i, 14+i)
		}
	}
	checkLevels(t, name, got, list...)
}

// What moves nothing may be over with any moved that is not below 0, and changes no levels.
func TestOverWithoutAmounts(t *testing.T) {
	names := []string{"p", "q"}
	for _, kind := range []int{impl.ClaimMove, impl.ClaimClean, impl.ClaimPermit} {
		for _, used := range [][]string{nil, {"p"}, {"q"}, {"p", "q"}} {
			for _, done := range []bool{false, true} {
				for _, moved := range oddNumbers() {
					w := impl.ClaimWant{Number: 3, Kind: kind, Uses: usesOfNames(used), Shuts: []string{"v"}}
					b := impl.ClaimBook{Valves: []string{"v"}, Parts: []impl.ClaimPart{{Want: w, Stopped: true}}, Seen: 5}
					if kind == impl.ClaimMove {
						b.Parts[0].Want.Stuffs = []string{"ale", "malt"}
					}
					for _, name := range names {
						s := impl.ClaimSpot{Name: name, Cap: 9, Least: 2, Most: 8, May: []string{"ale", "malt"}}
						if kind == impl.ClaimClean {
							s.Least, s.Most = 0, 0
						}
						b.Spots = append(b.Spots, s)
					}
					name := fmt.Sprintf("kind %d of %v, moved %d, done %v", kind, used, moved, done)
					got := checkOver(t, name, b, 3, moved, done, 2*btoi(moved < 0))
					checkLevels(t, name, got, levels(b)...)
					for i, s := range names {
						cleaned := kind == impl.ClaimClean && done && moved >= 0 && slices.Contains(used, s)
						if (len(got.Spots[i].May) == 0) != cleaned {
							t.Errorf("%s: May of %s is %v", name, s, got.Spots[i].May)
						}
					}
				}
			}
		}
	}
}

// Promise 5: granted, stopped, and over with nothing moved.
func TestOverWithNothingMoved(t *testing.T) {
	for i, w := range []impl.ClaimWant{
		yardMove(),
		{Number: 9, Kind: impl.ClaimPermit, Uses: usesOfNames([]string{"j", "tun"}), Shuts: []string{"b"}},
		{Number: 1000000, Kind: impl.ClaimClean, Uses: usesOfNames([]string{"j"})},
		{Number: 7, Kind: impl.ClaimMove, Stuffs: []string{"ale", "malt"}, Uses: []impl.ClaimUse{{Name: "tun", Role: impl.ClaimFrom, Amount: 60}}},
		{Number: 7, Kind: impl.ClaimMove, Stuffs: []string{"ale", "malt"}, Uses: []impl.ClaimUse{{Name: "keg", Role: impl.ClaimTo, Amount: 1}, {Name: "tun", Role: impl.ClaimTo, Amount: 30}}},
	} {
		for _, done := range []bool{false, true} {
			name := fmt.Sprintf("want %d", i)
			b := checkGrant(t, name, aYard(), w, 0)
			checkOver(t, name+", not Stopped", b, w.Number, 0, done, 12)
			b = checkStop(t, name, b, w.Number, 0)
			b = checkOver(t, name, b, w.Number, 0, done, 0)
			asked := aYard()
			asked.Seen = w.Number
			for i := range asked.Spots {
				asked.Spots[i].May = b.Spots[i].May
			}
			if !sameBook(b, asked) {
				t.Errorf("%s: got %+v, the document asks for %+v", name, b, asked)
			}
		}
	}
}

// Promise 4: what is over is not granted again, nor is another want under its number.
func TestOverIsNotGrantedAgain(t *testing.T) {
	b := allStopped(aBook(), true)
	for _, number := range []int{8, 11, 7} {
		w := b.Parts[plainPart(b, number)].Want
		b = checkOver(t, "over", b, number, 0, true, 0)
		b = checkGrant(t, "again", b, w, 4)
		w.Shuts = []string{"f"}
		b = checkGrant(t, "another want", b, w, 4)
		b = checkStop(t, "stopped again", b, number, 3)
		b = checkOver(t, "over again", b, number, 0, true, 3)
	}
	if len(b.Parts) != 0 || b.Seen != 12 {
		t.Errorf("the book became %+v", b)
	}
}

// What was in the way of a want is so no more when it is over; what is Stopped still is.
func TestOverMakesWay(t *testing.T) {
	w := impl.ClaimWant{Number: 100, Kind: impl.ClaimPermit, Uses: usesOfNames([]string{"keg"}), Shuts: []string{"a"}}
	b := checkStop(t, "stopped", aBook(), 7, 0)
	checkGrant(t, "its place is used still", b, w, 6)
	w.Uses = nil
	checkGrant(t, "its valve is crossed still", b, w, 7)
	b = checkOver(t, "over", b, 7, 12, false, 0)
	checkGrant(t, "the valve is free", b, w, 0)
	w.Uses = usesOfNames([]string{"keg"})
	b = checkGrant(t, "the place is free", b, w, 0)
	if last := b.Parts[2].Want.Number; last != 100 {
		t.Errorf("the last part is %d", last)
	}
}

// checkValve asks for both answers.
func checkValve(t *testing.T, name string, b impl.ClaimBook, valve string, may int, shut ...int) {
	t.Helper()
	gotMay, gotShut := valveOf(t, b, valve)
	if gotMay != may || !slices.Equal(gotShut, shut) {
		t.Errorf("%s: valve %q may be open under %d and is kept shut by %v, the document asks for %d and %v", name, valve, gotMay, gotShut, may, shut)
	}
}

func TestValves(t *testing.T) {
	for _, stopped := range []bool{false, true} {
		b := aBook()
		b.Parts[0].Stopped = stopped
		open := 7 * btoi(!stopped)
		checkValve(t, "opened", b, "a", open)
		checkValve(t, "opened, the second", b, "b", open)
		checkValve(t, "kept shut by all", b, "c", 0, 7, 8, 11)
		checkValve(t, "kept shut by one", b, "d", 0, 7)
		checkValve(t, "kept shut by two", b, "e", 0, 8, 11)
		checkValve(t, "not used", b, "f", 0)
		for _, name := range append(badNames(), "z", "j", "keg", "ale", "0", "-") {
			if !slices.Contains(b.Valves, name) {
				checkValve(t, "no valve", b, name, 0)
			}
		}
	}
	checkValve(t, "nothing", impl.ClaimBook{}, "", 0)
	checkValve(t, "full", fullBook(), "c", 0, 1, 2, 3, 7, 8, 11)
}

// A valve that each of six parts may open, one may open, or that some keep shut; Stopped or not.
func TestValvesOfEachPart(t *testing.T) {
	numbers := []int{1, 5, 6, 40, 1000, 1000000}
	for bits := range 64 {
		for opener := range numbers {
			for stopped := range 4 {
				b := impl.ClaimBook{Valves: []string{"u", "v", "w"}, Seen: 1000000}
				var shut []int
				for i, number := range numbers {
					w := impl.ClaimWant{Number: number, Kind: impl.ClaimMove, Stuffs: []string{"ale"}, Shuts: []string{"u"}}
					if bits>>i&1 == 1 {
						w.Shuts = []string{"u", "v"}
						shut = append(shut, number)
					}
					if i == opener {
						w.Opens = []string{"w"}
					}
					b.Parts = append(b.Parts, impl.ClaimPart{Want: w, Stopped: stopped>>btoi(i == opener)&1 == 1})
				}
				open := numbers[opener] * btoi(stopped>>1 == 0)
				checkValve(t, "u", b, "u", 0, numbers...)
				checkValve(t, "v", b, "v", 0, shut...)
				checkValve(t, "w", b, "w", open)
			}
		}
	}
}

func TestValvesOfABookThatIsNotOk(t *testing.T) {
	for i, b := range brokenBooks() {
		for _, valve := range []string{"a", "b", "c", "d", "e", "f", "z", ""} {
			checkValve(t, fmt.Sprintf("broken %d", i), b, valve, 0)
		}
	}
}

// Promise 7 as parts come and go.
func TestValvesAlongALife(t *testing.T) {
	b := impl.ClaimBook{Valves: []string{"a", "b"}}
	opens := impl.ClaimWant{Number: 1, Kind: impl.ClaimMove, Stuffs: []string{"ale"}, Opens: []string{"a"}, Shuts: []string{"b"}}
	b = checkGrant(t, "opens", b, opens, 0)
	checkValve(t, "granted", b, "a", 1)
	checkValve(t, "granted", b, "b", 0, 1)
	b = checkStop(t, "stopped", b, 1, 0)
	checkValve(t, "stopped", b, "a", 0)
	checkValve(t, "stopped", b, "b", 0, 1)
	b = checkGrant(t, "granted already", b, opens, 0)
	checkValve(t, "granted twice, it is Stopped still", b, "a", 0)
	opens.Number, opens.Shuts = 2, nil
	b = checkGrant(t, "crossed by what is Stopped", b, opens, 7)
	b = checkOver(t, "over", b, 1, 0, false, 0)
	checkValve(t, "over", b, "b", 0)
	opens.Number = 3
	b = checkGrant(t, "opens again", b, opens, 0)
	checkValve(t, "opened again", b, "a", 3)
}

// Lists that share memory in the argument share none in the answer.
func TestOverOfSharedLists(t *testing.T) {
	names := []string{"a", "b", "c"}
	uses := usesOfNames(names)
	b := impl.ClaimBook{Valves: names, Seen: 3}
	for _, name := range names {
		b.Spots = append(b.Spots, impl.ClaimSpot{Name: name, May: names})
	}
	b.Parts = []impl.ClaimPart{
		{Want: impl.ClaimWant{Number: 1, Kind: impl.ClaimPermit, Shuts: names}, Stopped: true},
		{Want: impl.ClaimWant{Number: 2, Kind: impl.ClaimMove, Stuffs: names, Uses: uses, Shuts: names}, Stopped: true},
		{Want: impl.ClaimWant{Number: 3, Kind: impl.ClaimPermit, Shuts: names}},
	}
	for number := 1; number <= 3; number++ {
		checkStop(t, "stopped", b, number, 0)
		checkOver(t, "over", b, number, 0, true, 12*btoi(number == 3))
		checkOver(t, "below 0", b, number, -1, true, 2)
	}
	checkValve(t, "shut", b, "b", 0, 1, 2, 3)
}

func TestOverOfAnyLength(t *testing.T) {
	b := aBook()
	for range 20000 {
		b.Parts = append(b.Parts, impl.ClaimPart{Want: aMove(), Stopped: true})
	}
	checkStop(t, "many parts", b, 7, 1)
	checkOver(t, "many parts", b, 7, 0, false, 1)
	checkValve(t, "many parts", b, "a", 0)
}

// All limits met at once, and all of it moved.
func TestOverFull(t *testing.T) {
	names := manyNames(12)
	b := impl.ClaimBook{Valves: names, Seen: 1000000}
	w := impl.ClaimWant{Number: 1000000, Kind: impl.ClaimMove, Stuffs: names[:8], Opens: names}
	for i, name := range names[:8] {
		b.Spots = append(b.Spots, impl.ClaimSpot{Name: name, Cap: 1000, Most: 1000, May: names[:8]})
		w.Uses = append(w.Uses, impl.ClaimUse{Name: name, Role: 1 + i%2, Amount: 1000})
	}
	b.Parts = []impl.ClaimPart{{Want: w, Stopped: true}}
	for _, moved := range []int{0, 1, 999, 1000} {
		got := checkOver(t, "full", b, 1000000, moved, true, 0)
		for i, s := range got.Spots {
			if level := []int{1000 - moved, moved}[i%2]; s.Least != level || s.Most != level {
				t.Errorf("moved %d: place %d becomes %+v", moved, i, s)
			}
		}
	}
	checkOver(t, "full", b, 1000000, 1001, true, 2)
}

// The document's example, all of it but for the words of its session.
func TestOverExample(t *testing.T) {
	b := impl.ClaimBook{
		Foes:   []impl.ClaimFoe{{A: "ale", B: "lye"}},
		Spots:  []impl.ClaimSpot{{Name: "j"}, {Name: "keg", Cap: 40}, {Name: "tun", Cap: 100, Least: 60, Most: 60, May: []string{"ale", "malt"}}},
		Valves: []string{"a", "b", "c", "d"},
	}
	grant := func(w impl.ClaimWant, asked int) {
		b = checkGrant(t, fmt.Sprintf("number %d", w.Number), b, w, asked)
	}
	move := func(number int, stuffs []string, uses []impl.ClaimUse, opens, shuts []string, asked int) {
		grant(impl.ClaimWant{Number: number, Kind: impl.ClaimMove, Stuffs: stuffs, Uses: uses, Opens: opens, Shuts: shuts}, asked)
	}
	both, lye := []string{"ale", "malt"}, []string{"lye"}
	uses := []impl.ClaimUse{{Name: "j", Role: 3}, {Name: "keg", Role: 2, Amount: 30}, {Name: "tun", Role: 1, Amount: 30}}
	move(1, []string{"ale"}, uses, []string{"a", "b"}, []string{"c"}, 8)
	move(2, both, uses, []string{"a", "b"}, []string{"c"}, 0)
	checkLevels(t, "2 is granted", b, 0, 0, 0, 30, 30, 60)
	checkValve(t, "2 is granted", b, "a", 2)
	checkValve(t, "2 is granted", b, "c", 0, 2)
	move(3, []string{"ale"}, []impl.ClaimUse{{Name: "keg", Role: 1, Amount: 5}}, []string{"d"}, nil, 6)
	grant(impl.ClaimWant{Number: 3, Kind: impl.ClaimPermit, Shuts: []string{"b"}}, 4)
	grant(impl.ClaimWant{Number: 4, Kind: impl.ClaimPermit, Shuts: []string{"c", "d"}}, 0)
	move(5, lye, nil, nil, []string{"a"}, 7)
	b = checkOver(t, "over 2 20", b, 2, 20, false, 12)
	b = checkStop(t, "stop 2", b, 2, 0)
	checkValve(t, "2 is stopped", b, "a", 0)
	b = checkOver(t, "over 2 20", b, 2, 20, false, 0)
	checkLevels(t, "2 is over", b, 0, 0, 20, 20, 40, 40)
	move(6, lye, []impl.ClaimUse{{Name: "keg", Role: 2, Amount: 5}}, []string{"d"}, nil, 7)
	move(7, both, []impl.ClaimUse{{Name: "keg", Role: 2, Amount: 21}}, []string{"a"}, nil, 10)
	move(8, lye, usesOfNames([]string{"j"}), []string{"b"}, nil, 8)
	b = checkStop(t, "stop 4", b, 4, 0)
	b = checkOver(t, "over 4 0", b, 4, 0, false, 0)
	grant(impl.ClaimWant{Number: 9, Kind: impl.ClaimClean, Uses: usesOfNames([]string{"j"}), Shuts: []string{"a", "b"}}, 0)
	b = checkStop(t, "stop 9", b, 9, 0)
	b = checkOver(t, "cleaned 9", b, 9, 0, true, 0)
	move(9, lye, usesOfNames([]string{"j"}), []string{"a"}, nil, 4)
	move(10, lye, usesOfNames([]string{"j"}), []string{"b"}, nil, 0)
	for i, may := range [][]string{lye, both, both} {
		if !slices.Equal(b.Spots[i].May, may) {
			t.Errorf("May of place %d is %v", i, b.Spots[i].May)
		}
	}
}
