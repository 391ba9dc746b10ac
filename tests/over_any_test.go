package tests

import (
	"math"
	"math/rand"
	"slices"
	"testing"

	"loop.example/maltclaim/impl"
)

// Stopping and being over are held against the document's sentences, written out anew here.

func plainStop(b impl.ClaimBook, number int) (impl.ClaimBook, int) {
	switch {
	case !plainBookOk(b):
		return impl.ClaimBook{}, 1
	case plainPart(b, number) < 0:
		return b, 3
	}
	b = tidyBook(b)
	b.Parts[plainPart(b, number)].Stopped = true
	return b, 0
}

// plainBound is the most that can be moved of what moves anything.
func plainBound(w impl.ClaimWant) int {
	bound := math.MaxInt
	for _, u := range w.Uses {
		if u.Role != 3 {
			bound = min(bound, u.Amount)
		}
	}
	return bound
}

func plainOver(b impl.ClaimBook, number, moved int, done bool) (impl.ClaimBook, int) {
	at := plainPart(b, number)
	switch {
	case !plainBookOk(b):
		return impl.ClaimBook{}, 1
	case at < 0:
		return b, 3
	case moved < 0 || moved > plainBound(b.Parts[at].Want):
		return b, 2
	case !b.Parts[at].Stopped:
		return b, 12
	}
	b = tidyBook(b)
	w := b.Parts[at].Want
	for _, u := range w.Uses {
		s := plainSpot(b, u.Name)
		switch {
		case u.Role == 1:
			s.Least, s.Most = s.Least+(u.Amount-moved), s.Most-moved
		case u.Role == 2:
			s.Least, s.Most = s.Least+moved, s.Most-(u.Amount-moved)
		case w.Kind == 2 && done:
			s.May = nil
		}
	}
	b.Parts = slices.Delete(b.Parts, at, at+1)
	return b, 0
}

func plainValve(b impl.ClaimBook, valve string) (int, []int) {
	may, shut := 0, []int(nil)
	if !plainBookOk(b) {
		return may, shut
	}
	for _, p := range b.Parts {
		if !p.Stopped && slices.Contains(p.Want.Opens, valve) {
			may = p.Want.Number
		}
		if slices.Contains(p.Want.Shuts, valve) {
			shut = append(shut, p.Want.Number)
		}
	}
	return may, shut
}

func checkAnyStop(t *testing.T, b impl.ClaimBook, number int) (impl.ClaimBook, int) {
	t.Helper()
	got, code := stopOf(t, b, number)
	asked, askedCode := plainStop(b, number)
	if code != askedCode || !sameBook(got, asked) {
		t.Errorf("stop: got %d and %+v, the document asks for %d and %+v, at %+v and %d", code, got, askedCode, asked, b, number)
	}
	return got, code
}

func checkAnyOver(t *testing.T, b impl.ClaimBook, number, moved int, done bool) (impl.ClaimBook, int) {
	t.Helper()
	got, code := overOf(t, b, number, moved, done)
	asked, askedCode := plainOver(b, number, moved, done)
	if code != askedCode || !sameBook(got, asked) {
		t.Errorf("over: got %d and %+v, the document asks for %d and %+v, at %+v, %d, %d and %v", code, got, askedCode, asked, b, number, moved, done)
	}
	return got, code
}

func checkAnyValve(t *testing.T, b impl.ClaimBook, valve string) (int, []int) {
	t.Helper()
	may, shut := valveOf(t, b, valve)
	askedMay, askedShut := plainValve(b, valve)
	if may != askedMay || !slices.Equal(shut, askedShut) {
		t.Errorf("valve %q: got %d and %v, the document asks for %d and %v, at %+v", valve, may, shut, askedMay, askedShut, b)
	}
	return may, shut
}

// anyBook is a book of which many are not ok, with parts that are Stopped by chance.
func (c chance) anyBook() impl.ClaimBook {
	if c.Intn(2) == 0 {
		return c.book()
	}
	b := c.nearBook()
	for i := range b.Parts {
		b.Parts[i].Stopped = c.Intn(2) == 0
	}
	return b
}

func TestOversOfAnyKind(t *testing.T) {
	c := chance{rand.New(rand.NewSource(6))}
	stops, overs, opened, kept := map[int]int{}, map[int]int{}, 0, 0
	for range 6000 {
		b := c.anyBook()
		number := c.number(8)
		if len(b.Parts) > 0 && c.Intn(4) > 0 {
			number = b.Parts[c.Intn(len(b.Parts))].Want.Number
		}
		_, code := checkAnyStop(t, b, number)
		stops[code]++
		_, code = checkAnyOver(t, b, number, c.number(35), c.Intn(2) == 0)
		overs[code]++
		may, shut := checkAnyValve(t, b, c.text())
		opened += btoi(may > 0)
		kept += btoi(len(shut) > 0)
	}
	for _, code := range []int{0, 1, 2, 3, 12} {
		if overs[code] < 50 || stops[code] < 100 && (code == 0 || code == 1 || code == 3) {
			t.Errorf("too few of code %d: %v, %v", code, stops, overs)
		}
	}
	if opened < 100 || kept < 100 {
		t.Errorf("too few valves: %d opened, %d kept shut", opened, kept)
	}
}

// life is a station's: its book, and what is really in its places as far as it is settled.
type life struct {
	book  impl.ClaimBook
	there map[string]int
	gone  []impl.ClaimWant
}

func newLife(b impl.ClaimBook) *life {
	l := &life{book: b, there: map[string]int{}}
	for _, s := range b.Spots {
		l.there[s.Name] = s.Least
	}
	return l
}

// step is one call by chance, told by its name and code.
func (l *life) step(t *testing.T, c chance) (string, int) {
	t.Helper()
	number := l.book.Seen + 1 - c.Intn(4)
	if n := len(l.book.Parts); n > 0 && c.Intn(8) > 0 {
		number = l.book.Parts[c.Intn(n)].Want.Number
	}
	code := 0
	switch c.Intn(7) {
	case 0, 1:
		l.book, code = checkAnyStop(t, l.book, number)
		return "stop", code
	case 2, 3:
		return "over", l.over(t, c, number)
	}
	w := c.claim(l.book)
	l.book, code = checkAnyGrant(t, l.book, w)
	if code >= 5 {
		l.gone = append(l.gone, w)
	}
	return "grant", code
}

func (l *life) over(t *testing.T, c chance, number int) int {
	t.Helper()
	at := plainPart(l.book, number)
	moved := c.Intn(5) - 1
	if at >= 0 && c.Intn(5) > 0 {
		moved = c.Intn(min(9, plainBound(l.book.Parts[at].Want)) + 1)
	}
	next, code := checkAnyOver(t, l.book, number, moved, c.Intn(2) == 0)
	if code == 0 {
		w := l.book.Parts[at].Want
		l.gone = append(l.gone, w)
		for _, u := range w.Uses {
			l.there[u.Name] += moved*btoi(u.Role == impl.ClaimTo) - moved*btoi(u.Role == impl.ClaimFrom)
		}
	}
	l.book = next
	return code
}

// checkBetween: promise 3, with anything up to Amount being moved in what is not over yet.
func (l *life) checkBetween(t *testing.T) {
	t.Helper()
	changes := map[string]int{}
	for _, p := range l.book.Parts {
		for _, u := range p.Want.Uses {
			changes[u.Name] = u.Amount * (btoi(u.Role == impl.ClaimTo) - btoi(u.Role == impl.ClaimFrom))
		}
	}
	for _, s := range l.book.Spots {
		for _, there := range []int{l.there[s.Name], l.there[s.Name] + changes[s.Name], l.there[s.Name] + changes[s.Name]/2} {
			if there < s.Least || there > s.Most || s.Most > s.Cap || s.Least < 0 {
				t.Fatalf("%d is in %+v, at %+v", there, s, l.book)
			}
		}
	}
}

// checkValves: promise 7.
func (l *life) checkValves(t *testing.T) {
	t.Helper()
	for _, v := range l.book.Valves {
		may, shut := checkAnyValve(t, l.book, v)
		if may == 0 {
			continue
		}
		if len(shut) > 0 {
			t.Fatalf("valve %s may be open under %d and is kept shut by %v", v, may, shut)
		}
		for _, p := range l.book.Parts {
			if slices.Contains(p.Want.Opens, v) && (p.Stopped || p.Want.Number != may) {
				t.Fatalf("valve %s may be open under %d, and %+v opens it", v, may, p)
			}
		}
	}
}

// Promises 1 to 4 and 7 along the lives of stations.
func TestLivesOfStations(t *testing.T) {
	c := chance{rand.New(rand.NewSource(7))}
	count := map[string]map[int]int{"grant": {}, "stop": {}, "over": {}}
	for range 50 {
		l := newLife(c.station())
		for range 100 {
			what, code := l.step(t, c)
			count[what][code]++
			if !plainBookOk(l.book) {
				t.Fatalf("the book is not ok: %+v", l.book)
			}
			l.checkBetween(t)
			l.checkValves(t)
			checkGone(t, l.book, l.gone)
		}
	}
	for what, codes := range map[string][]int{"grant": {0, 2, 4, 5, 6, 7, 8, 9, 10, 11}, "stop": {0, 3}, "over": {0, 2, 3, 12}} {
		for _, code := range codes {
			if count[what][code] < 20 {
				t.Errorf("too few of %s, code %d: %v", what, code, count)
			}
		}
	}
}

// Promise 5 at any want that a station grants, other parts being there or not.
func TestLivesWithNothingMoved(t *testing.T) {
	c := chance{rand.New(rand.NewSource(8))}
	count := 0
	for range 60 {
		l := newLife(c.station())
		for range 40 {
			l.step(t, c)
			w := c.claim(l.book)
			b, code := grantOf(t, l.book, w)
			if code != 0 || granted(l.book, w) {
				continue
			}
			count++
			b, _ = checkAnyStop(t, b, w.Number)
			b, _ = checkAnyOver(t, b, w.Number, 0, false)
			asked := tidyBook(l.book)
			asked.Seen = w.Number
			for i, s := range b.Spots {
				if !plainSubset(asked.Spots[i].May, s.May) {
					t.Errorf("May of %+v became less: %v", asked.Spots[i], s.May)
				}
				asked.Spots[i].May = s.May
			}
			if !sameBook(b, asked) {
				t.Errorf("with nothing moved %+v became %+v", asked, b)
			}
		}
	}
	if count < 500 {
		t.Errorf("only %d were granted", count)
	}
}
