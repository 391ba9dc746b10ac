package tests

import (
	"fmt"
	"math"
	"reflect"
	"slices"
	"strings"
	"testing"
	"unsafe"

	"loop.example/maltclaim/impl"
)

// wantCase is a want, and whether it is ok.
type wantCase struct {
	name string
	want impl.ClaimWant
	ok   bool
}

func checkWants(t *testing.T, cases []wantCase) {
	t.Helper()
	for _, c := range cases {
		if got := wantOk(t, c.want); got != c.ok {
			t.Errorf("%s: got %v, the document asks for %v: %+v", c.name, got, c.ok, c.want)
		}
	}
}

// bookCase is a book, and whether it is ok.
type bookCase struct {
	name string
	book impl.ClaimBook
	ok   bool
}

func checkBooks(t *testing.T, cases []bookCase) {
	t.Helper()
	for _, c := range cases {
		if got := bookOk(t, c.book); got != c.ok {
			t.Errorf("%s: got %v, the document asks for %v: %+v", c.name, got, c.ok, c.book)
		}
	}
}

// wantOk asks with spare room behind all lists, and tells of anything that was written.
func wantOk(t *testing.T, w impl.ClaimWant) bool {
	t.Helper()
	given, before := roomyWant(w), roomyWant(w)
	got := impl.ClaimWantOk(given)
	if !reflect.DeepEqual(wholeWant(given), wholeWant(before)) {
		t.Errorf("ClaimWantOk wrote into its argument: %+v", w)
	}
	if impl.ClaimWantOk(w) != got {
		t.Errorf("ClaimWantOk answers differently at the same want: %+v", w)
	}
	return got
}

// bookOk asks as wantOk does.
func bookOk(t *testing.T, b impl.ClaimBook) bool {
	t.Helper()
	given, before := roomyBook(b), roomyBook(b)
	got := impl.ClaimBookOk(given)
	if !reflect.DeepEqual(wholeBook(given), wholeBook(before)) {
		t.Errorf("ClaimBookOk wrote into its argument: %+v", b)
	}
	if impl.ClaimBookOk(b) != got {
		t.Errorf("ClaimBookOk answers differently at the same book: %+v", b)
	}
	return got
}

// grantOf asks ClaimGrant, and looks at all that is asked of every call: nothing is written into an argument, the answer
// is new memory, it is the same each time, and ClaimCode tells the same code.
func grantOf(t *testing.T, b impl.ClaimBook, w impl.ClaimWant) (impl.ClaimBook, int) {
	t.Helper()
	givenBook, givenWant := roomyBook(b), roomyWant(w)
	got, code := impl.ClaimGrant(givenBook, givenWant)
	if c := impl.ClaimCode(givenBook, givenWant); c != code {
		t.Errorf("ClaimCode %d, but ClaimGrant %d: %+v, %+v", c, code, b, w)
	}
	if !reflect.DeepEqual(wholeBook(givenBook), wholeBook(roomyBook(b))) || !reflect.DeepEqual(wholeWant(givenWant), wholeWant(roomyWant(w))) {
		t.Errorf("an argument was written into: %+v, %+v", b, w)
	}
	checkNewMemory(t, spansOfBook(got), append(spansOfBook(givenBook), spansOfWant(givenWant)...))
	again, c := impl.ClaimGrant(b, w)
	if c != code || !sameBook(again, got) {
		t.Errorf("another answer at the same arguments: %+v, %+v", b, w)
	}
	checkNewMemory(t, spansOfBook(again), append(spansOfBook(b), spansOfWant(w)...))
	return got, code
}

// stopOf asks ClaimStop as grantOf asks ClaimGrant.
func stopOf(t *testing.T, b impl.ClaimBook, number int) (impl.ClaimBook, int) {
	t.Helper()
	return changeOf(t, b, func(b impl.ClaimBook) (impl.ClaimBook, int) { return impl.ClaimStop(b, number) })
}

// overOf asks ClaimOver as grantOf asks ClaimGrant.
func overOf(t *testing.T, b impl.ClaimBook, number, moved int, done bool) (impl.ClaimBook, int) {
	t.Helper()
	return changeOf(t, b, func(b impl.ClaimBook) (impl.ClaimBook, int) { return impl.ClaimOver(b, number, moved, done) })
}

func changeOf(t *testing.T, b impl.ClaimBook, change func(b impl.ClaimBook) (impl.ClaimBook, int)) (impl.ClaimBook, int) {
	t.Helper()
	given := roomyBook(b)
	got, code := change(given)
	if !reflect.DeepEqual(wholeBook(given), wholeBook(roomyBook(b))) {
		t.Errorf("the book was written into: %+v", b)
	}
	checkNewMemory(t, spansOfBook(got), spansOfBook(given))
	again, c := change(b)
	if c != code || !sameBook(again, got) {
		t.Errorf("another answer at the same arguments: %+v", b)
	}
	checkNewMemory(t, spansOfBook(again), append(spansOfBook(b), spansOfBook(got)...))
	return got, code
}

// valveOf asks ClaimMay and ClaimShut.
func valveOf(t *testing.T, b impl.ClaimBook, valve string) (int, []int) {
	t.Helper()
	given := roomyBook(b)
	may, shut := impl.ClaimMay(given, valve), impl.ClaimShut(given, valve)
	if !reflect.DeepEqual(wholeBook(given), wholeBook(roomyBook(b))) {
		t.Errorf("the book was written into: %+v", b)
	}
	again := impl.ClaimShut(b, valve)
	if impl.ClaimMay(b, valve) != may || !slices.Equal(again, shut) {
		t.Errorf("another answer at the same arguments: %+v, %q", b, valve)
	}
	checkNewMemory(t, []span{spanOf(shut), spanOf(again)}, append(spansOfBook(given), spansOfBook(b)...))
	return may, shut
}

// span is the memory of a list, spare room included.
type span struct{ start, end uintptr }

func spanOf[T any](list []T) span {
	var one T
	start := uintptr(unsafe.Pointer(unsafe.SliceData(list)))
	return span{start, start + uintptr(cap(list))*unsafe.Sizeof(one)}
}

func spansOfWant(w impl.ClaimWant) []span {
	return []span{spanOf(w.Stuffs), spanOf(w.Uses), spanOf(w.Opens), spanOf(w.Shuts)}
}

// spansOfBook looks into the spare room too: what was left there must not be shared either.
func spansOfBook(b impl.ClaimBook) []span {
	all := []span{spanOf(b.Foes), spanOf(b.Spots), spanOf(b.Valves), spanOf(b.Parts)}
	for _, s := range whole(b.Spots) {
		all = append(all, spanOf(s.May))
	}
	for _, p := range whole(b.Parts) {
		all = append(all, spansOfWant(p.Want)...)
	}
	return all
}

func checkNewMemory(t *testing.T, answer, arguments []span) {
	t.Helper()
	for i, a := range answer {
		if slices.ContainsFunc(arguments, a.meets) {
			t.Errorf("list %d of the answer shares memory with an argument", i)
		}
		if slices.ContainsFunc(answer[i+1:], a.meets) {
			t.Errorf("list %d of the answer shares memory with another one", i)
		}
	}
}

func (a span) meets(b span) bool {
	return a.start < b.end && b.start < a.end
}

// sameBook takes the empty list and the nil list for the same.
func sameBook(a, b impl.ClaimBook) bool {
	return reflect.DeepEqual(tidyBook(a), tidyBook(b))
}

// tidyBook is a copy of its own, with nil for each empty list.
func tidyBook(b impl.ClaimBook) impl.ClaimBook {
	b.Foes, b.Valves = tidy(b.Foes), tidy(b.Valves)
	b.Spots, b.Parts = tidy(b.Spots), tidy(b.Parts)
	for i := range b.Spots {
		b.Spots[i].May = tidy(b.Spots[i].May)
	}
	for i := range b.Parts {
		w := &b.Parts[i].Want
		w.Stuffs, w.Uses, w.Opens, w.Shuts = tidy(w.Stuffs), tidy(w.Uses), tidy(w.Opens), tidy(w.Shuts)
	}
	return b
}

func tidy[T any](list []T) []T {
	return append([]T(nil), list...)
}

// roomy is a copy with three filled elements of spare room; nil stays nil.
func roomy[T any](list []T, fill T) []T {
	if list == nil {
		return nil
	}
	return append(slices.Clone(list), fill, fill, fill)[:len(list)]
}

func roomyWant(w impl.ClaimWant) impl.ClaimWant {
	w.Stuffs = roomy(w.Stuffs, "spare")
	w.Uses = roomy(w.Uses, impl.ClaimUse{Name: "spare", Role: 9, Amount: 9})
	w.Opens = roomy(w.Opens, "spare")
	w.Shuts = roomy(w.Shuts, "spare")
	return w
}

func roomyBook(b impl.ClaimBook) impl.ClaimBook {
	b.Foes = roomy(b.Foes, impl.ClaimFoe{A: "spare", B: "spare"})
	b.Valves = roomy(b.Valves, "spare")
	b.Spots = roomy(b.Spots, impl.ClaimSpot{Name: "spare"})
	for i := range b.Spots {
		b.Spots[i].May = roomy(b.Spots[i].May, "spare")
	}
	b.Parts = roomy(b.Parts, impl.ClaimPart{Stopped: true})
	for i := range b.Parts {
		b.Parts[i].Want = roomyWant(b.Parts[i].Want)
	}
	return b
}

// whole is a list with its spare room.
func whole[T any](list []T) []T {
	return list[:cap(list)]
}

func wholeWant(w impl.ClaimWant) []any {
	return []any{w, roomOf(w.Stuffs), roomOf(w.Uses), roomOf(w.Opens), roomOf(w.Shuts)}
}

func wholeBook(b impl.ClaimBook) []any {
	all := []any{b, roomOf(b.Foes), roomOf(b.Valves), roomOf(b.Spots), roomOf(b.Parts)}
	for _, s := range b.Spots {
		all = append(all, roomOf(s.May))
	}
	for _, p := range b.Parts {
		all = append(all, wholeWant(p.Want)...)
	}
	return all
}

// roomOf is at most the three elements behind the end, as the room behind them is not ours to know.
func roomOf[T any](list []T) []T {
	spare := whole(list)[len(list):]
	return spare[:min(3, len(spare))]
}

// manyNames is n names, ascending.
func manyNames(n int) []string {
	var list []string
	for i := range n {
		list = append(list, fmt.Sprintf("n%03d", i))
	}
	return list
}

// manyUses is n places with ClaimBy, ascending.
func manyUses(n int) []impl.ClaimUse {
	var list []impl.ClaimUse
	for _, name := range manyNames(n) {
		list = append(list, impl.ClaimUse{Name: name, Role: impl.ClaimBy})
	}
	return list
}

// badNames are texts that are no names.
func badNames() []string {
	list := []string{"", "nine-byte", strings.Repeat("a", 9), strings.Repeat("z", 5000),
		"A", "Z", "_", " ", "a b", "a\n", "a\x00", "\x00", "a,b", "a<1", "a>1", "a.b",
		"é", "aé", "ａ", "１", "٣", "–", "ı", "ſ", "\u212a", "\xff", "a\xff", "\xc3", "\xed\xa0\x80", "\ufffd", "😀",
		"aaaaaaaA", "Aaaaaaaa", "aaaAaaaa"}
	for c := range 256 {
		if s := string([]byte{byte(c)}); !strings.Contains("abcdefghijklmnopqrstuvwxyz0123456789-", s) {
			list = append(list, s, "a"+s, s+"a")
		}
	}
	return list
}

// goodNames are texts that are names.
func goodNames() []string {
	list := []string{"-", "--------", "12345678", "abcdefgh", "a-1", "0", "00", "-a"}
	for _, c := range "abcdefghijklmnopqrstuvwxyz0123456789-" {
		list = append(list, string(c), "a"+string(c), string(c)+"a")
	}
	return list
}

// oddNumbers are numbers around the limits, and far off them.
func oddNumbers() []int {
	return []int{math.MinInt, math.MinInt + 1, -1000001, -1000, -1, 0, 1, 2, 3, 4, 999, 1000, 1001, 999999, 1000000, 1000001, math.MaxInt - 1, math.MaxInt}
}

// disordered are lists that are not ascending.
func disordered() [][]string {
	return [][]string{{"b", "a"}, {"a", "a"}, {"ab", "a"}, {"a", "-"}, {"a", "0"}, {"0", "-"}, {"a", "c", "b"}, {"b", "a", "c"}, {"a", "b", "b"}, {"a", "b", "a"}, {"b9", "b10"}}
}

// ordered are lists that are ascending.
func ordered() [][]string {
	return [][]string{{"a"}, {"a", "b"}, {"a", "ab"}, {"a", "a-", "a0", "aa"}, {"-", "0", "a"}, {"a", "b", "c"}, {"b10", "b9"}, {"ab", "b"}}
}
