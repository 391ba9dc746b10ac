/- Joined: BkR. -/
import Derived.Test.YtfmhkicncgccjaaGreatFm41
/- What the program's ClaimBookOk answers: six looks in order. -/
namespace Go.Proofs.YtfmhkicncgccjaaGreat
open Go.RowKit Go.Sort
set_option linter.unusedSimpArgs false
set_option linter.unusedVariables false
set_option maxRecDepth 100000

/-- The program's look k at a book. -/
def lookB (x : Book) : Nat → Bool
 | 0 => foesOkB x.foes
 | 1 => decide ((x.spots.length : Int) ≤ 8) && allTo x.spots.length (fun k => spotAtI' x.foes (gp x.spots k)) && ascSB x.spots
 | 2 => namesB x.valves 12 && inB x.seen 0 1000000
 | 3 => decide ((x.parts.length : Int) ≤ 6) && allTo x.parts.length (fun k => partAtI x (gq x.parts k)) && ascPB x.parts
 | 4 => apartB x
 | _ => placesB x

theorem looks_same (x : Book) : allTo 6 (lookB x) = bookB x := by
 rw [← book_same]
 simp only [allTo, lookB, bookI, Bool.true_and]

theorem looks_parts {x : Book} {k : Nat} (hk : 4 ≤ k) (h : allTo k (lookB x) = true) : x.parts.length ≤ 6 ∧ (∀ k, k < x.parts.length → wantB (gq x.parts k).want = true ∧ knowsB x (gq x.parts k).want = true) := by
 have h3 := allTo_iff.1 h 3 (by omega)
 simp only [lookB, Bool.and_eq_true, decide_eq_true_eq] at h3
 refine ⟨by omega, fun i hi => ?_⟩
 have := allTo_iff.1 h3.1.2 i hi
 simp only [partAtI, Bool.and_eq_true] at this
 exact ⟨this.1.2, this.2⟩

theorem wantB_lens {y : Want} (h : wantB y = true) : y.uses.length ≤ 20 ∧ y.opens.length ≤ 20 ∧ y.shuts.length ≤ 20 := by
 unfold wantB at h
 simp only [Bool.and_eq_true] at h
 have h4 := namesB_len h.1.1.1.1.1.1.2
 have h5 := namesB_len h.1.1.1.1.1.2
 have h3 := h.1.1.1.1.1.1.1.2
 unfold usesS at h3
 simp only [Bool.and_eq_true, decide_eq_true_eq] at h3
 exact ⟨by omega, by omega, by omega⟩

theorem looks_least {x : Book} {k : Nat} (hk : 2 ≤ k) (h : allTo k (lookB x) = true) : LeastFit x := by
 have h0 := allTo_iff.1 h 0 (by omega)
 have h1 := allTo_iff.1 h 1 (by omega)
 simp only [lookB] at h0 h1
 apply leastFit_of
 rw [← spots_same h0]
 rw [Bool.and_assoc, Bool.and_eq_true] at h1
 exact h1.2

set_option maxHeartbeats 4000000 in
theorem implBookOk_any (x : Book) (af ap av aq : Option Addr) (cf cp cv cq : Nat) (w : World) (hx : BookIn w x af ap av aq) (fx : BookFit x) :
 Calls Tryz.prog 21 #[bookV x af ap av aq cf cp cv cq] w fun e w' => e = .returned (.bool (bookB x)) ∧ Below w.heap.size w w' := by
 rw [← looks_same]
 unfold bookV
 have b0 : Below w.heap.size w ((w.alloc (.cells #[.slice af x.foes.length cf, .slice ap x.spots.length cp, .slice av x.valves.length cv, .slice aq x.parts.length cq, .int .i64 x.seen] 28)).alloc (.cells #[.func (.func 52) #[] #[], .func (.func 53) #[] #[], .func (.func 54) #[] #[], .func (.func 55) #[] #[], .func (.func 56) #[] #[], .func (.func 57) #[] #[]] 51)) := ((Below.refl _ _).alloc (Nat.le_refl _) _).alloc (by simp) _
 have i0 : Row ((w.alloc (.cells #[.slice af x.foes.length cf, .slice ap x.spots.length cp, .slice av x.valves.length cv, .slice aq x.parts.length cq, .int .i64 x.seen] 28)).alloc (.cells #[.func (.func 52) #[] #[], .func (.func 53) #[] #[], .func (.func 54) #[] #[], .func (.func 55) #[] #[], .func (.func 56) #[] #[], .func (.func 57) #[] #[]] 51)) w.heap.size 28 (bookL x af ap av aq cf cp cv cq) := (Row.new w 28 (bookL x af ap av aq cf cp cv cq)).alloc _
 have o0 : Row ((w.alloc (.cells #[.slice af x.foes.length cf, .slice ap x.spots.length cp, .slice av x.valves.length cv, .slice aq x.parts.length cq, .int .i64 x.seen] 28)).alloc (.cells #[.func (.func 52) #[] #[], .func (.func 53) #[] #[], .func (.func 54) #[] #[], .func (.func 55) #[] #[], .func (.func 56) #[] #[], .func (.func 57) #[] #[]] 51)) (w.heap.size + 1) 51 [.func (.func 52) #[] #[], .func (.func 53) #[] #[], .func (.func 54) #[] #[], .func (.func 55) #[] #[], .func (.func 56) #[] #[], .func (.func 57) #[] #[]] := by
  have := Row.new (w.alloc (.cells #[.slice af x.foes.length cf, .slice ap x.spots.length cp, .slice av x.valves.length cv, .slice aq x.parts.length cq, .int .i64 x.seen] 28)) 51 [.func (.func 52) #[] #[], .func (.func 53) #[] #[], .func (.func 54) #[] #[], .func (.func 55) #[] #[], .func (.func 56) #[] #[], .func (.func 57) #[] #[]]
  simpa using this
 go_enter Tryz.func21, Tryz.ntmps21
 go_wp2
 go_loopw [5, 9] (fun _ i wr => ∃ (k : Nat), k ≤ 6 ∧ i = .int .i64 k ∧ allTo k (lookB x) = true ∧ Below ((w.alloc (.cells #[.slice af x.foes.length cf, .slice ap x.spots.length cp, .slice av x.valves.length cv, .slice aq x.parts.length cq, .int .i64 x.seen] 28)).alloc (.cells #[.func (.func 52) #[] #[], .func (.func 53) #[] #[], .func (.func 54) #[] #[], .func (.func 55) #[] #[], .func (.func 56) #[] #[], .func (.func 57) #[] #[]] 51)).heap.size ((w.alloc (.cells #[.slice af x.foes.length cf, .slice ap x.spots.length cp, .slice av x.valves.length cv, .slice aq x.parts.length cq, .int .i64 x.seen] 28)).alloc (.cells #[.func (.func 52) #[] #[], .func (.func 53) #[] #[], .func (.func 54) #[] #[], .func (.func 55) #[] #[], .func (.func 56) #[] #[], .func (.func 57) #[] #[]] 51)) wr) (fun _ i _ => 6 - (intOf i).toNat)
 case atStart => exact ⟨0, Nat.zero_le _, rfl, rfl, Below.refl _ _⟩
 case round wr =>
  obtain ⟨k, hk, rfl, hall, hbel⟩ := hrel
  have hbw := b0.trans (hbel.mono b0.size)
  have i1 := i0.later hbel
  have o1 := o0.later hbel
  have hxi := hx.later hbw
  clear i0 o0
  have y0 := i1.cell 0 rfl
  have y1 := i1.cell 1 rfl
  have y2 := i1.cell 2 rfl
  have y3 := i1.cell 3 rfl
  have y4 := i1.cell 4 rfl
  have hs0 := o1.lt
  match k, hk with
  | 0, hk =>
   have z := o1.cell 0 rfl
   go_wp2_with fail
   refine (foesOk_any x af ap av aq cf cp cv cq _ hxi.foes fx.foes).mono ?_
   rintro e w1 ⟨rfl, hb1⟩
   have hbel1 := hbel.trans (hb1.mono hbel.size)
   cases hq : lookB x 0 with
   | false =>
    have hq' := hq
    simp only [lookB] at hq'
    rw [hq']
    go_wp2
    go_ret
    exact ⟨ret_bool (allTo_false 0 (by omega) hq).symm, b0.trans (hbel1.mono b0.size)⟩
   | true =>
    have hq' := hq
    simp only [lookB] at hq'
    rw [hq']
    go_wp2
    go_roundw
    case rel => exact ⟨1, by omega, rfl, allTo_succ hall hq, hbel1⟩
    case measure => simp [intOf]
  | 1, hk =>
   have z := o1.cell 1 rfl
   go_wp2_with fail
   refine (spotsOk_any x af ap av aq cf cp cv cq _ hxi.foes fx.foes.len hxi.spots fx.spots).mono ?_
   rintro e w1 ⟨rfl, hb1⟩
   have hbel1 := hbel.trans (hb1.mono hbel.size)
   cases hq : lookB x 1 with
   | false =>
    have hq' := hq
    simp only [lookB] at hq'
    rw [hq']
    go_wp2
    go_ret
    exact ⟨ret_bool (allTo_false 1 (by omega) hq).symm, b0.trans (hbel1.mono b0.size)⟩
   | true =>
    have hq' := hq
    simp only [lookB] at hq'
    rw [hq']
    go_wp2
    go_roundw
    case rel => exact ⟨2, by omega, rfl, allTo_succ hall hq, hbel1⟩
    case measure => simp [intOf]
  | 2, hk =>
   have z := o1.cell 2 rfl
   go_wp2_with fail
   refine (valvesOk_any x af ap av aq cf cp cv cq _ hxi.valves fx.valves).mono ?_
   rintro e w1 ⟨rfl, hb1⟩
   have hbel1 := hbel.trans (hb1.mono hbel.size)
   cases hq : lookB x 2 with
   | false =>
    have hq' := hq
    simp only [lookB] at hq'
    rw [hq']
    go_wp2
    go_ret
    exact ⟨ret_bool (allTo_false 2 (by omega) hq).symm, b0.trans (hbel1.mono b0.size)⟩
   | true =>
    have hq' := hq
    simp only [lookB] at hq'
    rw [hq']
    go_wp2
    go_roundw
    case rel => exact ⟨3, by omega, rfl, allTo_succ hall hq, hbel1⟩
    case measure => simp [intOf]
  | 3, hk =>
   have z := o1.cell 3 rfl
   go_wp2_with fail
   refine (partsOk_any x af ap av aq cf cp cv cq _ hxi fx).mono ?_
   rintro e w1 ⟨rfl, hb1⟩
   have hbel1 := hbel.trans (hb1.mono hbel.size)
   cases hq : lookB x 3 with
   | false =>
    have hq' := hq
    simp only [lookB] at hq'
    rw [hq']
    go_wp2
    go_ret
    exact ⟨ret_bool (allTo_false 3 (by omega) hq).symm, b0.trans (hbel1.mono b0.size)⟩
   | true =>
    have hq' := hq
    simp only [lookB] at hq'
    rw [hq']
    go_wp2
    go_roundw
    case rel => exact ⟨4, by omega, rfl, allTo_succ hall hq, hbel1⟩
    case measure => simp [intOf]
  | 4, hk =>
   have z := o1.cell 4 rfl
   go_wp2_with fail
   refine (partsApart_any x af ap av aq cf cp cv cq _ hxi fx (looks_parts (by omega) hall).1 (fun k hk => wantB_lens ((looks_parts (by omega) hall).2 k hk).1)).mono ?_
   rintro e w1 ⟨rfl, hb1⟩
   have hbel1 := hbel.trans (hb1.mono hbel.size)
   rw [apart_same]
   cases hq : lookB x 4 with
   | false =>
    have hq' := hq
    simp only [lookB] at hq'
    rw [hq']
    go_wp2
    go_ret
    exact ⟨ret_bool (allTo_false 4 (by omega) hq).symm, b0.trans (hbel1.mono b0.size)⟩
   | true =>
    have hq' := hq
    simp only [lookB] at hq'
    rw [hq']
    go_wp2
    go_roundw
    case rel => exact ⟨5, by omega, rfl, allTo_succ hall hq, hbel1⟩
    case measure => simp [intOf]
  | 5, hk =>
   have z := o1.cell 5 rfl
   go_wp2_with fail
   refine (placesOk_any x af ap av aq cf cp cv cq _ hxi fx (looks_least (by omega) hall) (looks_parts (by omega) hall).2).mono ?_
   rintro e w1 ⟨rfl, hb1⟩
   have hbel1 := hbel.trans (hb1.mono hbel.size)
   cases hq : lookB x 5 with
   | false =>
    have hq' := hq
    simp only [lookB] at hq'
    rw [hq']
    go_wp2
    go_ret
    exact ⟨ret_bool (allTo_false 5 (by omega) hq).symm, b0.trans (hbel1.mono b0.size)⟩
   | true =>
    have hq' := hq
    simp only [lookB] at hq'
    rw [hq']
    go_wp2
    go_roundw
    case rel => exact ⟨6, by omega, rfl, allTo_succ hall hq, hbel1⟩
    case measure => simp [intOf]
  | 6, hk =>
   go_wp2
   go_ret
   exact ⟨ret_bool hall.symm, hbw⟩
  | k + 7, hk => omega

end Go.Proofs.YtfmhkicncgccjaaGreat

