/- Joined: CdT. -/
import Derived.Test.YtfmhkicncgccjaaGreatDoorPd14
import Derived.Test.YtfmhkicncgccjaaGreatDoorPd13
import Derived.Shelf.Abstract
import Derived.Shelf.RegionOpen
import Derived.OwnWalkIn
import Derived.TacticsInMore
import Derived.LoopNIn
import Derived.LoopIn
import Derived.Stop.RegionWithIn
/- What the iterator of looks hands on. -/
namespace Go.Proofs.YtfmhkicncgccjaaGreatDoor
open Go.RowKit Go.Sort
set_option linter.unusedSimpArgs false
set_option linter.unusedVariables false
attribute [local go_sem] Oper.semAt_some


theorem whyV_nil {b : Bool} {c : Int} (h : b = false) : whyV b c = .nilIface := by rw [h]; rfl
theorem look_1 (x : Book) (y : Want) : looksO x y = some (whyV (!bookB x) 1) ∨ (whyV (!bookB x) 1 = .nilIface ∧ bookB x = true) := by
  cases h : bookB x with
  | false => exact Or.inl (by unfold looksO; rw [h]; rfl)
  | true => exact Or.inr ⟨rfl, rfl⟩
theorem look_2 {x : Book} {y : Want} (hb : bookB x = true) : looksO x y = some (whyV (!(wantB y && knowsB x y)) 2) ∨ (whyV (!(wantB y && knowsB x y)) 2 = .nilIface ∧ wantB y = true ∧ knowsB x y = true) := by
  cases h : (wantB y && knowsB x y) with
  | false => exact Or.inl (by unfold looksO; rw [hb, h]; rfl)
  | true => rw [Bool.and_eq_true] at h; exact Or.inr ⟨rfl, h⟩
theorem looks_known {x : Book} {y : Want} (hb : bookB x = true) (hw : wantB y = true) (hk : knowsB x y = true) : looksO x y =
    if 0 ≤ partI x.parts y.number then some (if sameB (gq x.parts (partI x.parts y.number).toNat).want y then reasonV 0 else reasonV 3)
    else if y.number ≤ x.seen then some (reasonV 4)
    else if 6 ≤ x.parts.length then some (reasonV 5) else if usedB (countsTo x x.parts.length) y then some (reasonV 6) else if crossI (countsTo x x.parts.length) y then some (reasonV 7)
    else if pairsB x.foes y.stuffs then placeO x y else some (reasonV 8) := by
  unfold looksO; rw [hb, hw, hk]; rfl
theorem look_3 {x : Book} {y : Want} (hb : bookB x = true) (hw : wantB y = true) (hk : knowsB x y = true) : looksO x y = some (numW x y) ∨ (numW x y = .nilIface ∧ ¬ 0 ≤ partI x.parts y.number ∧ ¬ y.number ≤ x.seen) := by
  rw [looks_known hb hw hk]
  unfold numW
  by_cases h1 : 0 ≤ partI x.parts y.number
  · rw [if_pos h1, if_pos h1]; exact Or.inl rfl
  · rw [if_neg h1, if_neg h1]
    by_cases h2 : y.number ≤ x.seen
    · rw [if_pos h2, decide_eq_true h2]; exact Or.inl rfl
    · rw [decide_eq_false h2]; exact Or.inr ⟨rfl, h1, h2⟩
theorem look_4 {x : Book} {y : Want} (hb : bookB x = true) (hw : wantB y = true) (hk : knowsB x y = true) (h1 : ¬ 0 ≤ partI x.parts y.number) (h2 : ¬ y.number ≤ x.seen) : looksO x y = some (partsW x y) ∨ (partsW x y = .nilIface ∧ ¬ 6 ≤ x.parts.length ∧ usedB (countsTo x x.parts.length) y = false ∧ crossI (countsTo x x.parts.length) y = false) := by
  rw [looks_known hb hw hk, if_neg h1, if_neg h2]
  unfold partsW
  by_cases h3 : 6 ≤ x.parts.length
  · rw [if_pos h3, if_pos h3]; exact Or.inl rfl
  · rw [if_neg h3, if_neg h3]
    cases usedB (countsTo x x.parts.length) y with
    | true => exact Or.inl rfl
    | false =>
      cases crossI (countsTo x x.parts.length) y with
      | true => exact Or.inl rfl
      | false => exact Or.inr ⟨rfl, h3, rfl, rfl⟩
theorem look_5 {x : Book} {y : Want} (hb : bookB x = true) (hw : wantB y = true) (hk : knowsB x y = true) (h1 : ¬ 0 ≤ partI x.parts y.number) (h2 : ¬ y.number ≤ x.seen) (h3 : ¬ 6 ≤ x.parts.length) (h4 : usedB (countsTo x x.parts.length) y = false) (h5 : crossI (countsTo x x.parts.length) y = false) : looksO x y = some (whyV (!pairsB x.foes y.stuffs) 8) ∨ (whyV (!pairsB x.foes y.stuffs) 8 = .nilIface ∧ looksO x y = placeO x y) := by
  rw [looks_known hb hw hk, if_neg h1, if_neg h2, if_neg h3, h4, h5]
  cases pairsB x.foes y.stuffs with
  | true => exact Or.inr ⟨rfl, rfl⟩
  | false => exact Or.inl rfl
theorem book_six {x : Book} (h : bookB x = true) : x.parts.length ≤ 6 := by
  have h1 := (bookB_parts h).1
  unfold partsOkB at h1
  rw [Bool.and_eq_true] at h1
  have := of_decide_eq_true h1.1
  omega
theorem book_twenty {x : Book} (h : bookB x = true) : ∀ k, k < x.parts.length → (gq x.parts k).want.uses.length ≤ 20 ∧ (gq x.parts k).want.opens.length ≤ 20 ∧ (gq x.parts k).want.shuts.length ≤ 20 := by
  intro k hk
  have h1 := (bookB_parts h).1
  unfold partsOkB at h1
  rw [Bool.and_eq_true] at h1
  have h2 := partAt_ok (allTo_iff.1 h1.2 k hk)
  unfold partOkB at h2
  simp only [Bool.and_eq_true] at h2
  have hw := h2.1.1.1
  unfold wantB at hw
  simp only [Bool.and_eq_true] at hw
  have a1 := usesS_len hw.1.1.1.1.1.1.1.2
  have a2 := namesB_len hw.1.1.1.1.1.1.2
  have a3 := namesB_len hw.1.1.1.1.1.2
  omega

/-- The function of the look at place k. -/
def lookF : Nat → Nat
  | 0 => 106
  | 1 => 107
  | 2 => 108
  | 3 => 109
  | _ => 110
/-- What it finds. -/
def lookV (x : Book) (y : Want) : Nat → Value
  | 0 => whyV (!bookB x) 1
  | 1 => whyV (!(wantB y && knowsB x y)) 2
  | 2 => numW x y
  | 3 => partsW x y
  | _ => whyV (!pairsB x.foes y.stuffs) 8
/-- What the looks ahead of place k have told. -/
structure Told (x : Book) (y : Want) (k : Nat) : Prop where
  book : 1 ≤ k → bookB x = true
  want : 2 ≤ k → wantB y = true ∧ knowsB x y = true
  number : 3 ≤ k → ¬ 0 ≤ partI x.parts y.number ∧ ¬ y.number ≤ x.seen
  parts : 4 ≤ k → ¬ 6 ≤ x.parts.length ∧ usedB (countsTo x x.parts.length) y = false ∧ crossI (countsTo x x.parts.length) y = false
  stuffs : 5 ≤ k → looksO x y = placeO x y
theorem Told.zero (x : Book) (y : Want) : Told x y 0 := ⟨fun h => by omega, fun h => by omega, fun h => by omega, fun h => by omega, fun h => by omega⟩
theorem Told.next {x : Book} {y : Want} : ∀ {k : Nat}, k < 5 → Told x y k → looksO x y = some (lookV x y k) ∨ (lookV x y k = .nilIface ∧ Told x y (k + 1))
  | 0, _, h => (look_1 x y).imp id fun ⟨h1, h2⟩ => ⟨h1, fun _ => h2, fun h => by omega, fun h => by omega, fun h => by omega, fun h => by omega⟩
  | 1, _, h => (look_2 (h.book (by omega))).imp id fun ⟨h1, h2⟩ => ⟨h1, fun _ => h.book (by omega), fun _ => h2, fun h => by omega, fun h => by omega, fun h => by omega⟩
  | 2, _, h => (look_3 (h.book (by omega)) (h.want (by omega)).1 (h.want (by omega)).2).imp id fun ⟨h1, h2⟩ => ⟨h1, fun _ => h.book (by omega), fun _ => h.want (by omega), fun _ => h2, fun h => by omega, fun h => by omega⟩
  | 3, _, h => (look_4 (h.book (by omega)) (h.want (by omega)).1 (h.want (by omega)).2 (h.number (by omega)).1 (h.number (by omega)).2).imp id fun ⟨h1, h2⟩ => ⟨h1, fun _ => h.book (by omega), fun _ => h.want (by omega), fun _ => h.number (by omega), fun _ => h2, fun h => by omega⟩
  | 4, _, h => (look_5 (h.book (by omega)) (h.want (by omega)).1 (h.want (by omega)).2 (h.number (by omega)).1 (h.number (by omega)).2 (h.parts (by omega)).1 (h.parts (by omega)).2.1 (h.parts (by omega)).2.2).imp id fun ⟨h1, h2⟩ => ⟨h1, fun _ => h.book (by omega), fun _ => h.want (by omega), fun _ => h.number (by omega), fun _ => h.parts (by omega), fun _ => h2⟩
  | k + 5, hk, _ => by omega
theorem lookF_enters : ∀ (k : Nat), k < 5 → ∀ args w, (callFunc (lookF k) args).run Tryz.prog w = .ok (.enter (lookF k) args) w
  | 0, _ => enters_of Tryz.func106 (by kernel_rfl) rfl
  | 1, _ => enters_of Tryz.func107 (by kernel_rfl) rfl
  | 2, _ => enters_of Tryz.func108 (by kernel_rfl) rfl
  | 3, _ => enters_of Tryz.func109 (by kernel_rfl) rfl
  | 4, _ => enters_of Tryz.func110 (by kernel_rfl) rfl
  | k + 5, hk => by omega
theorem look_any (x : Book) (af ap av aq : Option Addr) (cf cp cv cq : Nat) (y : Want) (a2 a3 a4 a5 : Option Addr) (c2 c3 c4 c5 : Nat) (hcap : y.stuffs.length ≤ c2) (fx : BookFit x) (fy : WantFit y) : ∀ (k : Nat), k < 5 → Told x y k → ∀ (w : World), BookIn w x af ap av aq → WantIn w y a2 a3 a4 a5 →
    Calls Tryz.prog (lookF k) #[bookV x af ap av aq cf cp cv cq, wantW y a2 a3 a4 a5 c2 c3 c4 c5] w fun e w' => e = .returned (lookV x y k) ∧ Below w.heap.size w w'
  | 0, _, _, w, hx, hy => lookAtBook_any x af ap av aq cf cp cv cq y a2 a3 a4 a5 c2 c3 c4 c5 w hx fx
  | 1, _, _, w, hx, hy => lookAtWant_any x af ap av aq cf cp cv cq y a2 a3 a4 a5 c2 c3 c4 c5 w hx fx hy fy
  | 2, _, _, w, hx, hy => lookAtNumber_any x af ap av aq cf cp cv cq y a2 a3 a4 a5 c2 c3 c4 c5 w hx fx hy fy
  | 3, _, h, w, hx, hy => lookAtParts_any x af ap av aq cf cp cv cq y a2 a3 a4 a5 c2 c3 c4 c5 w hx fx hy fy (book_six (h.book (by omega))) (book_twenty (h.book (by omega)))
  | 4, _, _, w, hx, hy => lookAtStuffs_any x af ap av aq cf cp cv cq y a2 a3 a4 a5 c2 c3 c4 c5 w hx fx hy fy hcap
  | k + 5, hk, _, _, _, _ => by omega
/-- The five functions, as they lie in a list. -/
def lookL : List Value := [.func (.func 106) #[] #[], .func (.func 107) #[] #[], .func (.func 108) #[] #[], .func (.func 109) #[] #[], .func (.func 110) #[] #[]]
theorem lookL_at : ∀ (k : Nat), k < 5 → lookL[k]? = some (.func (.func (lookF k)) #[] #[])
  | 0, _ => rfl
  | 1, _ => rfl
  | 2, _ => rfl
  | 3, _ => rfl
  | 4, _ => rfl
  | k + 5, hk => by omega

set_option maxRecDepth 100000 in
set_option maxHeartbeats 8000000 in
theorem looks1_first (x : Book) (af ap av aq : Option Addr) (cf cp cv cq : Nat) (y : Want) (ad2 : Addr) (a3 a4 a5 : Option Addr) (c2 c3 c4 c5 : Nat) (bb bw : Nat) (w0 : World) (hbk : Row w0 bb 38 (bookL x af ap av aq cf cp cv cq)) (hwk : Row w0 bw 42 (wantL y (some ad2) a3 a4 a5 c2 c3 c4 c5))
    (hx : BookIn w0 x af ap av aq) (fx : BookFit x) (hy : WantIn w0 y (some ad2) a3 a4 a5) (fy : WantFit y) (hcap : y.stuffs.length ≤ c2) :
    FirstC Tryz.prog 105 #[.pointer (some ⟨bb, 0, none⟩), .pointer (some ⟨bw, 0, none⟩)] w0 (looksO x y) := by
  intro l Jx W hW hJx hnil hhit
  show CallsIn Fence.wide 0 Tryz.prog 105 #[.func (.yield l) #[] #[], .pointer (some ⟨bb, 0, none⟩), .pointer (some ⟨bw, 0, none⟩)] W _
  refine callsIn_of_wp_marks Tryz.func105 rfl trivial ?_
  simp only [Tryz.ntmps105, List.size_toArray, List.length_cons, List.length_nil, Nat.reduceAdd, Nat.reduceSub, Array.replicate_succ, Array.replicate_zero, List.push_toArray, List.append_toArray, List.nil_append, List.cons_append]
  refine wpIn_wide.2 ?_
  have i0 := hbk.later hW
  have o0 := hwk.later hW
  have hbl := i0.lt
  have hwl := o0.lt
  have hx0 := hx.later hW
  have hy0 := hy.later hW
  have bX : Below W.heap.size W ((W.alloc (.cells #[.func (.yield l) #[] #[]] 146)).alloc (.cells #[.func (.func 106) #[] #[], .func (.func 107) #[] #[], .func (.func 108) #[] #[], .func (.func 109) #[] #[], .func (.func 110) #[] #[]] 71)) := ((Below.refl _ _).alloc (Nat.le_refl _) _).alloc (by simp) _
  have rY : Row ((W.alloc (.cells #[.func (.yield l) #[] #[]] 146)).alloc (.cells #[.func (.func 106) #[] #[], .func (.func 107) #[] #[], .func (.func 108) #[] #[], .func (.func 109) #[] #[], .func (.func 110) #[] #[]] 71)) W.heap.size 146 [.func (.yield l) #[] #[]] := (Row.new W _ [.func (.yield l) #[] #[]]).alloc _
  have rF : Row ((W.alloc (.cells #[.func (.yield l) #[] #[]] 146)).alloc (.cells #[.func (.func 106) #[] #[], .func (.func 107) #[] #[], .func (.func 108) #[] #[], .func (.func 109) #[] #[], .func (.func 110) #[] #[]] 71)) (W.heap.size + 1) 71 [.func (.func 106) #[] #[], .func (.func 107) #[] #[], .func (.func 108) #[] #[], .func (.func 109) #[] #[], .func (.func 110) #[] #[]] := by
    have := Row.new (W.alloc (.cells #[.func (.yield l) #[] #[]] 146)) 71 [.func (.func 106) #[] #[], .func (.func 107) #[] #[], .func (.func 108) #[] #[], .func (.func 109) #[] #[], .func (.func 110) #[] #[]]
    simpa using this
  go_wp2
  generalize ((W.alloc (.cells #[.func (.yield l) #[] #[]] 146)).alloc (.cells #[.func (.func 106) #[] #[], .func (.func 107) #[] #[], .func (.func 108) #[] #[], .func (.func 109) #[] #[], .func (.func 110) #[] #[]] 71)) = X0 at bX rY rF ⊢
  have i1 := i0.later bX
  have o1 := o0.later bX
  clear i0 o0
  have hi0 := Nat.lt_of_lt_of_le rF.lt (Nat.le_refl _)
  go_loopw [5, 9] (fun _ i wv => ∃ (k : Nat) (X : World), X = wv ∧ k ≤ 5 ∧ i = .int .i64 k ∧ Told x y k ∧ Below X0.heap.size X0 X) (fun _ i _ => 5 - (intOf i).toNat)
  case atStart => exact ⟨0, _, rfl, Nat.zero_le _, rfl, Told.zero x y, Below.refl _ _⟩
  case round =>
    obtain ⟨k, X, rfl, hk, rfl, htold, hbel⟩ := hrel
    have bW := bX.trans (hbel.mono bX.size)
    have rY1 := rY.later hbel
    have rF1 := rF.later hbel
    have i2 := i1.later hbel
    have o2 := o1.later hbel
    by_cases hlt : k < 5
    · have q0 := rY1.cell 0 rfl
      have q1 := rF1.cell k (lookL_at k hlt)
      have y0 := i2.cell 0 rfl
      have y1 := i2.cell 1 rfl
      have y2 := i2.cell 2 rfl
      have y3 := i2.cell 3 rfl
      have y4 := i2.cell 4 rfl
      have z0 := o2.cell 0 rfl
      have z1 := o2.cell 1 rfl
      have z2 := o2.cell 2 rfl
      have z3 := o2.cell 3 rfl
      have z4 := o2.cell 4 rfl
      have z5 := o2.cell 5 rfl
      have hlt2 : (k : Int) < 5 := by omega
      have hk0 : (0 : Int) ≤ k := by omega
      have eg := lookF_enters k hlt
      have hc : ∀ W1, Below W.heap.size W W1 → Calls Tryz.prog (lookF k) #[.agg #[.slice af x.foes.length cf, .slice ap x.spots.length cp, .slice av x.valves.length cv, .slice aq x.parts.length cq, .int .i64 x.seen], .agg #[.int .i64 y.number, .int .i64 y.kind, .slice (some ad2) y.stuffs.length c2, .slice a3 y.uses.length c3, .slice a4 y.opens.length c4, .slice a5 y.shuts.length c5]] W1 fun e w' => e = .returned (lookV x y k) ∧ Below W1.heap.size W1 w' := fun W1 h1 =>
        look_any x af ap av aq cf cp cv cq y (some ad2) a3 a4 a5 c2 c3 c4 c5 hcap fx fy k hlt htold W1 (hx0.later h1) (hy0.later h1)
      have hnext := Told.next hlt htold
      generalize hvk : lookV x y k = vk at hc hnext
      generalize hfk : lookF k = fk at hc eg q1
      have HH : Hid (looksO x y = some vk ∨ (vk = .nilIface ∧ Told x y (k + 1))) := hnext
      clear hnext hvk hfk htold
      go_wp2
      rcases HH.out with hH | ⟨hv, htold⟩
      · have hY := hhit _ hH
        refine wp_cut Jx ?_
        apply Exists.intro
        refine ⟨?h, ?k⟩
        case h =>
          gi_region_with (first
            | (refine ⟨trivial, rfl, ?_⟩; refine (callsIn_wide.2 (hc _ (Below.drew bW))).mono ?_; rintro e w1 ⟨rfl, hb1⟩; have q0' : w1.cell? ⟨W.heap.size, 0, none⟩ = some (.func (.yield l) #[] #[]) := cell_later hb1 q0; obtain ⟨fn, tmps, assign, body, hy1, hR⟩ := hY _ ((Below.drew bW).trans (hb1.mono (Below.drew bW).size)))
            | (refine ⟨rfl, ?_⟩; refine hR.mono ?_; rintro e w3 ⟨rfl, hj, -⟩))
          all_goals exact ⟨rfl, hj⟩
        case k =>
          intro w' hj
          clear hc hY q0 q1 y0 y1 y2 y3 y4 z0 z1 z2 z3 z4 z5
          go_wp2
          exact ⟨_, results_none rfl _ _ _, ⟨_, rfl⟩, Or.inr ⟨by rw [hH]; simp, hj⟩⟩
      · subst hv
        have hY := hnil
        clear hnil hhit hJx HH hx0 hy0 hx hy fx fy hcap hW hbk hwk rY rF rY1 rF1 i1 o1 i2 o2
        refine wp_cut (fun w' => Below X.heap.size X w') ?_
        apply Exists.intro
        refine ⟨?h, ?k⟩
        case h =>
          gi_region_with (first
            | (refine ⟨trivial, rfl, ?_⟩; refine (callsIn_wide.2 (hc _ (Below.drew bW))).mono ?_; rintro e w1 ⟨rfl, hb1⟩; have q0' : w1.cell? ⟨W.heap.size, 0, none⟩ = some (.func (.yield l) #[] #[]) := cell_later hb1 q0; obtain ⟨fn, tmps, assign, body, hy1, hR⟩ := hY _ ((Below.drew bW).trans (hb1.mono (Below.drew bW).size)))
            | (refine ⟨rfl, ?_⟩; refine hR.mono ?_; rintro e w3 ⟨rfl, hj⟩))
          all_goals exact ⟨rfl, (below_of_drew hb1).trans (hj.mono hb1.size)⟩
        case k =>
          intro w' hbn
          clear hc hY q0 q1 y0 y1 y2 y3 y4 z0 z1 z2 z3 z4 z5
          go_wp2
          go_roundw
          case rel => exact ⟨k + 1, _, rfl, by omega, by go_num, htold, hbel.trans (hbn.mono hbel.size)⟩
          case measure => simp [intOf]; omega
    · have hkk : k = 5 := by omega
      subst hkk
      have hPl := htold.stuffs (by omega)
      have hbo := htold.book (by omega)
      have hwk' := htold.want (by omega)
      have q0 := rY1.cell 0 rfl
      have y0 := i2.cell 0 rfl
      have y1 := i2.cell 1 rfl
      have y2 := i2.cell 2 rfl
      have y3 := i2.cell 3 rfl
      have y4 := i2.cell 4 rfl
      have z0 := o2.cell 0 rfl
      have z1 := o2.cell 1 rfl
      have z2 := o2.cell 2 rfl
      have z3 := o2.cell 3 rfl
      have z4 := o2.cell 4 rfl
      have z5 := o2.cell 5 rfl
      go_wp2_with fail
      refine (placeLooks_any x af ap av aq cf cp cv cq y (some ad2) a3 a4 a5 c2 c3 c4 c5 _).mono ?_
      rintro e wP ⟨rfl, rfl⟩
      clear q0 y0 y1 y2 y3 y4 z0 z1 z2 z3 z4 z5
      have bP : Below X.heap.size X ((X.alloc (.cells (bookL x af ap av aq cf cp cv cq).toArray 38)).alloc (.cells (wantL y (some ad2) a3 a4 a5 c2 c3 c4 c5).toArray 42)) := ((Below.refl _ _).alloc (Nat.le_refl _) _).alloc (by simp) _
      have iP : Row ((X.alloc (.cells (bookL x af ap av aq cf cp cv cq).toArray 38)).alloc (.cells (wantL y (some ad2) a3 a4 a5 c2 c3 c4 c5).toArray 42)) X.heap.size 38 (bookL x af ap av aq cf cp cv cq) := (Row.new X _ _).alloc _
      have oP : Row ((X.alloc (.cells (bookL x af ap av aq cf cp cv cq).toArray 38)).alloc (.cells (wantL y (some ad2) a3 a4 a5 c2 c3 c4 c5).toArray 42)) (X.heap.size + 1) 42 (wantL y (some ad2) a3 a4 a5 c2 c3 c4 c5) := by
        have := Row.new (X.alloc (.cells (bookL x af ap av aq cf cp cv cq).toArray 38)) 42 (wantL y (some ad2) a3 a4 a5 c2 c3 c4 c5)
        simpa using this
      generalize (X.alloc (.cells (bookL x af ap av aq cf cp cv cq).toArray 38)).alloc (.cells (wantL y (some ad2) a3 a4 a5 c2 c3 c4 c5).toArray 42) = wP at bP iP oP ⊢
      have bQ := bW.trans (bP.mono bW.size)
      have rYP := rY1.later bP
      have hsq := placeLooks1_first x af ap av aq cf cp cv cq y ad2 a3 a4 a5 c2 c3 c4 c5 X.heap.size (X.heap.size + 1) wP iP oP (hx0.later bQ) fx (hy0.later bQ) fy hbo hwk'.1 hwk'.2
      go_wp2
      refine (wpIn_wide (n := 0)).1 (wpIn_rangeFirst (gf := 134) (lb := #[.pointer (some ⟨X.heap.size + 1, 0, none⟩), .pointer (some ⟨X.heap.size, 0, none⟩)]) (H := placeO x y) rfl (enters_of Tryz.func134 (by kernel_rfl) rfl) hsq (Below.refl _ _) rfl Jx (fun A A' hj hbA => hJx A A' hj (hbA.mono bQ.size))
        (fun v => { tmps := #[.func (.yield l) #[] #[], .pointer (some ⟨bb, 0, none⟩), .pointer (some ⟨bw, 0, none⟩), .pointer (some ⟨W.heap.size, 0, none⟩), undef, u5, v, .slice (some ⟨W.heap.size + 1, 0, none⟩) 5 5, .int .i64 5, .int .i64 5, .bool false, u11, u12, u13, u14, u15, u16, u17, u18, u19, u20, .agg #[.slice af x.foes.length cf, .slice ap x.spots.length cp, .slice av x.valves.length cv, .slice aq x.parts.length cq, .int .i64 x.seen], .agg #[.int .i64 y.number, .int .i64 y.kind, .slice (some ad2) y.stuffs.length c2, .slice a3 y.uses.length c3, .slice a4 y.opens.length c4, .slice a5 y.shuts.length c5], .func (.func 134) #[] #[.pointer (some ⟨X.heap.size + 1, 0, none⟩), .pointer (some ⟨X.heap.size, 0, none⟩)], v, undef, undef, undef, undef], defers := [] }) ?assign ?nil ?hit ?done ?stop)
      case assign =>
        intro l2 v W' K hK
        gi_wp2
        exact hK
      case nil =>
        intro l2 W' hb2
        have q0 := (rYP.later hb2).cell 0 rfl
        obtain ⟨fn, tmps, assign, body, hy1, hR⟩ := hnil W' (bQ.trans (hb2.mono bQ.size))
        gi_wp2
        refine ⟨rfl, ?_⟩
        refine RoundIn.mono (F := Fence.wide) hR ?_
        rintro e w3 ⟨rfl, hj⟩
        gi_wp2
      case hit =>
        intro v hv l2 W' hb2
        have q0 := (rYP.later hb2).cell 0 rfl
        obtain ⟨fn, tmps, assign, body, hy1, hR⟩ := hhit v (hPl.trans hv) W' (bQ.trans (hb2.mono bQ.size))
        gi_wp2
        refine ⟨rfl, ?_⟩
        refine RoundIn.mono (F := Fence.wide) hR ?_
        rintro e w3 ⟨rfl, hj, hkp⟩
        gi_wp2
        exact ⟨hkp.mono bQ.size, hj⟩
      case done =>
        intro hn D W' hD hb2 hK
        gi_wp2
        refine ⟨by simp, .inl ⟨_, _, rfl, run_takeDeferred hK, ?_⟩⟩
        exact ⟨_, results_none rfl _ _ _, ⟨_, rfl⟩, Or.inl ⟨hPl.trans hn, (bQ.trans (hb2.mono bQ.size)).trans (below_put _ _ _ _ (Nat.le_trans bQ.size hD))⟩⟩
      case stop =>
        intro hn D W' hD hj hK
        gi_wp2
        refine ⟨by simp, .inl ⟨_, _, rfl, run_takeDeferred hK, ?_⟩⟩
        exact ⟨_, results_none rfl _ _ _, ⟨_, rfl⟩, Or.inr ⟨by rw [hPl]; exact hn, hJx _ _ hj (below_put _ _ _ _ (Nat.le_trans bQ.size hD))⟩⟩

end Go.Proofs.YtfmhkicncgccjaaGreatDoor
