/- Joined: StA, UpA, UpB, UpC, OrdE. -/
import Derived.Test.YtfmhkicncgccjaaGreatDoorPe03
import Derived.Test.YtfmhkicncgccjaaGreatDoorPd06
import Derived.Test.YtfmhkicncgccjaaGreatDoorPe01
import Derived.Test.YtfmhkicncgccjaaGreatDoorProg
import Derived.Deep.RegionHeld3
/- Plain: the book behind ClaimStop; a part of an owned book is stopped. -/
namespace Go.Proofs.YtfmhkicncgccjaaGreatDoor
open Go.RowKit Go.Sort
set_option linter.unusedSimpArgs false
set_option linter.unusedVariables false

def bookNil : Book := ⟨[], [], [], [], 0⟩
def stopAt (ps : List Part) (k : Nat) : List Part := ps.set k ⟨(gq ps k).want, true⟩
theorem stopAt_length (ps : List Part) (k : Nat) : (stopAt ps k).length = ps.length := by simp [stopAt]
theorem gq_stopAt {ps : List Part} {k : Nat} (hk : k < ps.length) (j : Nat) : gq (stopAt ps k) j = if j = k then ⟨(gq ps k).want, true⟩ else gq ps j := by
  by_cases e : j = k
  · subst e
    rw [if_pos rfl, gq_lt (by rw [stopAt_length]; exact hk)]
    simp [stopAt]
  · rw [if_neg e]
    unfold stopAt
    conv => lhs; unfold gq
    conv => rhs; unfold gq
    rw [List.getD_eq_getElem?_getD, List.getElem?_set, if_neg (fun h => e h.symm), List.getD_eq_getElem?_getD]
theorem stopAt_want {ps : List Part} {k : Nat} (hk : k < ps.length) (j : Nat) : (gq (stopAt ps k) j).want = (gq ps j).want := by
  rw [gq_stopAt hk]
  split
  · next e => rw [e]
  · rfl
theorem pL_want {p q : Part} (h : p.want = q.want) (c : Nat) : pL p c = pL q c := by
  unfold pL
  rw [h]
theorem pF_want {p q : Part} (h : p.want = q.want) (c : Nat) : pF p c = pF q c := by
  unfold pF
  rw [h]
/-- The book behind ClaimStop, and its code. -/
def stopB (x : Book) (n : Int) : Book :=
  if bookB x then (if 0 ≤ partI x.parts n then ⟨x.foes, x.spots, x.valves, stopAt x.parts (partI x.parts n).toNat, x.seen⟩ else x) else bookNil
def stopC (x : Book) (n : Int) : Int :=
  if bookB x then (if 0 ≤ partI x.parts n then 0 else 3) else 1

/-- A part is stopped, where the parts own their memory. -/
theorem OwnParts.stop {w : World} {b : Nat} {ps : List Part} {A : Nat → Nat → Option Addr} {C : Nat → Nat → Nat} (h : OwnParts w (some ⟨b, 0, none⟩) ps A C) {k : Nat} (hk : k < ps.length) :
    OwnParts (w.setCell ⟨b, k * 7 + 6, none⟩ (.bool true)) (some ⟨b, 0, none⟩) (stopAt ps k) A C := by
  have on := Only.cell w ⟨b, k * 7 + 6, none⟩ (.bool true)
  have e1 : ∀ j c, pL (gq (stopAt ps k) j) c = pL (gq ps j) c := fun j c => pL_want (stopAt_want hk j) c
  have e2 : ∀ j c, pF (gq (stopAt ps k) j) c = pF (gq ps j) c := fun j c => pF_want (stopAt_want hk j) c
  refine ⟨?_, fun j hj c hc => ?_, fun j hj c hc y hy => ?_, fun i c j d hi hc hj hd hij y hy => ?_⟩
  · rw [stopAt_length]
    refine (h.row.setAt hk (by omega : 6 < 7) (.bool true)).congr fun k' hk' j' hj' => ?_
    rw [gq_stopAt hk]
    by_cases e : k' = k
    · subst e
      simp only [if_true, true_and]
      match j', hj' with
      | 0, _ => rfl
      | 1, _ => rfl
      | 2, _ => rfl
      | 3, _ => rfl
      | 4, _ => rfl
      | 5, _ => rfl
      | 6, _ => rfl
    · simp only [e, false_and, if_false]
  · rw [stopAt_length] at hj
    rw [e1, e2]
    exact (h.list j hj c hc).only on (fun y hy e => h.apart j hj c hc y hy ⟨by omega, 0, by have e' : y = b := e; rw [e']⟩)
  · rw [stopAt_length] at hj ⊢
    rw [e1] at hy
    exact h.apart j hj c hc y hy
  · rw [stopAt_length] at hi hj
    rw [e1] at hy ⊢
    exact h.each i c j d hi hc hj hd hij y hy
theorem inPt_stop {a : Option Addr} {ps : List Part} {A : Nat → Nat → Option Addr} {k : Nat} (hk : k < ps.length) {y : Nat} : InPt a (stopAt ps k) A y ↔ InPt a ps A y := by
  unfold InPt
  rw [stopAt_length]
  constructor
  · rintro (h | ⟨j, hj, c, hc, h⟩)
    · exact Or.inl h
    · exact Or.inr ⟨j, hj, c, hc, by rw [pL_want (stopAt_want hk j)] at h; exact h⟩
  · rintro (h | ⟨j, hj, c, hc, h⟩)
    · exact Or.inl h
    · exact Or.inr ⟨j, hj, c, hc, by rw [pL_want (stopAt_want hk j)]; exact h⟩
theorem OwnBook.stop {w : World} {x : Book} {af ap av : Option Addr} {b : Nat} {A1 : Nat → Option Addr} {C1 : Nat → Nat} {A2 : Nat → Nat → Option Addr} {C2 : Nat → Nat → Nat} (h : OwnBook w x af ap av (some ⟨b, 0, none⟩) A1 C1 A2 C2) {k : Nat} (hk : k < x.parts.length) :
    OwnBook (w.setCell ⟨b, k * 7 + 6, none⟩ (.bool true)) ⟨x.foes, x.spots, x.valves, stopAt x.parts k, x.seen⟩ af ap av (some ⟨b, 0, none⟩) A1 C1 A2 C2 := by
  have on := Only.cell w ⟨b, k * 7 + 6, none⟩ (.bool true)
  have hb : InPt (some ⟨b, 0, none⟩) x.parts A2 b := Or.inl ⟨by omega, 0, rfl⟩
  refine ⟨h.foes.only on (fun y hy e => h.d03 y hy (by have e' : y = b := e; rw [e']; exact hb)), h.spots.only on (fun y hy e => h.d13 y hy (by have e' : y = b := e; rw [e']; exact hb)), h.valves.only on (fun y hy e => h.d23 y hy (by have e' : y = b := e; rw [e']; exact hb)), h.parts.stop hk, h.d01, h.d02, fun y hy hy' => h.d03 y hy ((inPt_stop hk).1 hy'), h.d12, fun y hy hy' => h.d13 y hy ((inPt_stop hk).1 hy'), fun y hy hy' => h.d23 y hy ((inPt_stop hk).1 hy')⟩
theorem ownBook_nil (w : World) : OwnBook w bookNil none none none none (fun _ => none) (fun _ => 0) (fun _ _ => none) (fun _ _ => 0) := by
  have e : ∀ y n, ¬ InSlot none n y := fun y n ⟨_, o, h⟩ => by cases h
  have s : ∀ y, ¬ InSp none bookNil.spots (fun _ => none) y := fun y h => h.elim (e y _) (fun ⟨k, _, h⟩ => e y _ h)
  have p : ∀ y, ¬ InPt none bookNil.parts (fun _ _ => none) y := fun y h => h.elim (e y _) (fun ⟨k, _, c, _, h⟩ => e y _ h)
  exact ⟨Or.inl rfl, ⟨Or.inl rfl, fun k hk => absurd hk (Nat.not_lt_zero _), fun k hk => absurd hk (Nat.not_lt_zero _), fun k hk => absurd hk (Nat.not_lt_zero _), fun i j hi => absurd hi (Nat.not_lt_zero _)⟩, Or.inl rfl, ⟨Or.inl rfl, fun k hk => absurd hk (Nat.not_lt_zero _), fun k hk => absurd hk (Nat.not_lt_zero _), fun i c j d hi => absurd hi (Nat.not_lt_zero _)⟩,
    fun y hy => absurd hy (e y _), fun y hy => absurd hy (e y _), fun y hy => absurd hy (e y _), fun y hy => absurd hy (s y), fun y hy => absurd hy (s y), fun y hy => absurd hy (e y _)⟩
theorem inBk_nil {y : Nat} : ¬ InBk bookNil none none none none (fun _ => none) (fun _ _ => none) y := by
  have e : ∀ y n, ¬ InSlot none n y := fun y n ⟨_, o, h⟩ => by cases h
  rintro (h | h | h | h)
  · exact e y _ h
  · exact h.elim (e y _) (fun ⟨k, _, h⟩ => e y _ h)
  · exact e y _ h
  · exact h.elim (e y _) (fun ⟨k, _, c, _, h⟩ => e y _ h)

/-- A call that answers a book and a code: the book owns its memory, which lies from B on. -/
def Gives (B : Nat) (y : Book) (code : Int) (e : Ending) (w' : World) : Prop :=
  ∃ (f0 f1 f2 f3 : Option Addr) (k0 k1 k2 k3 : Nat) (A1 : Nat → Option Addr) (C1 : Nat → Nat) (A2 : Nat → Nat → Option Addr) (C2 : Nat → Nat → Nat), e = .returned (.tuple #[bookV y f0 f1 f2 f3 k0 k1 k2 k3, .int .i64 code]) ∧ OwnBook w' y f0 f1 f2 f3 A1 C1 A2 C2 ∧ ∀ q, InBk y f0 f1 f2 f3 A1 A2 q → B ≤ q

end Go.Proofs.YtfmhkicncgccjaaGreatDoor

/- Plain: places changed use by use; the book behind ClaimOver. -/
namespace Go.Proofs.YtfmhkicncgccjaaGreatDoor
open Go.RowKit Go.Sort
set_option linter.unusedSimpArgs false
set_option linter.unusedVariables false

/-- Places changed, use by use. -/
def upTo (f : Spot → Use → Spot) (ss : List Spot) (us : List Use) : Nat → List Spot
  | 0 => ss
  | k + 1 => (upTo f ss us k).set (spotI ss (gu us k).name).toNat (f (gp (upTo f ss us k) (spotI ss (gu us k).name).toNat) (gu us k))
theorem upTo_length (f : Spot → Use → Spot) (ss : List Spot) (us : List Use) : ∀ k, (upTo f ss us k).length = ss.length
  | 0 => rfl
  | k + 1 => by unfold upTo; rw [List.length_set]; exact upTo_length f ss us k
theorem gp_set {ss : List Spot} {k : Nat} (hk : k < ss.length) (s : Spot) (j : Nat) : gp (ss.set k s) j = if j = k then s else gp ss j := by
  unfold gp
  rw [List.getD_eq_getElem?_getD, List.getD_eq_getElem?_getD, List.getElem?_set]
  by_cases e : j = k
  · subst e
    rw [if_pos rfl, if_pos rfl, if_pos hk]
    rfl
  · rw [if_neg (fun h => e h.symm), if_neg e]
theorem set_ge {ss : List Spot} {k : Nat} (hk : ss.length ≤ k) (s : Spot) : ss.set k s = ss := List.set_eq_of_length_le hk
/-- What holds of each spot and is kept by each change holds of all. -/
theorem upTo_all {f : Spot → Use → Spot} {ss : List Spot} {us : List Use} {R : Nat → Nat → Spot → Prop} (h0 : ∀ j, j < ss.length → R 0 j (gp ss j)) (h1 : ∀ k j s, k < us.length → R k j s → R (k + 1) j s) (h2 : ∀ k j s, k < us.length → R k j s → R (k + 1) j (f s (gu us k))) :
    ∀ k, k ≤ us.length → ∀ j, j < ss.length → R k j (gp (upTo f ss us k) j)
  | 0, _ => h0
  | k + 1, hk => fun j hj => by
    have ih := upTo_all h0 h1 h2 k (by omega)
    unfold upTo
    by_cases hlt : (spotI ss (gu us k).name).toNat < ss.length
    · rw [gp_set (by rw [upTo_length]; exact hlt)]
      split
      · next e =>
        subst e
        exact h2 k _ _ (by omega) (ih _ hlt)
      · exact h1 k _ _ (by omega) (ih j hj)
    · rw [set_ge (by rw [upTo_length]; omega)]
      exact h1 k _ _ (by omega) (ih j hj)
theorem spotFrom_names {ps qs : List Spot} {s : ByteArray} : ∀ (n k : Nat), (∀ i, k ≤ i → i < k + n → (gp ps i).name = (gp qs i).name) → spotFrom ps s k n = spotFrom qs s k n
  | 0, _, _ => rfl
  | n + 1, k, h => by
    unfold spotFrom
    rw [h k (Nat.le_refl _) (by omega), spotFrom_names n (k + 1) (fun i a b => h i (by omega) (by omega))]
theorem upTo_spotI {f : Spot → Use → Spot} (hf : ∀ s u, (f s u).name = s.name) (ss : List Spot) (us : List Use) {k : Nat} (hk : k ≤ us.length) (s : ByteArray) : spotI (upTo f ss us k) s = spotI ss s := by
  unfold spotI
  rw [upTo_length]
  exact spotFrom_names _ 0 (fun i _ hi => upTo_all (R := fun _ j t => t.name = (gp ss j).name) (fun j _ => rfl) (fun _ _ _ _ h => h) (fun _ _ _ _ h => (hf _ _).trans h) k hk i (by omega))

/-- A place, settled. -/
def settleS (kind moved : Int) (done : Bool) (s : Spot) (u : Use) : Spot :=
  ⟨s.name, s.cap, if u.role = 1 then s.least + u.amount - moved else if u.role = 2 then s.least + moved else s.least,
    if u.role = 1 then s.most - moved else if u.role = 2 then s.most - u.amount + moved else s.most, if kind = 2 ∧ done = true then [] else s.may⟩
/-- So much can have been moved. -/
def movedB (y : Want) (moved : Int) : Bool := decide (0 ≤ moved) && allTo y.uses.length (fun i => (gu y.uses i).role == 3 || decide (moved ≤ (gu y.uses i).amount))
def overAt (x : Book) (j : Nat) (moved : Int) (done : Bool) : Book :=
  ⟨x.foes, upTo (settleS (gq x.parts j).want.kind moved done) x.spots (gq x.parts j).want.uses (gq x.parts j).want.uses.length, x.valves, x.parts.eraseIdx j, x.seen⟩
/-- Levels of which sums can be made. -/
def Lv (K : Int) (s : Spot) : Prop := -K ≤ s.least ∧ s.least ≤ K ∧ -K ≤ s.most ∧ s.most ≤ K
theorem settle_lv {K : Int} {kind moved : Int} {done : Bool} {s : Spot} {u : Use} (h : Lv K s) (h0 : 0 ≤ moved) (hu : u.role = 3 ∨ moved ≤ u.amount) (h1 : u.amount ≤ 1000) : Lv (K + 1000) (settleS kind moved done s u) := by
  unfold Lv settleS at *
  dsimp only
  by_cases e1 : u.role = 1
  · simp only [e1, if_true]
    rcases hu with hu | hu
    · omega
    · omega
  · by_cases e2 : u.role = 2
    · simp only [e2, if_true, if_neg (by omega : ¬ ((2 : Int) = 1))]
      rcases hu with hu | hu
      · omega
      · omega
    · simp only [e1, e2, if_false]
      omega
theorem movedB_at {y : Want} {moved : Int} (h : movedB y moved = true) {i : Nat} (hi : i < y.uses.length) : (gu y.uses i).role = 3 ∨ moved ≤ (gu y.uses i).amount := by
  unfold movedB at h
  rw [Bool.and_eq_true] at h
  have := allTo_iff.1 h.2 i hi
  simpa using this
theorem movedB_pos {y : Want} {moved : Int} (h : movedB y moved = true) : 0 ≤ moved := by
  unfold movedB at h
  rw [Bool.and_eq_true] at h
  simpa using h.1
theorem gq_erase {ps : List Part} {j : Nat} (i : Nat) : gq (ps.eraseIdx j) i = if i < j then gq ps i else gq ps (i + 1) := by
  unfold gq
  rw [List.getD_eq_getElem?_getD, List.getElem?_eraseIdx]
  split <;> rw [List.getD_eq_getElem?_getD]
theorem erase_length {ps : List Part} {j : Nat} (hj : j < ps.length) : (ps.eraseIdx j).length = ps.length - 1 := List.length_eraseIdx_of_lt hj
/-- The code of ClaimOver, and the book behind it. -/
def overC (x : Book) (n moved : Int) : Int :=
  if bookB x then (if 0 ≤ partI x.parts n then (if movedB (gq x.parts (partI x.parts n).toNat).want moved then (if (gq x.parts (partI x.parts n).toNat).stopped then 0 else 12) else 2) else 3) else 1
def overB (x : Book) (n moved : Int) (done : Bool) : Book :=
  if bookB x then (if overC x n moved = 0 then overAt x (partI x.parts n).toNat moved done else x) else bookNil

end Go.Proofs.YtfmhkicncgccjaaGreatDoor

/- A spot of an owned book is changed in place. -/
namespace Go.Proofs.YtfmhkicncgccjaaGreatDoor
open Go.RowKit Go.Sort
set_option linter.unusedSimpArgs false
set_option linter.unusedVariables false

/-- The spot at k is written anew, its list lies at a'. -/
theorem OwnSpots.put {w w' : World} {b : Nat} {ps : List Spot} {A : Nat → Option Addr} {C : Nat → Nat} (h : OwnSpots w (some ⟨b, 0, none⟩) ps A C) {k : Nat} (hk : k < ps.length) {s : Spot} {a' : Option Addr} {c' : Nat}
    (hrow : OwnL w' 99 5 (some ⟨b, 0, none⟩) ps.length (fun j => if j = k then spotCell s a' c' else spotCell (gp ps j) (A j) (C j))) (hon : Only (fun y => y = b) w w')
    (hl : OwnL w' 9 1 a' s.may.length (strF s.may)) (hc : s.may.length ≤ c') (hb : ∀ y, InSlot a' s.may.length y → y ≠ b)
    (he : ∀ j, j < ps.length → j ≠ k → ∀ y, InSlot a' s.may.length y → ¬ InSlot (A j) (gp ps j).may.length y) :
    OwnSpots w' (some ⟨b, 0, none⟩) (ps.set k s) (fun j => if j = k then a' else A j) (fun j => if j = k then c' else C j) := by
  have hbs : InSlot (some ⟨b, 0, none⟩) ps.length b := ⟨by omega, 0, rfl⟩
  refine ⟨?_, fun j hj => ?_, fun j hj => ?_, fun j hj y hy hy' => ?_, fun i j hi hj hij y hy hy' => ?_⟩
  · rw [List.length_set]
    refine hrow.congr fun j hj c hc => ?_
    rw [gp_set hk]
    by_cases e : j = k
    · simp only [e, if_true]
    · simp only [e, if_false]
  · rw [List.length_set] at hj
    rw [gp_set hk]
    by_cases e : j = k
    · simp only [e, if_true]; exact hl
    · simp only [e, if_false]
      exact (h.may j hj).only hon (fun y hy e' => h.apart j hj y hy (by rw [e']; exact hbs))
  · rw [List.length_set] at hj
    rw [gp_set hk]
    by_cases e : j = k
    · simp only [e, if_true]; exact hc
    · simp only [e, if_false]
      exact h.cap j hj
  · rw [List.length_set] at hj hy'
    rw [gp_set hk] at hy
    by_cases e : j = k
    · simp only [e, if_true] at hy
      exact hb y hy (inSlot_some hy')
    · simp only [e, if_false] at hy
      exact h.apart j hj y hy hy'
  · rw [List.length_set] at hi hj
    rw [gp_set hk] at hy hy'
    by_cases e : i = k
    · have e2 : j ≠ k := fun h => hij (e.trans h.symm)
      simp only [e, if_true] at hy
      simp only [e2, if_false] at hy'
      exact he j hj e2 y hy hy'
    · simp only [e, if_false] at hy
      by_cases e2 : j = k
      · simp only [e2, if_true] at hy'
        exact he i hi e y hy' hy
      · simp only [e2, if_false] at hy'
        exact h.each i j hi hj hij y hy hy'
theorem ite_self' {α : Type} (A : Nat → α) (k : Nat) : (fun j => if j = k then A k else A j) = A := by
  funext j
  by_cases e : j = k
  · rw [if_pos e, e]
  · rw [if_neg e]
/-- One level is written. -/
theorem OwnSpots.setLeast {w : World} {b : Nat} {ps : List Spot} {A : Nat → Option Addr} {C : Nat → Nat} (h : OwnSpots w (some ⟨b, 0, none⟩) ps A C) {k : Nat} (hk : k < ps.length) (n : Int) :
    OwnSpots (w.setCell ⟨b, k * 5 + 2, none⟩ (.int .i64 n)) (some ⟨b, 0, none⟩) (ps.set k ⟨(gp ps k).name, (gp ps k).cap, n, (gp ps k).most, (gp ps k).may⟩) A C := by
  have on := Only.cell w ⟨b, k * 5 + 2, none⟩ (.int .i64 n)
  have := h.put (w' := w.setCell ⟨b, k * 5 + 2, none⟩ (.int .i64 n)) (s := ⟨(gp ps k).name, (gp ps k).cap, n, (gp ps k).most, (gp ps k).may⟩) (a' := A k) (c' := C k) hk
    ((h.row.setAt hk (by omega : 2 < 5) (.int .i64 n)).congr (fun k' hk' j' hj' => by
      by_cases e : k' = k
      · subst e
        simp only [if_true, true_and]
        match j', hj' with
        | 0, _ => rfl
        | 1, _ => rfl
        | 2, _ => rfl
        | 3, _ => rfl
        | 4, _ => rfl
      · simp only [e, false_and, if_false])) on
    ((h.may k hk).only on (fun y hy e => h.apart k hk y hy ⟨by omega, 0, by have e' : y = b := e; rw [e']⟩)) (h.cap k hk) (fun y hy e => h.apart k hk y hy ⟨by omega, 0, by rw [e]⟩) (fun j hj hjk y hy => h.each k j hk hj (fun e => hjk e.symm) y hy)
  rwa [ite_self', ite_self'] at this
theorem OwnSpots.setMost {w : World} {b : Nat} {ps : List Spot} {A : Nat → Option Addr} {C : Nat → Nat} (h : OwnSpots w (some ⟨b, 0, none⟩) ps A C) {k : Nat} (hk : k < ps.length) (n : Int) :
    OwnSpots (w.setCell ⟨b, k * 5 + 3, none⟩ (.int .i64 n)) (some ⟨b, 0, none⟩) (ps.set k ⟨(gp ps k).name, (gp ps k).cap, (gp ps k).least, n, (gp ps k).may⟩) A C := by
  have on := Only.cell w ⟨b, k * 5 + 3, none⟩ (.int .i64 n)
  have := h.put (w' := w.setCell ⟨b, k * 5 + 3, none⟩ (.int .i64 n)) (s := ⟨(gp ps k).name, (gp ps k).cap, (gp ps k).least, n, (gp ps k).may⟩) (a' := A k) (c' := C k) hk
    ((h.row.setAt hk (by omega : 3 < 5) (.int .i64 n)).congr (fun k' hk' j' hj' => by
      by_cases e : k' = k
      · subst e
        simp only [if_true, true_and]
        match j', hj' with
        | 0, _ => rfl
        | 1, _ => rfl
        | 2, _ => rfl
        | 3, _ => rfl
        | 4, _ => rfl
      · simp only [e, false_and, if_false])) on
    ((h.may k hk).only on (fun y hy e => h.apart k hk y hy ⟨by omega, 0, by have e' : y = b := e; rw [e']⟩)) (h.cap k hk) (fun y hy e => h.apart k hk y hy ⟨by omega, 0, by rw [e]⟩) (fun j hj hjk y hy => h.each k j hk hj (fun e => hjk e.symm) y hy)
  rwa [ite_self', ite_self'] at this
/-- A list of its own is written: it is new, or the spot's old one. -/
theorem OwnSpots.setMay {w : World} {b : Nat} {ps : List Spot} {A : Nat → Option Addr} {C : Nat → Nat} (h : OwnSpots w (some ⟨b, 0, none⟩) ps A C) {k : Nat} (hk : k < ps.length) {l : List ByteArray} {a' : Option Addr} {c' : Nat}
    (hl : OwnL w 9 1 a' l.length (strF l)) (hc : l.length ≤ c') (hb : ∀ y, InSlot a' l.length y → y ≠ b) (he : ∀ j, j < ps.length → j ≠ k → ∀ y, InSlot a' l.length y → ¬ InSlot (A j) (gp ps j).may.length y) :
    OwnSpots (w.setCell ⟨b, k * 5 + 4, none⟩ (.slice a' l.length c')) (some ⟨b, 0, none⟩) (ps.set k ⟨(gp ps k).name, (gp ps k).cap, (gp ps k).least, (gp ps k).most, l⟩) (fun j => if j = k then a' else A j) (fun j => if j = k then c' else C j) := by
  have on := Only.cell w ⟨b, k * 5 + 4, none⟩ (.slice a' l.length c')
  exact h.put (w' := w.setCell ⟨b, k * 5 + 4, none⟩ (.slice a' l.length c')) (s := ⟨(gp ps k).name, (gp ps k).cap, (gp ps k).least, (gp ps k).most, l⟩) (a' := a') (c' := c') hk
    ((h.row.setAt hk (by omega : 4 < 5) (.slice a' l.length c')).congr (fun k' hk' j' hj' => by
      by_cases e : k' = k
      · subst e
        simp only [if_true, true_and]
        match j', hj' with
        | 0, _ => rfl
        | 1, _ => rfl
        | 2, _ => rfl
        | 3, _ => rfl
        | 4, _ => rfl
      · simp only [e, false_and, if_false])) on
    (hl.only on (fun y hy e => hb y hy e)) hc hb he
/-- All cells of a spot are written. -/
theorem OwnSpots.setAll {w : World} {b : Nat} {ps : List Spot} {A : Nat → Option Addr} {C : Nat → Nat} (h : OwnSpots w (some ⟨b, 0, none⟩) ps A C) {k : Nat} (hk : k < ps.length) {s : Spot} {a' : Option Addr} {c' : Nat}
    (hl : OwnL w 9 1 a' s.may.length (strF s.may)) (hc : s.may.length ≤ c') (hb : ∀ y, InSlot a' s.may.length y → y ≠ b) (he : ∀ j, j < ps.length → j ≠ k → ∀ y, InSlot a' s.may.length y → ¬ InSlot (A j) (gp ps j).may.length y) :
    OwnSpots (((((w.setCell ⟨b, k * 5, none⟩ (.string s.name)).setCell ⟨b, k * 5 + 1, none⟩ (.int .i64 s.cap)).setCell ⟨b, k * 5 + 2, none⟩ (.int .i64 s.least)).setCell ⟨b, k * 5 + 3, none⟩ (.int .i64 s.most)).setCell ⟨b, k * 5 + 4, none⟩ (.slice a' s.may.length c')) (some ⟨b, 0, none⟩) (ps.set k s) (fun j => if j = k then a' else A j) (fun j => if j = k then c' else C j) ∧
    Only (fun y => y = b) w (((((w.setCell ⟨b, k * 5, none⟩ (.string s.name)).setCell ⟨b, k * 5 + 1, none⟩ (.int .i64 s.cap)).setCell ⟨b, k * 5 + 2, none⟩ (.int .i64 s.least)).setCell ⟨b, k * 5 + 3, none⟩ (.int .i64 s.most)).setCell ⟨b, k * 5 + 4, none⟩ (.slice a' s.may.length c')) := by
  have on : Only (fun y => y = b) w (((((w.setCell ⟨b, k * 5, none⟩ (.string s.name)).setCell ⟨b, k * 5 + 1, none⟩ (.int .i64 s.cap)).setCell ⟨b, k * 5 + 2, none⟩ (.int .i64 s.least)).setCell ⟨b, k * 5 + 3, none⟩ (.int .i64 s.most)).setCell ⟨b, k * 5 + 4, none⟩ (.slice a' s.may.length c')) :=
    ((((Only.cell w ⟨b, k * 5, none⟩ _).set rfl _ _).set rfl _ _).set rfl _ _).set rfl _ _
  have hr := ((((h.row.setAt hk (by omega : 0 < 5) (.string s.name)).setAt hk (by omega : 1 < 5) (.int .i64 s.cap)).setAt hk (by omega : 2 < 5) (.int .i64 s.least)).setAt hk (by omega : 3 < 5) (.int .i64 s.most)).setAt hk (by omega : 4 < 5) (.slice a' s.may.length c')
  refine ⟨h.put (s := s) (a' := a') (c' := c') hk (hr.congr (fun k' hk' j' hj' => ?_)) on (hl.only on (fun y hy e => hb y hy e)) hc hb he, on⟩
  by_cases e : k' = k
  · subst e
    simp only [if_true, true_and]
    match j', hj' with
    | 0, _ => rfl
    | 1, _ => rfl
    | 2, _ => rfl
    | 3, _ => rfl
    | 4, _ => rfl
  · simp only [e, false_and, if_false]
/-- The book whose spots have changed in place. -/
theorem OwnBook.withSpots {w w' : World} {x : Book} {af av aq : Option Addr} {b : Nat} {A1 A1' : Nat → Option Addr} {C1 C1' : Nat → Nat} {A2 : Nat → Nat → Option Addr} {C2 : Nat → Nat → Nat} {ss : List Spot} {n : Int} (h : OwnBook w x af (some ⟨b, 0, none⟩) av aq A1 C1 A2 C2) (hx : x.spots.length ≠ 0)
    (hs : OwnSpots w' (some ⟨b, 0, none⟩) ss A1' C1') (on : Only (fun y => y = b) w w') {N : Nat} (hN : ∀ y, InBk x af (some ⟨b, 0, none⟩) av aq A1 A2 y → y < N) (hin : ∀ y, InSp (some ⟨b, 0, none⟩) ss A1' y → InSp (some ⟨b, 0, none⟩) x.spots A1 y ∨ N ≤ y) :
    OwnBook w' ⟨x.foes, ss, x.valves, x.parts, n⟩ af (some ⟨b, 0, none⟩) av aq A1' C1' A2 C2 := by
  have hb : InSp (some ⟨b, 0, none⟩) x.spots A1 b := Or.inl ⟨hx, 0, rfl⟩
  refine ⟨h.foes.only on (fun y hy e => h.d01 y hy (by have e' : y = b := e; rw [e']; exact hb)), hs, h.valves.only on (fun y hy e => h.d12 y (by have e' : y = b := e; rw [e']; exact hb) hy), h.parts.only on (fun y hy e => h.d13 y (by have e' : y = b := e; rw [e']; exact hb) hy),
    fun y hy hy' => ?_, h.d02, h.d03, fun y hy hy' => ?_, fun y hy hy' => ?_, h.d23⟩
  · rcases hin y hy' with h1 | h1
    · exact h.d01 y hy h1
    · have := hN y (Or.inl hy); omega
  · rcases hin y hy with h1 | h1
    · exact h.d12 y h1 hy'
    · have := hN y (Or.inr (Or.inr (Or.inl hy'))); omega
  · rcases hin y hy with h1 | h1
    · exact h.d13 y h1 hy'
    · have := hN y (Or.inr (Or.inr (Or.inr hy'))); omega
theorem inSp_set {a : Option Addr} {ps : List Spot} {A : Nat → Option Addr} {k : Nat} (hk : k < ps.length) {s : Spot} {a' : Option Addr} {y : Nat} (h : InSp a (ps.set k s) (fun j => if j = k then a' else A j) y) : InSp a ps A y ∨ InSlot a' s.may.length y := by
  rcases h with h | ⟨j, hj, h⟩
  · rw [List.length_set] at h
    exact Or.inl (Or.inl h)
  · rw [List.length_set] at hj
    rw [gp_set hk] at h
    by_cases e : j = k
    · simp only [e, if_true] at h
      exact Or.inr h
    · simp only [e, if_false] at h
      exact Or.inl (Or.inr ⟨j, hj, h⟩)
theorem inSp_same {a : Option Addr} {ps : List Spot} {A : Nat → Option Addr} {k : Nat} (hk : k < ps.length) {s : Spot} (e : s.may = (gp ps k).may) {y : Nat} (h : InSp a (ps.set k s) A y) : InSp a ps A y := by
  rw [← ite_self' A k] at h
  rcases inSp_set hk h with h | h
  · exact h
  · rw [e] at h
    exact Or.inr ⟨k, hk, h⟩
theorem set_self' {ps : List Spot} {k : Nat} (hk : k < ps.length) : ps.set k ⟨(gp ps k).name, (gp ps k).cap, (gp ps k).least, (gp ps k).most, (gp ps k).may⟩ = ps := by
  have e : (⟨(gp ps k).name, (gp ps k).cap, (gp ps k).least, (gp ps k).most, (gp ps k).may⟩ : Spot) = ps[k] := by rw [gp_lt hk]
  rw [e]
  exact List.set_getElem_self hk

end Go.Proofs.YtfmhkicncgccjaaGreatDoor

/- Plain: the book behind ClaimGrant. -/
namespace Go.Proofs.YtfmhkicncgccjaaGreatDoor
open Go.RowKit Go.Sort
set_option linter.unusedSimpArgs false
set_option linter.unusedVariables false

/-- A place, with all that may happen to it by a use. -/
def grantS (stuffs : List ByteArray) (s : Spot) (u : Use) : Spot :=
  ⟨s.name, s.cap, if u.role = 1 then s.least - u.amount else s.least, if u.role = 2 then s.most + u.amount else s.most, if u.role = 1 then s.may else insTo s.may stuffs stuffs.length⟩
def putAt (x : Book) (y : Want) : Book := ⟨x.foes, upTo (grantS y.stuffs) x.spots y.uses y.uses.length, x.valves, x.parts ++ [⟨y, false⟩], x.seen⟩
def seenAt (x : Book) (n : Int) : Book := ⟨x.foes, x.spots, x.valves, x.parts, n⟩
/-- The book behind ClaimGrant. -/
def grantB (x : Book) (y : Want) : Book :=
  if bookB x then (if (2 ≤ codeC x y ∧ codeC x y ≤ 4) ∨ 0 ≤ partI x.parts y.number then x else if codeC x y = 0 then putAt (seenAt x y.number) y else seenAt x y.number) else bookNil
theorem grant_lv {K : Int} {stuffs : List ByteArray} {s : Spot} {u : Use} (h : Lv K s) (h0 : 0 ≤ u.amount) (h1 : u.amount ≤ 1000) : Lv (K + 1000) (grantS stuffs s u) := by
  unfold Lv grantS at *
  dsimp only
  by_cases e1 : u.role = 1
  · simp only [e1, if_true, if_neg (by omega : ¬ ((1 : Int) = 2))]
    omega
  · by_cases e2 : u.role = 2
    · simp only [e2, if_true, if_neg (by omega : ¬ ((2 : Int) = 1))]
      omega
    · simp only [e1, e2, if_false]
      omega
/-- What the levels and lists are like behind k uses. -/
theorem upTo_grant {x : Book} {y : Want} (hw : wantB y = true) (hl : ∀ j, j < x.spots.length → Lv 1000 (gp x.spots j) ∧ (gp x.spots j).may.length ≤ 8) : ∀ k, k ≤ y.uses.length → ∀ j, j < x.spots.length →
    Lv (1000 + 1000 * k) (gp (upTo (grantS y.stuffs) x.spots y.uses k) j) ∧ (gp (upTo (grantS y.stuffs) x.spots y.uses k) j).may.length ≤ 8 + 8 * k := by
  have hs : y.stuffs.length ≤ 8 := by
    unfold wantB at hw
    simp only [Bool.and_eq_true] at hw
    have := namesB_len hw.1.2
    omega
  refine upTo_all (R := fun k _ s => Lv (1000 + 1000 * k) s ∧ s.may.length ≤ 8 + 8 * k) (fun j hj => by simpa using hl j hj) (fun k j s hk h => ⟨?_, by omega⟩) (fun k j s hk h => ⟨?_, ?_⟩)
  · have := h.1
    unfold Lv at this ⊢
    omega
  · have := wantB_amount hw hk
    have := grant_lv (stuffs := y.stuffs) h.1 this.1 this.2
    have e : (1000 : Int) + 1000 * k + 1000 = 1000 + 1000 * ((k + 1 : Nat) : Int) := by omega
    rwa [e] at this
  · have := h.2
    have h2 := insTo_length s.may y.stuffs y.stuffs.length
    unfold grantS
    dsimp only
    split <;> omega
theorem levels_of {x : Book} (h : bookB x = true) : ∀ j, j < x.spots.length → Lv 1000 (gp x.spots j) ∧ (gp x.spots j).may.length ≤ 8 := by
  intro j hj
  unfold bookB at h
  simp only [Bool.and_eq_true] at h
  have := allTo_iff.1 h.1.2 j hj
  unfold spotAtB at this
  rw [Bool.and_eq_true] at this
  have h2 := this.1
  unfold spotOkB inB at h2
  simp only [Bool.and_eq_true, decide_eq_true_eq] at h2
  have h3 := namesB_len h2.1.2
  unfold Lv
  omega
theorem firstTo_or (p : Nat → Int) : ∀ n, firstTo n p = 0 ∨ ∃ i, i < n ∧ firstTo n p = p i
  | 0 => Or.inl rfl
  | n + 1 => by
    show (if firstTo n p = 0 then p n else firstTo n p) = 0 ∨ ∃ i, i < n + 1 ∧ (if firstTo n p = 0 then p n else firstTo n p) = p i
    rcases firstTo_or p n with h | ⟨i, hi, h⟩
    · rw [if_pos h]; exact Or.inr ⟨n, by omega, rfl⟩
    · by_cases h0 : firstTo n p = 0
      · rw [if_pos h0]; exact Or.inr ⟨n, by omega, rfl⟩
      · rw [if_neg h0]; exact Or.inr ⟨i, by omega, h⟩
theorem laterC_vals (x : Book) (y : Want) : laterC x y = 0 ∨ (5 ≤ laterC x y ∧ laterC x y ≤ 11) := by
  have hm : ∀ i, mayAt x y i = 0 ∨ (5 ≤ mayAt x y i ∧ mayAt x y i ≤ 11) := fun i => by
    unfold mayAt mayCode
    split
    · split
      · omega
      · split <;> omega
    · split <;> omega
  have ha : ∀ i, amtAt x y i = 0 ∨ (5 ≤ amtAt x y i ∧ amtAt x y i ≤ 11) := fun i => by
    unfold amtAt amtCode
    split
    · omega
    · split
      · omega
      · split <;> omega
  have hs : stuffsC x y = 0 ∨ (5 ≤ stuffsC x y ∧ stuffsC x y ≤ 11) := by
    unfold stuffsC
    split
    · omega
    · split
      · rcases firstTo_or (mayAt x y) y.uses.length with h | ⟨i, _, h⟩
        · exact Or.inl h
        · rw [h]; exact hm i
      · exact Or.inl rfl
  have hq : amountsC x y = 0 ∨ (5 ≤ amountsC x y ∧ amountsC x y ≤ 11) := by
    unfold amountsC
    rcases firstTo_or (amtAt x y) y.uses.length with h | ⟨i, _, h⟩
    · exact Or.inl h
    · rw [h]; exact ha i
  unfold laterC
  split
  · omega
  · split
    · omega
    · split
      · omega
      · split
        · exact hq
        · exact hs
/-- The ways of a code, where the book is ok. -/
theorem code_ways {x : Book} {y : Want} (h : bookB x = true) : codeC x y ≠ 1 ∧ 0 ≤ codeC x y ∧ codeC x y ≤ 11 ∧
    ((((2 ≤ codeC x y ∧ codeC x y ≤ 4) ∨ 0 ≤ partI x.parts y.number) ∧ codeC x y ≤ 4) ∨
     (¬ ((2 ≤ codeC x y ∧ codeC x y ≤ 4) ∨ 0 ≤ partI x.parts y.number) ∧ ((codeC x y = 0 ∧ wantB y = true ∧ knowsB x y = true) ∨ 5 ≤ codeC x y))) := by
  have hl := laterC_vals x y
  unfold codeC
  rw [h]
  simp only [if_true]
  cases hw : (wantB y && knowsB x y) with
  | false =>
    simp only [Bool.false_eq_true, if_false]
    exact ⟨by omega, by omega, by omega, Or.inl ⟨Or.inl ⟨by omega, by omega⟩, by omega⟩⟩
  | true =>
    rw [Bool.and_eq_true] at hw
    simp only [if_true]
    unfold numberC
    by_cases hp : 0 ≤ partI x.parts y.number
    · rw [if_pos hp]
      split
      · exact ⟨by omega, by omega, by omega, Or.inl ⟨Or.inr hp, by omega⟩⟩
      · exact ⟨by omega, by omega, by omega, Or.inl ⟨Or.inr hp, by omega⟩⟩
    · rw [if_neg hp]
      split
      · exact ⟨by omega, by omega, by omega, Or.inl ⟨Or.inl ⟨by omega, by omega⟩, by omega⟩⟩
      · refine ⟨by omega, by omega, by omega, Or.inr ⟨by omega, ?_⟩⟩
        rcases hl with h0 | h0
        · exact Or.inl ⟨h0, hw.1, hw.2⟩
        · exact Or.inr h0.1
theorem bookB_small {x : Book} (h : bookB x = true) : x.foes.length ≤ 12 ∧ x.spots.length ≤ 8 ∧ x.valves.length ≤ 12 ∧ x.parts.length ≤ 6 := by
  unfold bookB at h
  simp only [Bool.and_eq_true, decide_eq_true_eq] at h
  obtain ⟨⟨⟨⟨⟨h1, h2⟩, h3⟩, h4⟩, h5⟩, h6⟩ := h
  have e3 := namesB_len h3
  unfold foesOkB at h1
  unfold partsOkB at h6
  rw [Bool.and_eq_true] at h1 h6
  have e1 := of_decide_eq_true h1.1
  have e6 := of_decide_eq_true h6.1
  omega
theorem wantB_small {y : Want} (hw : wantB y = true) : y.stuffs.length ≤ 8 ∧ y.uses.length ≤ 8 ∧ y.opens.length ≤ 12 ∧ y.shuts.length ≤ 12 := by
  unfold wantB at hw
  simp only [Bool.and_eq_true] at hw
  have h1 := usesS_len hw.1.1.1.1.1.1.1.2
  have h4 := namesB_len hw.1.1.1.1.1.1.2
  have h5 := namesB_len hw.1.1.1.1.1.2
  have h8 := namesB_len hw.1.2
  omega
theorem wantB_room {y : Want} (hw : wantB y = true) : WantRoom y := by
  have := wantB_small hw
  exact ⟨by omega, by omega, by omega, by omega⟩
theorem mem_upTo {f : Spot → Use → Spot} {ss : List Spot} {us : List Use} {k : Nat} {s : Spot} (h : s ∈ upTo f ss us k) : ∃ j, j < ss.length ∧ s = gp (upTo f ss us k) j := by
  obtain ⟨j, hj, rfl⟩ := List.mem_iff_getElem.1 h
  rw [upTo_length] at hj
  exact ⟨j, hj, by rw [gp_lt (by rw [upTo_length]; exact hj)]⟩
/-- The room of what is put in. -/
theorem putAt_room {x : Book} {y : Want} (hb : bookB x = true) (R : BookRoom x) (hw : wantB y = true) : BookRoom (putAt (seenAt x y.number) y) := by
  have hs := bookB_small hb
  refine ⟨R.foes, ?_, fun s hs' => ?_, R.valves, ?_, fun p hp => ?_⟩
  · show (upTo _ x.spots _ _).length ≤ _
    rw [upTo_length]; omega
  · obtain ⟨j, hj, rfl⟩ := mem_upTo hs'
    have := (upTo_grant hw (levels_of hb) y.uses.length (Nat.le_refl _) j hj).2
    have := wantB_small hw
    show (gp (upTo (grantS y.stuffs) x.spots y.uses y.uses.length) j).may.length ≤ _
    omega
  · show (x.parts ++ [_]).length ≤ _
    simp; omega
  · rcases List.mem_append.1 hp with h | h
    · exact R.wants p h
    · rw [List.mem_singleton.1 h]; exact wantB_room hw
theorem seenAt_room {x : Book} (R : BookRoom x) (n : Int) : BookRoom (seenAt x n) := ⟨R.foes, R.spots, R.mays, R.valves, R.parts, R.wants⟩

theorem OwnBook.seen {w : World} {x : Book} {af ap av aq : Option Addr} {A1 : Nat → Option Addr} {C1 : Nat → Nat} {A2 : Nat → Nat → Option Addr} {C2 : Nat → Nat → Nat} (h : OwnBook w x af ap av aq A1 C1 A2 C2) (n : Int) : OwnBook w (seenAt x n) af ap av aq A1 C1 A2 C2 :=
  ⟨h.foes, h.spots, h.valves, h.parts, h.d01, h.d02, h.d03, h.d12, h.d13, h.d23⟩

end Go.Proofs.YtfmhkicncgccjaaGreatDoor

/- A region that draws its order and whose last operation writes a cell that an earlier one reads: what is held is asked behind every operation but that last one. -/
namespace Go.Proofs.YtfmhkicncgccjaaGreatDoor
set_option linter.unusedSimpArgs false
set_option linter.unusedVariables false

/-- Whatever order is picked; S holds behind each operation but number d. -/
def wpAnyE (P : Program) (md : Region.Mode) (ops : Array Oper) (Q : Exit → Act → World → Prop) (S : World → Prop) (d : Nat) : Nat → Array Bool → Act → World → Prop
  | 0, listed, a, w => Region.ready md ops listed = [] ∧ Q .normal a w
  | fuel + 1, listed, a, w => (Region.ready md ops listed = [] → Q .normal a w) ∧ ∀ i, i ∈ Region.ready md ops listed → wpOp P ops Q i (fun a' w' => (i ≠ d → S w') ∧ wpAnyE P md ops Q S d fuel (listed.setIfInBounds i true) a' w') a w

theorem wpAny_of_E {P : Program} {md : Region.Mode} {ops : Array Oper} {Q : Exit → Act → World → Prop} {S : World → Prop} {d : Nat} (fuel : Nat) : ∀ (listed : Array Bool) (a : Act) (w : World), wpAnyE P md ops Q S d fuel listed a w → wpAny P md ops Q fuel listed a w := by
  induction fuel with
  | zero => intro _ _ _ h; exact h
  | succ n ih => intro listed a w h; exact ⟨h.1, fun i hi => wpOp_mono (fun _ _ hh => ih _ _ _ hh.2) (h.2 i hi)⟩

theorem unlisted_not {md : Region.Mode} {ops : Array Oper} {listed : Array Bool} {i j : Nat} (hi : i ∈ Region.ready md ops listed) (hj : j ∈ Region.ready md ops listed) {oj : Oper} (hoj : ops[j]? = some oj) {e : Edge} (he : e ∈ oj.after) (hb : Region.binds md e = true) : e.on ≠ i := by
  intro heq
  obtain ⟨_, o, ho, hall⟩ := mem_ready.1 hj
  rw [hoj] at ho
  cases ho
  have h1 := hall e he hb
  have h0 := (mem_ready.1 hi).1
  rw [heq] at h1
  by_cases h' : i < listed.size
  · simp [h'] at h0 h1
    rw [h0] at h1
    cases h1
  · simp [h'] at h1

theorem wpAnyE_first {P : Program} {md : Region.Mode} {ops : Array Oper} {Q : Exit → Act → World → Prop} {S : World → Prop} {d i : Nat} {oi od : Oper} {v : Value} (hi : ops[i]? = some oi) (hsel : ∀ (j : Nat) (o : Oper) cs b, ops[j]? = some o → o.op ≠ .select cs b)
    (hQ : ∀ c a w, Q (.panic c) (a.put oi.dst v) w → Q (.panic c) a w) (hd : ops[d]? = some od) (hwait : ∃ e ∈ od.after, Region.binds md e = true ∧ e.on = i) (fuel : Nat) :
    ∀ (listed : Array Bool) (a : Act) (w : World),
      (∀ j oj, ops[j]? = some oj → j ≠ i → listed.getD j true = false → (∀ e ∈ oj.after, Region.binds md e = true → e.on ≠ i) → oi.apart ops oj = true) →
      i ∈ Region.ready md ops listed → YieldsIf P ops S oi v a → S w → i ≠ d →
      wpAnyE P md ops Q S d fuel (listed.setIfInBounds i true) (a.put oi.dst v) w → wpAnyE P md ops Q S d (fuel + 1) listed a w := by
  induction fuel with
  | zero =>
    intro listed a w _ hr hy hS hid H
    refine ⟨fun h => absurd hr (by rw [h]; exact List.not_mem_nil), fun j hj => ?_⟩
    by_cases hji : j = i
    · rw [hji]
      exact hy.wpOp hi hS ⟨fun _ => hS, H⟩
    · exact absurd (ready_mono hj hji) (by rw [H.1]; exact List.not_mem_nil)
  | succ fuel ih =>
    intro listed a w hfree hr hy hS hid H
    refine ⟨fun h => absurd hr (by rw [h]; exact List.not_mem_nil), fun j hj => ?_⟩
    by_cases hji : j = i
    · rw [hji]
      exact hy.wpOp hi hS ⟨fun _ => hS, H⟩
    · obtain ⟨hjun, oj, hoj, -⟩ := mem_ready.1 hj
      have hjd : j ≠ d := by
        rintro rfl
        rw [hd] at hoj
        cases hoj
        obtain ⟨e, he, hb, heq⟩ := hwait
        exact unlisted_not hr hj hd he hb heq
      have step := wpOp_putIf hoj (hfree j oj hoj hji hjun (fun e he hb => unlisted_not hr hj hoj he hb)) (fun cs b => hsel i oi cs b hi) (fun cs b => hsel j oj cs b hoj) hQ hy (H.2 j (ready_mono hj hji))
      refine wpOp_mono (fun a' w' hh => ⟨fun _ => hh.2.1 hjd, ih _ a' w' (fun k ok hk hki hun hno => hfree k ok hk hki ?_ hno) (ready_mono hr (Ne.symm hji)) hh.1 (hh.2.1 hjd) hid ?_⟩) step
      · by_cases hjk : j = k
        · rw [← hjk]; exact hjun
        · rwa [getD_set_ne true hjk] at hun
      · rw [Array.setIfInBounds_comm _ _ hji]
        exact hh.2.2

/-- Number i is taken first. -/
theorem wpAnyE_take {P : Program} {md : Region.Mode} {ops : Array Oper} {Q : Exit → Act → World → Prop} {S : World → Prop} {d i fuel : Nat} {oi : Oper} {v : Value} {listed : Array Bool} {a : Act} {w : World} (hi : ops[i]? = some oi)
    (hs : Region.noSelect ops = true) (hf : Region.free md ops listed i = true) (hr : (Region.ready md ops listed).contains i = true) (hw : ((ops[d]?).map fun o => o.after.any fun e => Region.binds md e && e.on == i) = some true) (hid : (i == d) = false)
    (hQ : ∀ c a w, Q (.panic c) (a.put oi.dst v) w → Q (.panic c) a w) (hy : YieldsIf P ops S oi v a) (hS : S w)
    (h : wpAnyE P md ops Q S d fuel (listed.setIfInBounds i true) (a.put oi.dst v) w) : wpAnyE P md ops Q S d (fuel + 1) listed a w := by
  obtain ⟨od, hd, hany⟩ := Option.map_eq_some_iff.1 hw
  obtain ⟨e, he, hb⟩ := Array.any_eq_true'.1 hany
  simp only [Bool.and_eq_true, beq_iff_eq] at hb
  exact wpAnyE_first hi (Region.noSelect_spec hs) hQ hd ⟨e, he, hb.1, hb.2⟩ fuel listed a w (Region.free_spec hi hf) (by simpa using hr) hy hS (by simpa using hid) h
/-- Number i alone may come up. -/
theorem wpAnyE_one {P : Program} {md : Region.Mode} {ops : Array Oper} {Q : Exit → Act → World → Prop} {S : World → Prop} {d i fuel : Nat} {o : Oper} {listed : Array Bool} {a : Act} {w : World} (ho : ops[i]? = some o) (hr : Region.ready md ops listed = [i])
    (h : ∀ K : Act → World → Prop, Shut (∀ a w, (i ≠ d → S w) → wpAnyE P md ops Q S d fuel (listed.setIfInBounds i true) a w → K a w) → if Region.wanted o (yielded ops a.tmps) = true then Oper.wp P o a w K Q else K (a.put o.dst undef) w) :
    wpAnyE P md ops Q S d (fuel + 1) listed a w := by
  refine ⟨fun h0 => absurd (hr.symm.trans h0) (by simp), fun j hj => ?_⟩
  rw [hr] at hj
  have e : j = i := by simpa using hj
  rw [e]
  exact wpOp_step ho (fun K hK => h K (fun a w h1 h2 => hK a w ⟨h1, h2⟩))
theorem wpAnyE_done {P : Program} {md : Region.Mode} {ops : Array Oper} {Q : Exit → Act → World → Prop} {S : World → Prop} {d : Nat} {listed : Array Bool} {a : Act} {w : World} (hr : Region.ready md ops listed = []) (h : Q .normal a w) (fuel : Nat) : wpAnyE P md ops Q S d fuel listed a w := by
  cases fuel with
  | zero => exact ⟨hr, h⟩
  | succ n => exact ⟨fun _ => h, fun i hi => absurd hi (by rw [hr]; exact List.not_mem_nil)⟩
/-- The same, the operation laid out. -/
theorem wpAnyE_takeC {P : Program} {md : Region.Mode} {ops : Array Oper} {Q : Exit → Act → World → Prop} {S : World → Prop} {d i fuel : Nat} {t : Tmp} {op : Op} {ty : TypeId} {pos : String} {after : Array Edge} {guard : Option (Nat × Bool)} {v : Value} {listed : Array Bool} {a : Act} {w : World} (hi : ops[i]? = some ⟨some t, op, ty, pos, after, guard⟩)
    (hs : Region.noSelect ops = true) (hf : Region.free md ops listed i = true) (hr : (Region.ready md ops listed).contains i = true) (hw : ((ops[d]?).map fun o => o.after.any fun e => Region.binds md e && e.on == i) = some true) (hid : (i == d) = false)
    (hQ : ∀ c a w, Q (.panic c) (a.put (some t) v) w → Q (.panic c) a w) (hy : YieldsIf P ops S ⟨some t, op, ty, pos, after, guard⟩ v a) (hS : S w)
    (h : wpAnyE P md ops Q S d fuel (listed.setIfInBounds i true) (a.put (some t) v) w) : wpAnyE P md ops Q S d (fuel + 1) listed a w :=
  wpAnyE_take hi hs hf hr hw hid hQ hy hS h
theorem wpAnyE_oneC {P : Program} {md : Region.Mode} {ops : Array Oper} {Q : Exit → Act → World → Prop} {S : World → Prop} {d i fuel : Nat} {dst : Option Tmp} {op : Op} {ty : TypeId} {pos : String} {after : Array Edge} {guard : Option (Nat × Bool)} {listed : Array Bool} {a : Act} {w : World} (ho : ops[i]? = some ⟨dst, op, ty, pos, after, guard⟩) (hr : Region.ready md ops listed = [i])
    (h : ∀ K : Act → World → Prop, Shut (∀ a w, (i ≠ d → S w) → wpAnyE P md ops Q S d fuel (listed.setIfInBounds i true) a w → K a w) → if Region.wanted ⟨dst, op, ty, pos, after, guard⟩ (yielded ops a.tmps) = true then Oper.wp P ⟨dst, op, ty, pos, after, guard⟩ a w K Q else K (a.put dst undef) w) :
    wpAnyE P md ops Q S d (fuel + 1) listed a w :=
  wpAnyE_one ho hr h
theorem wp_region_E {P : Program} {ops : Array Oper} {Q : Exit → Act → World → Prop} (S : World → Prop) (d : Nat) {id : Nat} {a : Act} {w : World} (hm : P.follows .mixedOrders = true) (h : wpAnyE P .any ops Q S d ops.size (Array.replicate ops.size false) a w.drew) : (Code.region id ops true).wp P Q a w :=
  wp_region_any hm (wpAny_of_E _ _ _ _ h)

end Go.Proofs.YtfmhkicncgccjaaGreatDoor
