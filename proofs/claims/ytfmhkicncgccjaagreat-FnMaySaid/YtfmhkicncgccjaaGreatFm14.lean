/- Joined: OwH, BkEq. -/
import Derived.Deep.RegionWith
import Derived.Test.YtfmhkicncgccjaaGreatFm11
import Derived.Test.YtfmhkicncgccjaaGreatFm08
import Derived.Test.YtfmhkicncgccjaaGreatFm05
/- What the program's freshBook owns. -/
namespace Go.Proofs.YtfmhkicncgccjaaGreat
open Go.RowKit Go.Sort
set_option linter.unusedSimpArgs false
set_option linter.unusedVariables false

theorem divmod_inj {s k j k' j' : Nat} (hj : j < s) (hj' : j' < s) (h : k * s + j = k' * s + j') : k = k' ∧ j = j' := by
 have e1 : (k * s + j) / s = k := by rw [Nat.mul_comm, Nat.mul_add_div (by omega), Nat.div_eq_of_lt hj, Nat.add_zero]
 have e2 : (k' * s + j') / s = k' := by rw [Nat.mul_comm, Nat.mul_add_div (by omega), Nat.div_eq_of_lt hj', Nat.add_zero]
 rw [h, e2] at e1
 subst e1
 exact ⟨rfl, by omega⟩
theorem OwnL.setAt {w : World} {t : TypeId} {s b n : Nat} {f : Nat → Nat → Value} (h : OwnL w t s (some ⟨b, 0, none⟩) n f) {k j : Nat} (hk : k < n) (hj : j < s) (v : Value) :
 OwnL (w.setCell ⟨b, k * s + j, none⟩ v) t s (some ⟨b, 0, none⟩) n (fun k' j' => if k' = k ∧ j' = j then v else f k' j') := by
 rcases h with h | ⟨b', l, e, hr, hl, hc⟩
 · omega
 · cases e
   have hlt : k * s + j < l.length := by
    have h1 : (k + 1) * s ≤ n * s := Nat.mul_le_mul_right s hk
    rw [Nat.add_mul, Nat.one_mul] at h1
    omega
   refine Or.inr ⟨b, _, rfl, hr.set _ v, by simpa using hl, fun k' hk' j' hj' => ?_⟩
   rw [List.getElem?_set]
   by_cases e : k' = k ∧ j' = j
   · obtain ⟨rfl, rfl⟩ := e
     simp [hlt]
   · rw [if_neg (fun e2 => e (by have := divmod_inj hj hj' e2; exact ⟨this.1.symm, this.2.symm⟩))]
     simp only [if_neg e]
     exact hc k' hk' j' hj'
theorem OwnL.cellAt {w : World} {t : TypeId} {s b n : Nat} {f : Nat → Nat → Value} (h : OwnL w t s (some ⟨b, 0, none⟩) n f) {k j : Nat} (hk : k < n) (hj : j < s) : w.cell? ⟨b, k * s + j, none⟩ = some (f k j) ∧ w.frozen? ⟨b, k * s + j, none⟩ = false ∧ b < w.heap.size := by
 rcases h with h | ⟨b', l, e, hr, hl, hc⟩
 · omega
 · cases e
   exact ⟨hr.cell _ (hc k hk j hj), hr.frozen _, hr.lt⟩
theorem OwnL.some_of {w : World} {t : TypeId} {s n : Nat} {a : Option Addr} {f : Nat → Nat → Value} (h : OwnL w t s a n f) (hn : n ≠ 0) : ∃ b, a = some ⟨b, 0, none⟩ := by
 rcases h with h | ⟨b', l, e, hr, hl, hc⟩
 · exact absurd h hn
 · exact ⟨b', e⟩
theorem CapOf.set {w : World} {t : TypeId} {s b n c : Nat} (h : CapOf w t s (some ⟨b, 0, none⟩) n c) (i : Nat) (v : Value) : CapOf (w.setCell ⟨b, i, none⟩ v) t s (some ⟨b, 0, none⟩) n c := by
 rcases h with ⟨_, h, _⟩ | ⟨b', l, e, hr, hl, hn, hm⟩
 · cases h
 · cases e
   exact Or.inr ⟨b, _, rfl, hr.set i v, by simpa using hl, hn, hm⟩

/-- The cells of spots, those ahead of k with lists of their own. -/
def mixS (ps : List Spot) (k : Nat) (A : Nat → Option Addr) (C : Nat → Nat) (m : Nat → Option Addr) (c : Nat → Nat) (j : Nat) : Nat → Value :=
 if j < k then spotCell (gp ps j) (A j) (C j) else spotCell (gp ps j) (m j) (c j)
/-- Spots under way: those ahead of k own their lists, which lie from B on. -/
structure MidSpots (X : World) (B : Nat) (a : Option Addr) (ps : List Spot) (k : Nat) (A : Nat → Option Addr) (C : Nat → Nat) (m : Nat → Option Addr) (c : Nat → Nat) : Prop where
 row : OwnL X 72 5 a ps.length (mixS ps k A C m c)
 may : ∀ j, j < k → OwnL X 9 1 (A j) (gp ps j).may.length (strF (gp ps j).may)
 cap : ∀ j, j < k → (gp ps j).may.length ≤ C j
 from_ : ∀ j, j < k → ∀ y, InSlot (A j) (gp ps j).may.length y → B ≤ y
 each : ∀ i j, i < k → j < k → i ≠ j → ∀ y, InSlot (A i) (gp ps i).may.length y → ¬ InSlot (A j) (gp ps j).may.length y
theorem MidSpots.done {X : World} {B : Nat} {a : Option Addr} {ps : List Spot} {A : Nat → Option Addr} {C : Nat → Nat} {m : Nat → Option Addr} {c : Nat → Nat} (h : MidSpots X B a ps ps.length A C m c) (hB : ∀ y, InSlot a ps.length y → y < B) : OwnSpots X a ps A C :=
 ⟨h.row.congr (fun k hk j hj => by unfold mixS; rw [if_pos hk]), h.may, h.cap, fun k hk y hy hy' => by have := h.from_ k hk y hy; have := hB y hy'; omega, h.each⟩
theorem MidSpots.lt {X : World} {B : Nat} {a : Option Addr} {ps : List Spot} {k : Nat} {A : Nat → Option Addr} {C : Nat → Nat} {m : Nat → Option Addr} {c : Nat → Nat} (h : MidSpots X B a ps k A C m c) {j : Nat} (hj : j < k) {y : Nat} (hy : InSlot (A j) (gp ps j).may.length y) : y < X.heap.size := (h.may j hj).lt hy
/-- One more spot has a list of its own: made behind X, its place written into the row. -/
theorem MidSpots.next {X w4 : World} {B b1 : Nat} {ps : List Spot} {k : Nat} {A : Nat → Option Addr} {C : Nat → Nat} {m : Nat → Option Addr} {c : Nat → Nat} {a' : Option Addr} {c' : Nat} (h : MidSpots X B (some ⟨b1, 0, none⟩) ps k A C m c) (hk : k < ps.length) (hb : Below X.heap.size X w4) (hB : b1 < B) (hBX : B ≤ X.heap.size)
 (ho : OwnL w4 9 1 a' (gp ps k).may.length (strF (gp ps k).may)) (hlo : ∀ y, InSlot a' (gp ps k).may.length y → X.heap.size ≤ y) (hc : (gp ps k).may.length ≤ c') :
 MidSpots (w4.setCell ⟨b1, k * 5 + 4, none⟩ (.slice a' (gp ps k).may.length c')) B (some ⟨b1, 0, none⟩) ps (k + 1) (fun j => if j = k then a' else A j) (fun j => if j = k then c' else C j) m c := by
 have on := Only.cell w4 ⟨b1, k * 5 + 4, none⟩ (.slice a' (gp ps k).may.length c')
 refine ⟨?_, fun j hj => ?_, fun j hj => ?_, fun j hj y hy => ?_, fun i j hi hj hij y hy hy' => ?_⟩
 · refine ((h.row.later hb).setAt hk (by omega : 4 < 5) _).congr fun k' hk' j' hj' => ?_
   by_cases e : k' = k
   · subst e
     unfold mixS
     rw [if_pos (show k' < k' + 1 by omega)]
     match j', hj' with
     | 0, _ => simp [spotCell]
     | 1, _ => simp [spotCell]
     | 2, _ => simp [spotCell]
     | 3, _ => simp [spotCell]
     | 4, _ => simp [spotCell]
   · rw [if_neg (fun e' => e e'.1)]
     unfold mixS
     by_cases e2 : k' < k
     · rw [if_pos e2, if_pos (by omega)]
       simp only [if_neg e]
     · rw [if_neg e2, if_neg (by omega)]
 · by_cases e : j = k
   · subst e
     simp only [if_true]
     exact ho.only on (fun y hy e => by have := hlo y hy; have e' : y = b1 := e; omega)
   · simp only [if_neg e]
     exact ((h.may j (by omega)).later hb).only on (fun y hy e => by have := h.from_ j (by omega) y hy; have e' : y = b1 := e; omega)
 · by_cases e : j = k
   · subst e
     simp only [if_true]
     exact hc
   · simp only [if_neg e]
     exact h.cap j (by omega)
 · by_cases e : j = k
   · subst e
     simp only [if_true] at hy
     exact Nat.le_trans hBX (hlo y hy)
   · simp only [if_neg e] at hy
     exact h.from_ j (by omega) y hy
 · by_cases e : i = k
   · subst e
     have e2 : ¬ j = i := fun h => hij h.symm
     simp only [if_true] at hy
     simp only [if_neg e2] at hy'
     have := hlo y hy
     have := h.lt (by omega) hy'
     omega
   · simp only [if_neg e] at hy
     by_cases e2 : j = k
     · subst e2
       simp only [if_true] at hy'
       have := hlo y hy'
       have := h.lt (by omega) hy
       omega
     · simp only [if_neg e2] at hy'
       exact h.each i j (by omega) (by omega) hij y hy hy'

/-- The cells of parts, those ahead of k with lists of their own. -/
def mixP (ps : List Part) (k : Nat) (A : Nat → Nat → Option Addr) (C : Nat → Nat → Nat) (m : Nat → Nat → Option Addr) (c : Nat → Nat → Nat) (j : Nat) : Nat → Value :=
 if j < k then partCell (gq ps j) (fun f => A j (f - 2)) (fun f => C j (f - 2)) else partCell (gq ps j) (m j) (c j)
structure MidParts (X : World) (B : Nat) (a : Option Addr) (ps : List Part) (k : Nat) (A : Nat → Nat → Option Addr) (C : Nat → Nat → Nat) (m : Nat → Nat → Option Addr) (c : Nat → Nat → Nat) : Prop where
 row : OwnL X 61 7 a ps.length (mixP ps k A C m c)
 list : ∀ j, j < k → OwnLists X (gq ps j) (A j)
 from_ : ∀ j, j < k → ∀ y, InLists (gq ps j) (A j) y → B ≤ y
 each : ∀ i j, i < k → j < k → i ≠ j → ∀ y, InLists (gq ps i) (A i) y → ¬ InLists (gq ps j) (A j) y
theorem MidParts.done {X : World} {B : Nat} {a : Option Addr} {ps : List Part} {A : Nat → Nat → Option Addr} {C : Nat → Nat → Nat} {m : Nat → Nat → Option Addr} {c : Nat → Nat → Nat} (h : MidParts X B a ps ps.length A C m c) (hB : ∀ y, InSlot a ps.length y → y < B) : OwnParts X a ps A C := by
 refine ⟨h.row.congr (fun k hk j hj => by unfold mixP; rw [if_pos hk]), fun k hk c hc => (h.list k hk).list c hc, fun k hk c hc y hy hy' => ?_, fun i c j d hi hc hj hd hij y hy hy' => ?_⟩
 · have := h.from_ k hk y ⟨c, hc, hy⟩
   have := hB y hy'
   omega
 · by_cases e : i = j
   · subst e
     exact (h.list i hi).each c d hc hd (by omega) y hy hy'
   · exact h.each i j hi hj e y ⟨c, hc, hy⟩ ⟨d, hd, hy'⟩
theorem MidParts.lt {X : World} {B : Nat} {a : Option Addr} {ps : List Part} {k : Nat} {A : Nat → Nat → Option Addr} {C : Nat → Nat → Nat} {m : Nat → Nat → Option Addr} {c : Nat → Nat → Nat} (h : MidParts X B a ps k A C m c) {j : Nat} (hj : j < k) {y : Nat} (hy : InLists (gq ps j) (A j) y) : y < X.heap.size := (h.list j hj).lt hy
theorem MidParts.next {X w4 : World} {B b1 : Nat} {ps : List Part} {k : Nat} {A : Nat → Nat → Option Addr} {C : Nat → Nat → Nat} {m : Nat → Nat → Option Addr} {c : Nat → Nat → Nat} {A' : Nat → Option Addr} {C' : Nat → Nat} (h : MidParts X B (some ⟨b1, 0, none⟩) ps k A C m c) (hk : k < ps.length) (hb : Below X.heap.size X w4) (hB : b1 < B) (hBX : B ≤ X.heap.size)
 (ho : OwnLists w4 (gq ps k) A') (hlo : ∀ y, InLists (gq ps k) A' y → X.heap.size ≤ y) :
 MidParts ((((((w4.setCell ⟨b1, k * 7, none⟩ (.int .i64 (gq ps k).want.number)).setCell ⟨b1, k * 7 + 1, none⟩ (.int .i64 (gq ps k).want.kind)).setCell ⟨b1, k * 7 + 2, none⟩ (.slice (A' 0) (gq ps k).want.stuffs.length (C' 0))).setCell ⟨b1, k * 7 + 3, none⟩ (.slice (A' 1) (gq ps k).want.uses.length (C' 1))).setCell ⟨b1, k * 7 + 4, none⟩ (.slice (A' 2) (gq ps k).want.opens.length (C' 2))).setCell ⟨b1, k * 7 + 5, none⟩ (.slice (A' 3) (gq ps k).want.shuts.length (C' 3)))
  B (some ⟨b1, 0, none⟩) ps (k + 1) (fun j => if j = k then A' else A j) (fun j => if j = k then C' else C j) m c := by
 have on : ∀ (W : World) (i : Nat) (v : Value), Only (fun y => y = b1) W (W.setCell ⟨b1, i, none⟩ v) := fun W i v => Only.cell W ⟨b1, i, none⟩ v
 have on6 := (((((on w4 (k * 7) (.int .i64 (gq ps k).want.number)).trans (on _ (k * 7 + 1) (.int .i64 (gq ps k).want.kind))).trans (on _ (k * 7 + 2) (.slice (A' 0) (gq ps k).want.stuffs.length (C' 0)))).trans (on _ (k * 7 + 3) (.slice (A' 1) (gq ps k).want.uses.length (C' 1)))).trans (on _ (k * 7 + 4) (.slice (A' 2) (gq ps k).want.opens.length (C' 2)))).trans (on _ (k * 7 + 5) (.slice (A' 3) (gq ps k).want.shuts.length (C' 3)))
 refine ⟨?_, fun j hj => ?_, fun j hj y hy => ?_, fun i j hi hj hij y hy hy' => ?_⟩
 · refine (((((((h.row.later hb).setAt hk (by omega : 0 < 7) (.int .i64 (gq ps k).want.number)).setAt hk (by omega : 1 < 7) (.int .i64 (gq ps k).want.kind)).setAt hk (by omega : 2 < 7) (.slice (A' 0) (gq ps k).want.stuffs.length (C' 0))).setAt hk (by omega : 3 < 7) (.slice (A' 1) (gq ps k).want.uses.length (C' 1))).setAt hk (by omega : 4 < 7) (.slice (A' 2) (gq ps k).want.opens.length (C' 2))).setAt hk (by omega : 5 < 7) (.slice (A' 3) (gq ps k).want.shuts.length (C' 3))).congr fun k' hk' j' hj' => ?_
   by_cases e : k' = k
   · subst e
     unfold mixP
     rw [if_pos (show k' < k' + 1 by omega)]
     match j', hj' with
     | 0, _ => simp [partCell]
     | 1, _ => simp [partCell]
     | 2, _ => simp [partCell]
     | 3, _ => simp [partCell]
     | 4, _ => simp [partCell]
     | 5, _ => simp [partCell]
     | 6, _ => simp [partCell]
   · simp only [e, false_and, if_false]
     unfold mixP
     by_cases e2 : k' < k
     · rw [if_pos e2, if_pos (by omega)]
       simp only [if_neg e]
     · rw [if_neg e2, if_neg (by omega)]
 · by_cases e : j = k
   · subst e
     simp only [if_true]
     exact ho.only on6 (fun y hy e => by have := hlo y hy; have e' : y = b1 := e; omega)
   · simp only [if_neg e]
     exact ((h.list j (by omega)).later hb).only on6 (fun y hy e => by have := h.from_ j (by omega) y hy; have e' : y = b1 := e; omega)
 · by_cases e : j = k
   · subst e
     simp only [if_true] at hy
     exact Nat.le_trans hBX (hlo y hy)
   · simp only [if_neg e] at hy
     exact h.from_ j (by omega) y hy
 · by_cases e : i = k
   · subst e
     have e2 : ¬ j = i := fun h => hij h.symm
     simp only [if_true] at hy
     simp only [if_neg e2] at hy'
     have := hlo y hy
     have := h.lt (by omega) hy'
     omega
   · simp only [if_neg e] at hy
     by_cases e2 : j = k
     · subst e2
       simp only [if_true] at hy'
       have := hlo y hy'
       have := h.lt (by omega) hy
       omega
     · simp only [if_neg e2] at hy'
       exact h.each i j (by omega) (by omega) hij y hy hy'

end Go.Proofs.YtfmhkicncgccjaaGreat

/- What the law's own comparing functions answer of two copies of one book. -/
namespace Go.Proofs.YtfmhkicncgccjaaGreat
open Go.RowKit Go.Sort
set_option linter.unusedSimpArgs false
set_option linter.unusedVariables false

end Go.Proofs.YtfmhkicncgccjaaGreat

