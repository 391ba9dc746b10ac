/- Joined: StA, StB, StC. -/
import Derived.Test.YtfmhkicncgccjaaGreatSpD
import Derived.Test.YtfmhkicncgccjaaGreatSpB
import Derived.Test.YtfmhkicncgccjaaGreatSpF
import Derived.Test.YtfmhkicncgccjaaGreatSpE
import Derived.Test.YtfmhkicncgccjaaGreatSpJ
import Derived.Deep.RegionHeld3
/- Plain: the book behind ClaimStop; a part of an owned book is stopped. -/
namespace Go.Proofs.YtfmhkicncgccjaaGreat
open Go.RowKit Go.Sort
set_option linter.unusedSimpArgs false
set_option linter.unusedVariables false

def bookNil : Book := ⟨[], [], [], [], 0⟩
def stopAt (ps : List Part) (k : Nat) : List Part := ps.set k ⟨(gq ps k).want, true⟩
theorem stopAt_length (ps : List Part) (k : Nat) : (stopAt ps k).length = ps.length := by simp [stopAt]
theorem gq_stopAt {ps : List Part} {k : Nat} (hk : k < ps.length) (j : Nat) : gq (stopAt ps k) j = if j = k then ⟨(gq ps k).want, true⟩ else gq ps j := by
  by_cases e : j = k
  · subst e
    rw [if_pos rfl, gq_lt (by rw [stopAt_length]; exact hk)]
    simp [stopAt]
  · rw [if_neg e]
    unfold stopAt
    conv => lhs; unfold gq
    conv => rhs; unfold gq
    rw [List.getD_eq_getElem?_getD, List.getElem?_set, if_neg (fun h => e h.symm), List.getD_eq_getElem?_getD]
theorem stopAt_want {ps : List Part} {k : Nat} (hk : k < ps.length) (j : Nat) : (gq (stopAt ps k) j).want = (gq ps j).want := by
  rw [gq_stopAt hk]
  split
  · next e => rw [e]
  · rfl
theorem pL_want {p q : Part} (h : p.want = q.want) (c : Nat) : pL p c = pL q c := by
  unfold pL
  rw [h]
theorem pF_want {p q : Part} (h : p.want = q.want) (c : Nat) : pF p c = pF q c := by
  unfold pF
  rw [h]
/-- The book behind ClaimStop, and its code. -/
def stopB (x : Book) (n : Int) : Book :=
  if bookB x then (if 0 ≤ partI x.parts n then ⟨x.foes, x.spots, x.valves, stopAt x.parts (partI x.parts n).toNat, x.seen⟩ else x) else bookNil
def stopC (x : Book) (n : Int) : Int :=
  if bookB x then (if 0 ≤ partI x.parts n then 0 else 3) else 1

/-- A part is stopped, where the parts own their memory. -/
theorem OwnParts.stop {w : World} {b : Nat} {ps : List Part} {A : Nat → Nat → Option Addr} {C : Nat → Nat → Nat} (h : OwnParts w (some ⟨b, 0, none⟩) ps A C) {k : Nat} (hk : k < ps.length) :
    OwnParts (w.setCell ⟨b, k * 7 + 6, none⟩ (.bool true)) (some ⟨b, 0, none⟩) (stopAt ps k) A C := by
  have on := Only.cell w ⟨b, k * 7 + 6, none⟩ (.bool true)
  have e1 : ∀ j c, pL (gq (stopAt ps k) j) c = pL (gq ps j) c := fun j c => pL_want (stopAt_want hk j) c
  have e2 : ∀ j c, pF (gq (stopAt ps k) j) c = pF (gq ps j) c := fun j c => pF_want (stopAt_want hk j) c
  refine ⟨?_, fun j hj c hc => ?_, fun j hj c hc y hy => ?_, fun i c j d hi hc hj hd hij y hy => ?_⟩
  · rw [stopAt_length]
    refine (h.row.setAt hk (by omega : 6 < 7) (.bool true)).congr fun k' hk' j' hj' => ?_
    rw [gq_stopAt hk]
    by_cases e : k' = k
    · subst e
      simp only [if_true, true_and]
      match j', hj' with
      | 0, _ => rfl
      | 1, _ => rfl
      | 2, _ => rfl
      | 3, _ => rfl
      | 4, _ => rfl
      | 5, _ => rfl
      | 6, _ => rfl
    · simp only [e, false_and, if_false]
  · rw [stopAt_length] at hj
    rw [e1, e2]
    exact (h.list j hj c hc).only on (fun y hy e => h.apart j hj c hc y hy ⟨by omega, 0, by have e' : y = b := e; rw [e']⟩)
  · rw [stopAt_length] at hj ⊢
    rw [e1] at hy
    exact h.apart j hj c hc y hy
  · rw [stopAt_length] at hi hj
    rw [e1] at hy ⊢
    exact h.each i c j d hi hc hj hd hij y hy
theorem inPt_stop {a : Option Addr} {ps : List Part} {A : Nat → Nat → Option Addr} {k : Nat} (hk : k < ps.length) {y : Nat} : InPt a (stopAt ps k) A y ↔ InPt a ps A y := by
  unfold InPt
  rw [stopAt_length]
  constructor
  · rintro (h | ⟨j, hj, c, hc, h⟩)
    · exact Or.inl h
    · exact Or.inr ⟨j, hj, c, hc, by rw [pL_want (stopAt_want hk j)] at h; exact h⟩
  · rintro (h | ⟨j, hj, c, hc, h⟩)
    · exact Or.inl h
    · exact Or.inr ⟨j, hj, c, hc, by rw [pL_want (stopAt_want hk j)]; exact h⟩
theorem OwnBook.stop {w : World} {x : Book} {af ap av : Option Addr} {b : Nat} {A1 : Nat → Option Addr} {C1 : Nat → Nat} {A2 : Nat → Nat → Option Addr} {C2 : Nat → Nat → Nat} (h : OwnBook w x af ap av (some ⟨b, 0, none⟩) A1 C1 A2 C2) {k : Nat} (hk : k < x.parts.length) :
    OwnBook (w.setCell ⟨b, k * 7 + 6, none⟩ (.bool true)) ⟨x.foes, x.spots, x.valves, stopAt x.parts k, x.seen⟩ af ap av (some ⟨b, 0, none⟩) A1 C1 A2 C2 := by
  have on := Only.cell w ⟨b, k * 7 + 6, none⟩ (.bool true)
  have hb : InPt (some ⟨b, 0, none⟩) x.parts A2 b := Or.inl ⟨by omega, 0, rfl⟩
  refine ⟨h.foes.only on (fun y hy e => h.d03 y hy (by have e' : y = b := e; rw [e']; exact hb)), h.spots.only on (fun y hy e => h.d13 y hy (by have e' : y = b := e; rw [e']; exact hb)), h.valves.only on (fun y hy e => h.d23 y hy (by have e' : y = b := e; rw [e']; exact hb)), h.parts.stop hk, h.d01, h.d02, fun y hy hy' => h.d03 y hy ((inPt_stop hk).1 hy'), h.d12, fun y hy hy' => h.d13 y hy ((inPt_stop hk).1 hy'), fun y hy hy' => h.d23 y hy ((inPt_stop hk).1 hy')⟩
theorem ownBook_nil (w : World) : OwnBook w bookNil none none none none (fun _ => none) (fun _ => 0) (fun _ _ => none) (fun _ _ => 0) := by
  have e : ∀ y n, ¬ InSlot none n y := fun y n ⟨_, o, h⟩ => by cases h
  have s : ∀ y, ¬ InSp none bookNil.spots (fun _ => none) y := fun y h => h.elim (e y _) (fun ⟨k, _, h⟩ => e y _ h)
  have p : ∀ y, ¬ InPt none bookNil.parts (fun _ _ => none) y := fun y h => h.elim (e y _) (fun ⟨k, _, c, _, h⟩ => e y _ h)
  exact ⟨Or.inl rfl, ⟨Or.inl rfl, fun k hk => absurd hk (Nat.not_lt_zero _), fun k hk => absurd hk (Nat.not_lt_zero _), fun k hk => absurd hk (Nat.not_lt_zero _), fun i j hi => absurd hi (Nat.not_lt_zero _)⟩, Or.inl rfl, ⟨Or.inl rfl, fun k hk => absurd hk (Nat.not_lt_zero _), fun k hk => absurd hk (Nat.not_lt_zero _), fun i c j d hi => absurd hi (Nat.not_lt_zero _)⟩,
    fun y hy => absurd hy (e y _), fun y hy => absurd hy (e y _), fun y hy => absurd hy (e y _), fun y hy => absurd hy (s y), fun y hy => absurd hy (s y), fun y hy => absurd hy (e y _)⟩
theorem inBk_nil {y : Nat} : ¬ InBk bookNil none none none none (fun _ => none) (fun _ _ => none) y := by
  have e : ∀ y n, ¬ InSlot none n y := fun y n ⟨_, o, h⟩ => by cases h
  rintro (h | h | h | h)
  · exact e y _ h
  · exact h.elim (e y _) (fun ⟨k, _, h⟩ => e y _ h)
  · exact e y _ h
  · exact h.elim (e y _) (fun ⟨k, _, c, _, h⟩ => e y _ h)

end Go.Proofs.YtfmhkicncgccjaaGreat

/- What the specification's ClaimStop answers. -/
namespace Go.Proofs.YtfmhkicncgccjaaGreat
open Go.RowKit Go.Sort
set_option linter.unusedSimpArgs false
set_option linter.unusedVariables false

/-- A call that answers a book and a code: the book owns its memory, which lies from B on. -/
def Gives (B : Nat) (y : Book) (code : Int) (e : Ending) (w' : World) : Prop :=
  ∃ (f0 f1 f2 f3 : Option Addr) (k0 k1 k2 k3 : Nat) (A1 : Nat → Option Addr) (C1 : Nat → Nat) (A2 : Nat → Nat → Option Addr) (C2 : Nat → Nat → Nat), e = .returned (.tuple #[bookV y f0 f1 f2 f3 k0 k1 k2 k3, .int .i64 code]) ∧ OwnBook w' y f0 f1 f2 f3 A1 C1 A2 C2 ∧ ∀ q, InBk y f0 f1 f2 f3 A1 A2 q → B ≤ q

set_option maxRecDepth 100000 in
set_option maxHeartbeats 4000000 in
theorem specStop_own (x : Book) (af ap av aq : Option Addr) (cf cp cv cq : Nat) (n : Int) (w : World) (hin : BookIn w x af ap av aq) (fx : BookFit x) (R : BookRoom x) :
    Calls Tryz.prog 16 #[bookV x af ap av aq cf cp cv cq, .int .i64 n] w fun e w' => Gives w.heap.size (stopB x n) (stopC x n) e w' ∧ Below w.heap.size w w' := by
  unfold bookV
  obtain ⟨W0, hW0⟩ : ∃ W, W = (w.alloc (.cells #[.slice af x.foes.length cf, .slice ap x.spots.length cp, .slice av x.valves.length cv, .slice aq x.parts.length cq, .int .i64 x.seen] 28)).alloc (.cells #[.slice none 0 0, .slice none 0 0, .slice none 0 0, .slice none 0 0, .int .i64 0] 28) := ⟨_, rfl⟩
  have b0 : Below w.heap.size w W0 := by rw [hW0]; exact ((Below.refl _ _).alloc (Nat.le_refl _) _).alloc (by simp) _
  have i0 : Row W0 w.heap.size 28 [.slice af x.foes.length cf, .slice ap x.spots.length cp, .slice av x.valves.length cv, .slice aq x.parts.length cq, .int .i64 x.seen] := by rw [hW0]; exact (Row.new _ _ _).alloc _
  have z0 : Row W0 (w.heap.size + 1) 28 [.slice none 0 0, .slice none 0 0, .slice none 0 0, .slice none 0 0, .int .i64 0] := by
    rw [hW0]
    have := Row.new (w.alloc (.cells #[.slice af x.foes.length cf, .slice ap x.spots.length cp, .slice av x.valves.length cv, .slice aq x.parts.length cq, .int .i64 x.seen] 28)) 28 [.slice none 0 0, .slice none 0 0, .slice none 0 0, .slice none 0 0, .int .i64 0]
    simpa using this
  have sz0 : W0.heap.size = w.heap.size + 2 := by rw [hW0]; simp
  go_enter Tryz.func16, Tryz.ntmps16
  go_wp2_with fail
  rw [← hW0]
  clear hW0
  refine (specBookOk_any x af ap av aq cf cp cv cq W0 (hin.later b0) fx).mono ?_
  rintro e w1 ⟨rfl, hb⟩
  have b1 := b0.trans (hb.mono b0.size)
  have i1 := i0.later hb
  have z1 := z0.later hb
  have sz1 : w.heap.size + 2 ≤ w1.heap.size := by have := hb.size; omega
  clear b0 i0 z0 hb sz0
  have g0 := i1.cell 0 rfl
  have g1 := i1.cell 1 rfl
  have g2 := i1.cell 2 rfl
  have g3 := i1.cell 3 rfl
  have g4 := i1.cell 4 rfl
  cases hB : bookB x with
  | false =>
    have eB : stopB x n = bookNil := by simp [stopB, hB]
    have eC : stopC x n = 1 := by simp [stopC, hB]
    have r0 := z1.cell 0 rfl
    have r1 := z1.cell 1 rfl
    have r2 := z1.cell 2 rfl
    have r3 := z1.cell 3 rfl
    have r4 := z1.cell 4 rfl
    have l0 := z1.frozen 0
    have l1 := z1.frozen 1
    have l2 := z1.frozen 2
    have l3 := z1.frozen 3
    have l4 := z1.frozen 4
    go_wp2
    refine bodyPost_ret (v := .tuple #[.agg #[.slice none 0 0, .slice none 0 0, .slice none 0 0, .slice none 0 0, .int .i64 0], .int .i64 1])
      (by simp [results, Tryz.results16, go_sem, r0, r1, r2, r3, r4]) rfl ⟨?_, ?_⟩
    · rw [eB, eC]
      exact ⟨none, none, none, none, 0, 0, 0, 0, _, _, _, _, rfl, ownBook_nil _, fun q hq => absurd hq inBk_nil⟩
    · exact ((((b1.setCell (by simp) _).setCell (by simp) _).setCell (by simp) _).setCell (by simp) _).setCell (by simp) _
  | true =>
    go_wp2_with fail
    refine (l2Copy_own x af ap av aq cf cp cv cq w1 (hin.later b1) R).mono ?_
    rintro e w2 ⟨⟨f0, f1, f2, f3, k0, k1, k2, k3, A1, C1, A2, C2, rfl, own, -, -, lo⟩, hb⟩
    have b2 := b1.trans (hb.mono b1.size)
    have i2 := i1.later hb
    have z2 := z1.later hb
    have sz2 : w.heap.size + 2 ≤ w2.heap.size := by have := hb.size; omega
    clear b1 i1 z1 g0 g1 g2 g3 g4
    unfold bookV
    obtain ⟨W3, hW3⟩ : ∃ W, W = w2.alloc (.cells #[.slice f0 x.foes.length k0, .slice f1 x.spots.length k1, .slice f2 x.valves.length k2, .slice f3 x.parts.length k3, .int .i64 x.seen] 28) := ⟨_, rfl⟩
    have hb3 : Below w2.heap.size w2 W3 := by rw [hW3]; exact (Below.refl _ _).alloc (Nat.le_refl _) _
    have c3 : Row W3 w2.heap.size 28 [.slice f0 x.foes.length k0, .slice f1 x.spots.length k1, .slice f2 x.valves.length k2, .slice f3 x.parts.length k3, .int .i64 x.seen] := by rw [hW3]; exact Row.new _ _ _
    have b3 := b2.trans (hb3.mono b2.size)
    have i3 := i2.later hb3
    have z3 := z2.later hb3
    have own3 := own.later hb3
    have LO : Hid (∀ q, InBk x f0 f1 f2 f3 A1 A2 q → w.heap.size + 2 ≤ q ∧ q < w2.heap.size) := fun q hq => ⟨by have := lo q hq; omega, own.lt hq⟩
    clear b2 i2 z2 hb hb3 own lo
    have g0 := i3.cell 0 rfl
    have g1 := i3.cell 1 rfl
    have g2 := i3.cell 2 rfl
    have g3 := i3.cell 3 rfl
    have g4 := i3.cell 4 rfl
    rw [hW3] at g0 g1 g2 g3 g4
    go_wp2_with fail
    rw [← hW3]
    clear hW3 g0 g1 g2 g3 g4
    refine (l2Part_any x af ap av aq cf cp cv cq n W3 (hin.later b3).parts fx.parts.1).mono ?_
    rintro e w4 ⟨rfl, hb⟩
    have b4 := b3.trans (hb.mono b3.size)
    have z4 := z3.later hb
    have c4 := c3.later hb
    have own4 := own3.later hb
    clear b3 i3 z3 c3 own3 hb
    have h0 := c4.cell 0 rfl
    have h1 := c4.cell 1 rfl
    have h2 := c4.cell 2 rfl
    have h3 := c4.cell 3 rfl
    have h4 := c4.cell 4 rfl
    have r0 := z4.cell 0 rfl
    have r1 := z4.cell 1 rfl
    have r2 := z4.cell 2 rfl
    have r3 := z4.cell 3 rfl
    have r4 := z4.cell 4 rfl
    have l0 := z4.frozen 0
    have l1 := z4.frozen 1
    have l2 := z4.frozen 2
    have l3 := z4.frozen 3
    have l4 := z4.frozen 4
    have hne : w2.heap.size ≠ w.heap.size + 1 := by omega
    rcases partI_cases x.parts n with ⟨hp, -⟩ | ⟨j, hj, hp, -⟩
    · have HE : Hid (stopB x n = x ∧ stopC x n = 3) := ⟨by simp [stopB, hB, hp], by simp [stopC, hB, hp]⟩
      rw [hp]
      clear hp
      go_wp2
      refine bodyPost_ret (v := .tuple #[.agg #[.slice f0 x.foes.length k0, .slice f1 x.spots.length k1, .slice f2 x.valves.length k2, .slice f3 x.parts.length k3, .int .i64 x.seen], .int .i64 3])
        (by simp [results, Tryz.results16, go_sem, r0, r1, r2, r3, r4]) rfl ⟨?_, ?_⟩
      · rw [HE.out.1, HE.out.2]
        have g : ∀ y, InBk x f0 f1 f2 f3 A1 A2 y → ¬ y = w.heap.size + 1 := fun y hy => by have := LO.out y hy; omega
        exact ⟨f0, f1, f2, f3, k0, k1, k2, k3, A1, C1, A2, C2, rfl, ((((own4.only (Only.cell _ ⟨w.heap.size + 1, 0, none⟩ _) g).only (Only.cell _ ⟨w.heap.size + 1, 1, none⟩ _) g).only (Only.cell _ ⟨w.heap.size + 1, 2, none⟩ _) g).only (Only.cell _ ⟨w.heap.size + 1, 3, none⟩ _) g).only (Only.cell _ ⟨w.heap.size + 1, 4, none⟩ _) g, fun q hq => by have := LO.out q hq; omega⟩
      · exact ((((b4.setCell (by simp) _).setCell (by simp) _).setCell (by simp) _).setCell (by simp) _).setCell (by simp) _
    · have HE : Hid (stopB x n = ⟨x.foes, x.spots, x.valves, stopAt x.parts j, x.seen⟩ ∧ stopC x n = 0) := ⟨by simp [stopB, hB, hp], by simp [stopC, hB, hp]⟩
      rw [hp]
      clear hp
      obtain ⟨b, rfl⟩ := own4.parts.row.some_of (by omega)
      obtain ⟨c6, fz6, hbl⟩ := own4.parts.row.cellAt hj (by omega : 6 < 7)
      have st := own4.stop hj
      have hbb := LO.out b (Or.inr (Or.inr (Or.inr (Or.inl ⟨by omega, 0, rfl⟩))))
      have hj2 : (j : Int) < x.parts.length := by omega
      have hj0 : (0 : Int) ≤ j := by omega
      have hj1 : ¬ (j : Int) < 0 := by omega
      have hnb : w2.heap.size ≠ b := by omega
      have hnb1 : w.heap.size + 1 ≠ b := by omega
      have ST : Hid _ := st
      clear st own4
      go_wp2
      refine bodyPost_ret (v := .tuple #[.agg #[.slice f0 x.foes.length k0, .slice f1 x.spots.length k1, .slice f2 x.valves.length k2, .slice (some ⟨b, 0, none⟩) x.parts.length k3, .int .i64 x.seen], .int .i64 0])
        (by simp [results, Tryz.results16, go_sem, r0, r1, r2, r3, r4]) rfl ⟨?_, ?_⟩
      · rw [HE.out.1, HE.out.2]
        have LO' : ∀ q, InBk ⟨x.foes, x.spots, x.valves, stopAt x.parts j, x.seen⟩ f0 f1 f2 (some ⟨b, 0, none⟩) A1 A2 q → w.heap.size + 2 ≤ q := fun q hq => by
          rcases hq with hq | hq | hq | hq
          · exact (LO.out q (Or.inl hq)).1
          · exact (LO.out q (Or.inr (Or.inl hq))).1
          · exact (LO.out q (Or.inr (Or.inr (Or.inl hq)))).1
          · exact (LO.out q (Or.inr (Or.inr (Or.inr ((inPt_stop hj).1 hq))))).1
        have g : ∀ y, InBk ⟨x.foes, x.spots, x.valves, stopAt x.parts j, x.seen⟩ f0 f1 f2 (some ⟨b, 0, none⟩) A1 A2 y → ¬ y = w.heap.size + 1 := fun y hy => by have := LO' y hy; omega
        exact ⟨f0, f1, f2, _, k0, k1, k2, k3, A1, C1, A2, C2, by unfold bookV; rw [stopAt_length], ((((ST.out.only (Only.cell _ ⟨w.heap.size + 1, 0, none⟩ _) g).only (Only.cell _ ⟨w.heap.size + 1, 1, none⟩ _) g).only (Only.cell _ ⟨w.heap.size + 1, 2, none⟩ _) g).only (Only.cell _ ⟨w.heap.size + 1, 3, none⟩ _) g).only (Only.cell _ ⟨w.heap.size + 1, 4, none⟩ _) g, fun q hq => by have := LO' q hq; omega⟩
      · exact (((((b4.setCell (by simp; omega) _).setCell (by simp) _).setCell (by simp) _).setCell (by simp) _).setCell (by simp) _).setCell (by simp) _

end Go.Proofs.YtfmhkicncgccjaaGreat

/- What the program's stopCode, ClaimStop's change and behind answer. -/
namespace Go.Proofs.YtfmhkicncgccjaaGreat
open Go.RowKit Go.Sort
set_option linter.unusedSimpArgs false
set_option linter.unusedVariables false

set_option maxHeartbeats 2000000 in
theorem stopCode_any (x : Book) (af ap av aq : Option Addr) (cf cp cv cq : Nat) (n : Int) (w : World) (hin : BookIn w x af ap av aq) (fx : BookFit x) :
    Calls Tryz.prog 32 #[bookV x af ap av aq cf cp cv cq, .int .i64 n] w fun e w' => e = .returned (.int .i64 (stopC x n)) ∧ Below w.heap.size w w' := by
  unfold bookV
  have b0 : Below w.heap.size w (w.alloc (.cells #[.slice af x.foes.length cf, .slice ap x.spots.length cp, .slice av x.valves.length cv, .slice aq x.parts.length cq, .int .i64 x.seen] 28)) := (Below.refl _ _).alloc (Nat.le_refl _) _
  have i0 := Row.new w 28 [.slice af x.foes.length cf, .slice ap x.spots.length cp, .slice av x.valves.length cv, .slice aq x.parts.length cq, .int .i64 x.seen]
  go_enter Tryz.func32, Tryz.ntmps32
  go_wp2_with fail
  refine (implBookOk_any x af ap av aq cf cp cv cq _ (hin.later b0) fx).mono ?_
  rintro e w1 ⟨rfl, hb⟩
  have b1 := b0.trans (hb.mono b0.size)
  have i1 := i0.later hb
  clear b0 i0 hb
  have g3 := i1.cell 3 rfl
  cases hB : bookB x with
  | false =>
    have HE : Hid (stopC x n = 1) := (by simp [stopC, hB] : stopC x n = 1)
    go_wp2
    go_ret
    exact ⟨ret_int HE.out.symm, b1⟩
  | true =>
    go_wp2_with fail
    refine (partAt_any aq cq x.parts n _ (hin.later b1).parts fx.parts.1).mono ?_
    rintro e w2 ⟨rfl, hb⟩
    have b2 := b1.trans (hb.mono b1.size)
    clear b1 i1 hb g3
    rcases partI_cases x.parts n with ⟨hp, -⟩ | ⟨j, hj, hp, -⟩
    · have HE : Hid (stopC x n = 3) := (by simp [stopC, hB, hp] : stopC x n = 3)
      rw [hp]
      clear hp
      go_wp2
      go_ret
      exact ⟨ret_int HE.out.symm, b2⟩
    · have HE : Hid (stopC x n = 0) := (by simp [stopC, hB, hp] : stopC x n = 0)
      rw [hp]
      clear hp
      have hj1 : ¬ (j : Int) < 0 := by omega
      go_wp2
      go_ret
      exact ⟨ret_int HE.out.symm, b2⟩

set_option maxRecDepth 100000 in
set_option maxHeartbeats 2000000 in
theorem stopChange_any (ps : List Part) (B nb b cap j : Nat) (n : Int) (w : World) (hp : PartsAt w (some ⟨b, 0, none⟩) ps) (hl : ps.length ≤ maxLen) (h3 : w.cell? ⟨B, 3, none⟩ = some (.slice (some ⟨b, 0, none⟩) ps.length cap)) (hn : w.cell? ⟨nb, 0, none⟩ = some (.int .i64 n))
    (hj : j < ps.length) (hi : partI ps n = (j : Int)) (v6 : Value) (h6 : w.cell? ⟨b, j * 7 + 6, none⟩ = some v6) (f6 : w.frozen? ⟨b, j * 7 + 6, none⟩ = false) (hbB : b ≠ B) (hbn : b ≠ nb) :
    Calls Tryz.prog 33 #[.pointer (some ⟨B, 0, none⟩), .pointer (some ⟨nb, 0, none⟩)] w fun e w' => e = .returned (.tuple #[]) ∧ ∃ w1, Below w.heap.size w w1 ∧ w' = w1.setCell ⟨b, j * 7 + 6, none⟩ (.bool true) := by
  have hj2 : (j : Int) < ps.length := by omega
  have hj0 : (0 : Int) ≤ j := by omega
  have hbl := block_lt_of_cell h6
  dsimp only at hbl
  have hS : ∀ W, Below w.heap.size w W → (W.cell? ⟨B, 3, none⟩ = some (.slice (some ⟨b, 0, none⟩) ps.length cap) ∧ W.cell? ⟨nb, 0, none⟩ = some (.int .i64 n)) := fun W h => ⟨cell_later h h3, cell_later h hn⟩
  have hS2 : ∀ W v, Below w.heap.size w W → ((W.setCell ⟨b, j * 7 + 6, none⟩ v).cell? ⟨B, 3, none⟩ = some (.slice (some ⟨b, 0, none⟩) ps.length cap) ∧ (W.setCell ⟨b, j * 7 + 6, none⟩ v).cell? ⟨nb, 0, none⟩ = some (.int .i64 n)) := fun W v h =>
    ⟨(World.cell?_of_block (w := W) (Go.Deep.blk_setCell_other _ _ _ _ (fun e => hbB e.symm))).trans (cell_later h h3), (World.cell?_of_block (w := W) (Go.Deep.blk_setCell_other _ _ _ _ (fun e => hbn e.symm))).trans (cell_later h hn)⟩
  have hPart : ∀ W, Below w.heap.size w W → Calls Tryz.prog 34 #[.slice (some ⟨b, 0, none⟩) ps.length cap, .int .i64 n] W fun e w' => e = .returned (.int .i64 j) ∧ Below W.heap.size W w' := fun W h => by
    have := partAt_any (some ⟨b, 0, none⟩) cap ps n W (hp.later h) hl
    rw [hi] at this
    exact this
  have HI : Hid (partI ps n = (j : Int)) := hi
  clear hi hp
  go_enter Tryz.func33, Tryz.ntmps33
  go_wp2_with fail
  go_region_held3 (fun W => (W.cell? ⟨B, 3, none⟩ = some (.slice (some ⟨b, 0, none⟩) ps.length cap) ∧ W.cell? ⟨nb, 0, none⟩ = some (.int .i64 n)))
    (first | (with_reducible refine hS2 _ _ ?_; (repeat (first | assumption | exact Below.refl _ _ | refine Below.drew ?_)); done) | (refine hS _ ?_; (repeat (first | assumption | exact Below.refl _ _ | refine Below.drew ?_)); done))
    (first | (go_at_call 34; refine (hPart _ (by (repeat (first | assumption | exact Below.refl _ _ | refine Below.drew ?_)))).mono ?_; rintro e w1 ⟨rfl, hb⟩; have hb1 : RowKit.Below w.heap.size w w1 := (by refine Below.trans ?_ (Below.mono hb (Nat.le_refl _)); (repeat (first | assumption | exact Below.refl _ _ | refine Below.drew ?_))); have h61 := cell_later hb1 h6; have f61 : w1.frozen? ⟨b, j * 7 + 6, none⟩ = false := (by rw [hb1.frozen (p := ⟨b, j * 7 + 6, none⟩) hbl]; exact f6)))
  all_goals
    rename_i hHeld
    clear hHeld hS hS2 hPart
    go_wp2
    refine bodyPost_end (results_none rfl _ _ _) rfl ?_
    exact ⟨rfl, w1, hb1, rfl⟩

end Go.Proofs.YtfmhkicncgccjaaGreat

