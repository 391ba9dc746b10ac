/- Joined: OwG, OwQ, OwR, OwT. -/
import Derived.Test.YtfmhkicncgccjaaGreatFm10
import Derived.Deep.RegionHeld3
import Derived.Deep.DeepCutAuto
/- What the program's fresh wants own. -/
namespace Go.Proofs.YtfmhkicncgccjaaGreat
open Go.RowKit Go.Sort
set_option linter.unusedSimpArgs false
set_option linter.unusedVariables false

/-- The lists of a part's want, each in memory of its own. -/
structure OwnLists (w : World) (p : Part) (A : Nat → Option Addr) : Prop where
 list : ∀ c, c < 4 → OwnL w (tS c) (sS c) (A c) (pL p c) (pF p c)
 each : ∀ c d, c < 4 → d < 4 → c ≠ d → ∀ y, InSlot (A c) (pL p c) y → ¬ InSlot (A d) (pL p d) y
def InLists (p : Part) (A : Nat → Option Addr) (y : Nat) : Prop := ∃ c, c < 4 ∧ InSlot (A c) (pL p c) y
theorem OwnLists.only {B : Nat → Prop} {w w' : World} {p : Part} {A : Nat → Option Addr} (h : OwnLists w p A) (ho : Only B w w') (hB : ∀ y, InLists p A y → ¬ B y) : OwnLists w' p A :=
 ⟨fun c hc => (h.list c hc).only ho (fun y hy => hB y ⟨c, hc, hy⟩), h.each⟩
theorem OwnLists.later {w w' : World} {p : Part} {A : Nat → Option Addr} (h : OwnLists w p A) (hb : Below w.heap.size w w') : OwnLists w' p A := h.only (Only.of (B := fun _ => False) hb) (fun _ _ => id)
theorem OwnLists.lt {w : World} {p : Part} {A : Nat → Option Addr} (h : OwnLists w p A) {y : Nat} (hy : InLists p A y) : y < w.heap.size := by
 obtain ⟨c, hc, hy⟩ := hy
 exact (h.list c hc).lt hy
def fourA (a b c d : Option Addr) : Nat → Option Addr
 | 0 => a
 | 1 => b
 | 2 => c
 | _ => d
def fourN (a b c d : Nat) : Nat → Nat
 | 0 => a
 | 1 => b
 | 2 => c
 | _ => d
theorem ownLists_of {w : World} {p : Part} {a2 a3 a4 a5 : Option Addr} {s1 s2 s3 : Nat}
 (h2 : OwnL w 9 1 a2 p.want.stuffs.length (strF p.want.stuffs)) (h3 : OwnL w 101 3 a3 p.want.uses.length (useF p.want.uses))
 (h4 : OwnL w 9 1 a4 p.want.opens.length (strF p.want.opens)) (h5 : OwnL w 9 1 a5 p.want.shuts.length (strF p.want.shuts))
 (o2 : ∀ y, InSlot a2 p.want.stuffs.length y → y < s1) (o3 : ∀ y, InSlot a3 p.want.uses.length y → s1 ≤ y ∧ y < s2) (o4 : ∀ y, InSlot a4 p.want.opens.length y → s2 ≤ y ∧ y < s3) (o5 : ∀ y, InSlot a5 p.want.shuts.length y → s3 ≤ y) (l12 : s1 ≤ s2) (l23 : s2 ≤ s3) :
 OwnLists w p (fourA a2 a3 a4 a5) := by
 refine ⟨fun c hc => ?_, fun c d hc hd hcd y hy hy' => ?_⟩
 · match c, hc with
   | 0, _ => exact h2
   | 1, _ => exact h3
   | 2, _ => exact h4
   | 3, _ => exact h5
 · match c, hc, d, hd with
   | 0, _, 0, _ => exact hcd rfl
   | 0, _, 1, _ => have := o2 y hy; have := o3 y hy'; omega
   | 0, _, 2, _ => have := o2 y hy; have := o4 y hy'; omega
   | 0, _, 3, _ => have := o2 y hy; have := o5 y hy'; omega
   | 1, _, 0, _ => have := o2 y hy'; have := o3 y hy; omega
   | 1, _, 1, _ => exact hcd rfl
   | 1, _, 2, _ => have := o3 y hy; have := o4 y hy'; omega
   | 1, _, 3, _ => have := o3 y hy; have := o5 y hy'; omega
   | 2, _, 0, _ => have := o2 y hy'; have := o4 y hy; omega
   | 2, _, 1, _ => have := o3 y hy'; have := o4 y hy; omega
   | 2, _, 2, _ => exact hcd rfl
   | 2, _, 3, _ => have := o4 y hy; have := o5 y hy'; omega
   | 3, _, 0, _ => have := o2 y hy'; have := o5 y hy; omega
   | 3, _, 1, _ => have := o3 y hy'; have := o5 y hy; omega
   | 3, _, 2, _ => have := o4 y hy'; have := o5 y hy; omega
   | 3, _, 3, _ => exact hcd rfl

set_option maxRecDepth 100000 in
set_option maxHeartbeats 2000000 in
theorem freshWant_own (p : Part) (a2 a3 a4 a5 : Option Addr) (c2 c3 c4 c5 : Nat) (w : World) (hin : WantIn w p.want a2 a3 a4 a5) (hr : WantRoom p.want) :
 Calls Tryz.prog 124 #[wantW p.want a2 a3 a4 a5 c2 c3 c4 c5] w fun e w' => (∃ (A : Nat → Option Addr) (C : Nat → Nat), e = .returned (wantW p.want (A 0) (A 1) (A 2) (A 3) (C 0) (C 1) (C 2) (C 3)) ∧ OwnLists w' p A ∧ ∀ y, InLists p A y → w.heap.size ≤ y) ∧ Below w.heap.size w w' := by
 have r2 := hr.stuffs
 have r3 := hr.uses
 have r4 := hr.opens
 have r5 := hr.shuts
 unfold wantW
 obtain ⟨W0, hW0⟩ : ∃ W, W = (w.alloc (.cells #[.int .i64 p.want.number, .int .i64 p.want.kind, .slice a2 p.want.stuffs.length c2, .slice a3 p.want.uses.length c3, .slice a4 p.want.opens.length c4, .slice a5 p.want.shuts.length c5] 38)).alloc (.cells #[.int .i64 0, .int .i64 0, .slice none 0 0, .slice none 0 0, .slice none 0 0, .slice none 0 0] 38) := ⟨_, rfl⟩
 have b0 : Below w.heap.size w W0 := by rw [hW0]; exact ((Below.refl _ _).alloc (Nat.le_refl _) _).alloc (by simp) _
 have i0 : Row W0 w.heap.size 38 [.int .i64 p.want.number, .int .i64 p.want.kind, .slice a2 p.want.stuffs.length c2, .slice a3 p.want.uses.length c3, .slice a4 p.want.opens.length c4, .slice a5 p.want.shuts.length c5] := by rw [hW0]; exact (Row.new _ _ _).alloc _
 have z0 : Row W0 (w.heap.size + 1) 38 [.int .i64 0, .int .i64 0, .slice none 0 0, .slice none 0 0, .slice none 0 0, .slice none 0 0] := by
  rw [hW0]
  have := Row.new (w.alloc (.cells #[.int .i64 p.want.number, .int .i64 p.want.kind, .slice a2 p.want.stuffs.length c2, .slice a3 p.want.uses.length c3, .slice a4 p.want.opens.length c4, .slice a5 p.want.shuts.length c5] 38)) 38 [.int .i64 0, .int .i64 0, .slice none 0 0, .slice none 0 0, .slice none 0 0, .slice none 0 0]
  simpa using this
 have sz0 : W0.heap.size = w.heap.size + 2 := by rw [hW0]; simp
 have hne : w.heap.size + 1 ≠ w.heap.size := by omega
 go_enter Tryz.func124, Tryz.ntmps124
 go_wp2_with fail
 rw [← hW0]
 clear hW0
 refine (freshS_own a2 p.want.stuffs.length c2 (strF p.want.stuffs) W0 (hin.later b0).stuffs (oneStr _) r2).mono ?_
 rintro e w1 ⟨⟨d2, k2, rfl, s2, -, lo2, -⟩, hb⟩
 have b1 := b0.trans (hb.mono b0.size)
 have i1 := i0.later hb
 have z1 := z0.later hb
 have sz1 : w.heap.size + 2 ≤ w1.heap.size := by have := hb.size; omega
 have O2 : Hid (∀ y, InSlot d2 p.want.stuffs.length y → w.heap.size + 2 ≤ y ∧ y < w1.heap.size) := fun y hy => ⟨by have := lo2 y hy.2; omega, s2.lt hy⟩
 clear b0 i0 z0 hb sz0 lo2
 have q3 := i1.cell 3 rfl
 have f2 := i1.frozen 2
 have g2 := i1.cell 2 rfl
 go_wp2_with fail
 obtain ⟨W1, hW1⟩ : ∃ W, W = w1.setCell ⟨w.heap.size, 2, none⟩ (.slice d2 p.want.stuffs.length k2) := ⟨_, rfl⟩
 have b1 : Below w.heap.size w W1 := by rw [hW1]; exact b1.setCell (by simp) _
 have i1 := i1.set 2 (.slice d2 p.want.stuffs.length k2)
 have z1 := z1.other (a := ⟨w.heap.size, 2, none⟩) hne (.slice d2 p.want.stuffs.length k2)
 have s2 := s2.only (Only.cell _ ⟨w.heap.size, 2, none⟩ (.slice d2 p.want.stuffs.length k2)) (fun y hy e => by have := O2.out y hy; simp only at e; omega)
 have sW1 : W1.heap.size = w1.heap.size := by rw [hW1, Go.Deep.nblk_setCell]
 rw [← hW1] at i1 z1 s2 ⊢
 clear hW1 q3 f2 g2
 refine (freshU_own a3 p.want.uses.length c3 (useF p.want.uses) W1 (hin.later b1).uses (oneUse _) r3).mono ?_
 rintro e w2 ⟨⟨d3, k3, rfl, s3, -, lo3, -⟩, hb⟩
 have b2 := b1.trans (hb.mono b1.size)
 have i2 := i1.later hb
 have z2 := z1.later hb
 have s2 := s2.later hb
 have sz2 : w1.heap.size ≤ w2.heap.size := by have := hb.size; omega
 have O3 : Hid (∀ y, InSlot d3 p.want.uses.length y → w1.heap.size ≤ y ∧ y < w2.heap.size) := fun y hy => ⟨by have := lo3 y hy.2; omega, s3.lt hy⟩
 clear b1 i1 z1 hb sW1 lo3
 have q4 := i2.cell 4 rfl
 have f3 := i2.frozen 3
 have g3 := i2.cell 3 rfl
 go_wp2_with fail
 obtain ⟨W2, hW2⟩ : ∃ W, W = w2.setCell ⟨w.heap.size, 3, none⟩ (.slice d3 p.want.uses.length k3) := ⟨_, rfl⟩
 have b2 : Below w.heap.size w W2 := by rw [hW2]; exact b2.setCell (by simp) _
 have i2 := i2.set 3 (.slice d3 p.want.uses.length k3)
 have z2 := z2.other (a := ⟨w.heap.size, 3, none⟩) hne (.slice d3 p.want.uses.length k3)
 have s2 := s2.only (Only.cell _ ⟨w.heap.size, 3, none⟩ (.slice d3 p.want.uses.length k3)) (fun y hy e => by have := O2.out y hy; simp only at e; omega)
 have s3 := s3.only (Only.cell _ ⟨w.heap.size, 3, none⟩ (.slice d3 p.want.uses.length k3)) (fun y hy e => by have := O3.out y hy; simp only at e; omega)
 have sW2 : W2.heap.size = w2.heap.size := by rw [hW2, Go.Deep.nblk_setCell]
 rw [← hW2] at i2 z2 s2 s3 ⊢
 clear hW2 q4 f3 g3
 refine (freshS_own a4 p.want.opens.length c4 (strF p.want.opens) W2 (hin.later b2).opens (oneStr _) r4).mono ?_
 rintro e w3 ⟨⟨d4, k4, rfl, s4, -, lo4, -⟩, hb⟩
 have b3 := b2.trans (hb.mono b2.size)
 have i3 := i2.later hb
 have z3 := z2.later hb
 have s2 := s2.later hb
 have s3 := s3.later hb
 have sz3 : w2.heap.size ≤ w3.heap.size := by have := hb.size; omega
 have O4 : Hid (∀ y, InSlot d4 p.want.opens.length y → w2.heap.size ≤ y ∧ y < w3.heap.size) := fun y hy => ⟨by have := lo4 y hy.2; omega, s4.lt hy⟩
 clear b2 i2 z2 hb sW2 lo4
 have q5 := i3.cell 5 rfl
 have f4 := i3.frozen 4
 have g4 := i3.cell 4 rfl
 go_wp2_with fail
 obtain ⟨W3, hW3⟩ : ∃ W, W = w3.setCell ⟨w.heap.size, 4, none⟩ (.slice d4 p.want.opens.length k4) := ⟨_, rfl⟩
 have b3 : Below w.heap.size w W3 := by rw [hW3]; exact b3.setCell (by simp) _
 have i3 := i3.set 4 (.slice d4 p.want.opens.length k4)
 have z3 := z3.other (a := ⟨w.heap.size, 4, none⟩) hne (.slice d4 p.want.opens.length k4)
 have s2 := s2.only (Only.cell _ ⟨w.heap.size, 4, none⟩ (.slice d4 p.want.opens.length k4)) (fun y hy e => by have := O2.out y hy; simp only at e; omega)
 have s3 := s3.only (Only.cell _ ⟨w.heap.size, 4, none⟩ (.slice d4 p.want.opens.length k4)) (fun y hy e => by have := O3.out y hy; simp only at e; omega)
 have s4 := s4.only (Only.cell _ ⟨w.heap.size, 4, none⟩ (.slice d4 p.want.opens.length k4)) (fun y hy e => by have := O4.out y hy; simp only at e; omega)
 have sW3 : W3.heap.size = w3.heap.size := by rw [hW3, Go.Deep.nblk_setCell]
 rw [← hW3] at i3 z3 s2 s3 s4 ⊢
 clear hW3 q5 f4 g4
 refine (freshS_own a5 p.want.shuts.length c5 (strF p.want.shuts) W3 (hin.later b3).shuts (oneStr _) r5).mono ?_
 rintro e w4 ⟨⟨d5, k5, rfl, s5, -, lo5, -⟩, hb⟩
 have b4 := b3.trans (hb.mono b3.size)
 have i4 := i3.later hb
 have z4 := z3.later hb
 have s2 := s2.later hb
 have s3 := s3.later hb
 have s4 := s4.later hb
 have O5 : Hid (∀ y, InSlot d5 p.want.shuts.length y → w3.heap.size ≤ y) := fun y hy => by have := lo5 y hy.2; omega
 have own := ownLists_of s2 s3 s4 s5 (s1 := w1.heap.size) (s2 := w2.heap.size) (s3 := w3.heap.size) (fun y hy => (O2.out y hy).2) (fun y hy => O3.out y hy) (fun y hy => O4.out y hy) (fun y hy => O5.out y hy) sz2 sz3
 have LO : Hid (∀ y, InLists p (fourA d2 d3 d4 d5) y → w.heap.size + 2 ≤ y) := fun y ⟨c, hc, hy⟩ => by
  match c, hc with
  | 0, _ => have := O2.out y hy; omega
  | 1, _ => have := O3.out y hy; omega
  | 2, _ => have := O4.out y hy; omega
  | 3, _ => have := O5.out y hy; omega
 have OWN : Hid _ := own
 clear b3 i3 z3 hb sW3 lo5 O2 O3 O4 O5 s2 s3 s4 s5 own
 have f5 := i4.frozen 5
 have g0 := i4.cell 0 rfl
 have g1 := i4.cell 1 rfl
 have g2 := i4.cell 2 rfl
 have g3 := i4.cell 3 rfl
 have g4 := i4.cell 4 rfl
 have g5 := i4.cell 5 rfl
 have r0 := z4.cell 0 rfl
 have r1 := z4.cell 1 rfl
 have r2 := z4.cell 2 rfl
 have r3 := z4.cell 3 rfl
 have r4 := z4.cell 4 rfl
 have r5 := z4.cell 5 rfl
 have k0' := z4.frozen 0
 have k1' := z4.frozen 1
 have k2' := z4.frozen 2
 have k3' := z4.frozen 3
 have k4' := z4.frozen 4
 have k5' := z4.frozen 5
 go_wp2
 refine bodyPost_ret (v := .agg #[.int .i64 p.want.number, .int .i64 p.want.kind, .slice d2 p.want.stuffs.length k2, .slice d3 p.want.uses.length k3, .slice d4 p.want.opens.length k4, .slice d5 p.want.shuts.length k5])
  (by simp [results, Tryz.results124, go_sem, r0, r1, r2, r3, r4, r5]) rfl ⟨⟨fourA d2 d3 d4 d5, fourN k2 k3 k4 k5, rfl, ?_, fun y hy => by have := LO.out y hy; omega⟩, ?_⟩
 · have g1 : ∀ y, InLists p (fourA d2 d3 d4 d5) y → ¬ y = w.heap.size + 1 := fun y hy => by have := LO.out y hy; omega
   have g2 : ∀ y, InLists p (fourA d2 d3 d4 d5) y → ¬ y = w.heap.size := fun y hy => by have := LO.out y hy; omega
   exact ((((((OWN.out.only (Only.cell _ ⟨w.heap.size, 5, none⟩ _) g2).only (Only.cell _ ⟨w.heap.size + 1, 0, none⟩ _) g1).only (Only.cell _ ⟨w.heap.size + 1, 1, none⟩ _) g1).only (Only.cell _ ⟨w.heap.size + 1, 2, none⟩ _) g1).only (Only.cell _ ⟨w.heap.size + 1, 3, none⟩ _) g1).only (Only.cell _ ⟨w.heap.size + 1, 4, none⟩ _) g1).only (Only.cell _ ⟨w.heap.size + 1, 5, none⟩ _) g1
 · exact ((((((b4.setCell (by simp) _).setCell (by simp) _).setCell (by simp) _).setCell (by simp) _).setCell (by simp) _).setCell (by simp) _).setCell (by simp) _

end Go.Proofs.YtfmhkicncgccjaaGreat

/- Lists that grow by one; what the specification's copies of lists and wants own. -/
namespace Go.Proofs.YtfmhkicncgccjaaGreat
open Go.RowKit Go.Sort
set_option linter.unusedSimpArgs false
set_option linter.unusedVariables false

theorem wpList_append_new {P : Program} {w : World} {ops : Array Oper} {rest : List Oper} {o : Oper} {a : Act} {Q : Exit → Act → World → Prop} (hgd : o.guard = none) (s x : Operand) {t e : TypeId} {size : Nat}
 (ho : o.op = .call { callee := .builtin .append, args := #[s, x], argTypes := #[t, t] }) (hT : SliceT P t e size)
 (a0 : Option Addr) (c0 : Nat) (hs : a.eval s = .slice a0 0 c0) (hc : CapOf w e size a0 0 c0)
 (ax : Option Addr) (m c : Nat) (g : Nat → Nat → Value) (hxe : a.eval x = .slice ax m c) (hx : RowAt w ax m size g) (h1 : ∀ k j, (g k j).oneCell' = true) (hn : m ≤ 16777216)
 (h : ∀ a' c' w', OwnL w' e size a' m g → CapOf w' e size a' m c' → (∀ y, InAddr a' y → InAddr a0 y ∨ y = w.heap.size) → Only (InAddr a0) w w' → wpList P ops Q rest (a.put o.dst (.slice a' m c')) w') : wpList P ops Q (o :: rest) a w := by
 refine wpList_append_row hgd s x ho hT a0 0 c0 g hs (ownL_zero _ _ _ _ _) hc ax m c g hxe hx h1 (by omega) ?_
 intro a' c' w' ap
 have h2 := ap.own
 have h3 := ap.cap
 rw [Nat.zero_add] at h2 h3 ⊢
 exact h a' c' w' (h2.congr (fun k hk j hj => by have := behindF_ge (n := 0) (f := g) (g := g) (k := k) (j := j); rw [Nat.zero_add] at this; exact this)) h3 ap.at_ ap.only
theorem gp_snoc_lt {ps : List Spot} {s : Spot} {k : Nat} (h : k < ps.length) : gp (ps ++ [s]) k = gp ps k := by
 unfold gp; rw [List.getD_eq_getElem?_getD, List.getElem?_append_left h, ← List.getD_eq_getElem?_getD]
theorem gp_snoc_eq {ps : List Spot} {s : Spot} : gp (ps ++ [s]) ps.length = s := by
 unfold gp; rw [List.getD_eq_getElem?_getD, List.getElem?_append_right (Nat.le_refl _)]; simp
theorem gq_snoc_lt {ps : List Part} {s : Part} {k : Nat} (h : k < ps.length) : gq (ps ++ [s]) k = gq ps k := by
 unfold gq; rw [List.getD_eq_getElem?_getD, List.getElem?_append_left h, ← List.getD_eq_getElem?_getD]
theorem gq_snoc_eq {ps : List Part} {s : Part} : gq (ps ++ [s]) ps.length = s := by
 unfold gq; rw [List.getD_eq_getElem?_getD, List.getElem?_append_right (Nat.le_refl _)]; simp

/-- One spot more, behind the others. -/
theorem OwnSpots.snoc {w w' : World} {a : Option Addr} {ps : List Spot} {A : Nat → Option Addr} {C : Nat → Nat} {s : Spot} {m : Option Addr} {c : Nat} {a' : Option Addr} {c' : Nat} (h : OwnSpots w a ps A C)
 (ap : Appended 72 5 w w' a ps.length 1 (fun k => spotCell (gp ps k) (A k) (C k)) (fun _ => spotCell s m c) a' c')
 (ho : OwnL w 9 1 m s.may.length (strF s.may)) (hc : s.may.length ≤ c) (d1 : ∀ y, InSlot m s.may.length y → ¬ InAddr a y) (d2 : ∀ k, k < ps.length → ∀ y, InSlot m s.may.length y → ¬ InSlot (A k) (gp ps k).may.length y) :
 OwnSpots w' a' (ps ++ [s]) (fun k => if k = ps.length then m else A k) (fun k => if k = ps.length then c else C k) := by
 have hl : (ps ++ [s]).length = ps.length + 1 := by simp
 have far : ∀ k, k < ps.length → ∀ y, InSlot (A k) (gp ps k).may.length y → ¬ InAddr a y := fun k hk y hy hy' => h.apart k hk y hy ⟨by omega, hy'⟩
 have lt : ∀ k, k < ps.length → ∀ y, InSlot (A k) (gp ps k).may.length y → y < w.heap.size := fun k hk y hy => (h.may k hk).lt hy
 refine ⟨?_, fun k hk => ?_, fun k hk => ?_, fun k hk y hy hy' => ?_, fun i j hi hj hij y hy hy' => ?_⟩
 · rw [hl]
   refine ap.own.congr fun k hk j hj => ?_
   by_cases e : k < ps.length
   · rw [behindF_lt e, gp_snoc_lt e]
     simp only [if_neg (show ¬ k = ps.length by omega)]
   · have e2 : k = ps.length := by omega
     subst e2
     have := behindF_ge (n := ps.length) (f := fun k => spotCell (gp ps k) (A k) (C k)) (g := fun _ => spotCell s m c) (k := 0) (j := j)
     rw [Nat.add_zero] at this
     rw [this, gp_snoc_eq]
     simp only [if_true]
 · rw [hl] at hk
   by_cases e : k = ps.length
   · subst e
     rw [gp_snoc_eq]
     simp only [if_true]
     exact ho.only ap.only d1
   · rw [gp_snoc_lt (by omega)]
     simp only [if_neg e]
     exact (h.may k (by omega)).only ap.only (far k (by omega))
 · rw [hl] at hk
   by_cases e : k = ps.length
   · subst e
     rw [gp_snoc_eq]
     simp only [if_true]
     exact hc
   · rw [gp_snoc_lt (by omega)]
     simp only [if_neg e]
     exact h.cap k (by omega)
 · rw [hl] at hk
   by_cases e : k = ps.length
   · subst e
     rw [gp_snoc_eq] at hy
     simp only [if_true] at hy
     rcases ap.at_ y hy'.2 with h1 | h1
     · exact d1 y hy h1
     · have := ho.lt hy; omega
   · rw [gp_snoc_lt (by omega)] at hy
     simp only [if_neg e] at hy
     rcases ap.at_ y hy'.2 with h1 | h1
     · exact far k (by omega) y hy h1
     · have := lt k (by omega) y hy; omega
 · rw [hl] at hi hj
   by_cases e : i = ps.length
   · subst e
     have e2 : ¬ j = ps.length := fun h => hij h.symm
     rw [gp_snoc_eq] at hy
     rw [gp_snoc_lt (by omega)] at hy'
     simp only [if_true] at hy
     simp only [if_neg e2] at hy'
     exact d2 j (by omega) y hy hy'
   · rw [gp_snoc_lt (by omega)] at hy
     simp only [if_neg e] at hy
     by_cases e2 : j = ps.length
     · subst e2
       rw [gp_snoc_eq] at hy'
       simp only [if_true] at hy'
       exact d2 i (by omega) y hy' hy
     · rw [gp_snoc_lt (by omega)] at hy'
       simp only [if_neg e2] at hy'
       exact h.each i j (by omega) (by omega) hij y hy hy'

/-- One part more, behind the others. -/
theorem OwnParts.snoc {w w' : World} {a : Option Addr} {ps : List Part} {A : Nat → Nat → Option Addr} {C : Nat → Nat → Nat} {p : Part} {M : Nat → Option Addr} {D : Nat → Nat} {a' : Option Addr} {c' : Nat} (h : OwnParts w a ps A C)
 (ap : Appended 61 7 w w' a ps.length 1 (fun k => partCell (gq ps k) (fun f => A k (f - 2)) (fun f => C k (f - 2))) (fun _ => partCell p (fun f => M (f - 2)) (fun f => D (f - 2))) a' c')
 (ho : OwnLists w p M) (d1 : ∀ y, InLists p M y → ¬ InAddr a y) (d2 : ∀ k, k < ps.length → ∀ y, InLists p M y → ¬ InLists (gq ps k) (A k) y) :
 OwnParts w' a' (ps ++ [p]) (fun k => if k = ps.length then M else A k) (fun k => if k = ps.length then D else C k) := by
 have hl : (ps ++ [p]).length = ps.length + 1 := by simp
 have far : ∀ k, k < ps.length → ∀ c, c < 4 → ∀ y, InSlot (A k c) (pL (gq ps k) c) y → ¬ InAddr a y := fun k hk c hc y hy hy' => h.apart k hk c hc y hy ⟨by omega, hy'⟩
 have lt : ∀ k, k < ps.length → ∀ c, c < 4 → ∀ y, InSlot (A k c) (pL (gq ps k) c) y → y < w.heap.size := fun k hk c hc y hy => (h.list k hk c hc).lt hy
 refine ⟨?_, fun k hk c hc => ?_, fun k hk c hc y hy hy' => ?_, fun i c j d hi hc hj hd hij y hy hy' => ?_⟩
 · rw [hl]
   refine ap.own.congr fun k hk j hj => ?_
   by_cases e : k < ps.length
   · rw [behindF_lt e, gq_snoc_lt e]
     simp only [if_neg (show ¬ k = ps.length by omega)]
   · have e2 : k = ps.length := by omega
     subst e2
     have := behindF_ge (n := ps.length) (f := fun k => partCell (gq ps k) (fun f => A k (f - 2)) (fun f => C k (f - 2))) (g := fun _ => partCell p (fun f => M (f - 2)) (fun f => D (f - 2))) (k := 0) (j := j)
     rw [Nat.add_zero] at this
     rw [this, gq_snoc_eq]
     simp only [if_true]
 · rw [hl] at hk
   by_cases e : k = ps.length
   · subst e
     rw [gq_snoc_eq]
     simp only [if_true]
     exact (ho.list c hc).only ap.only (fun y hy => d1 y ⟨c, hc, hy⟩)
   · rw [gq_snoc_lt (by omega)]
     simp only [if_neg e]
     exact (h.list k (by omega) c hc).only ap.only (far k (by omega) c hc)
 · rw [hl] at hk
   by_cases e : k = ps.length
   · subst e
     rw [gq_snoc_eq] at hy
     simp only [if_true] at hy
     rcases ap.at_ y hy'.2 with h1 | h1
     · exact d1 y ⟨c, hc, hy⟩ h1
     · have := (ho.list c hc).lt hy; omega
   · rw [gq_snoc_lt (by omega)] at hy
     simp only [if_neg e] at hy
     rcases ap.at_ y hy'.2 with h1 | h1
     · exact far k (by omega) c hc y hy h1
     · have := lt k (by omega) c hc y hy; omega
 · rw [hl] at hi hj
   by_cases e : i = ps.length
   · subst e
     rw [gq_snoc_eq] at hy
     simp only [if_true] at hy
     by_cases e2 : j = ps.length
     · subst e2
       rw [gq_snoc_eq] at hy'
       simp only [if_true] at hy'
       exact ho.each c d hc hd (by omega) y hy hy'
     · rw [gq_snoc_lt (by omega)] at hy'
       simp only [if_neg e2] at hy'
       exact d2 j (by omega) y ⟨c, hc, hy⟩ ⟨d, hd, hy'⟩
   · rw [gq_snoc_lt (by omega)] at hy
     simp only [if_neg e] at hy
     by_cases e2 : j = ps.length
     · subst e2
       rw [gq_snoc_eq] at hy'
       simp only [if_true] at hy'
       exact d2 i (by omega) y ⟨d, hd, hy'⟩ ⟨c, hc, hy⟩
     · rw [gq_snoc_lt (by omega)] at hy'
       simp only [if_neg e2] at hy'
       exact h.each i c j d (by omega) hc (by omega) hd hij y hy hy'

set_option maxRecDepth 100000 in
set_option maxHeartbeats 2000000 in
theorem l1Names_own (a : Option Addr) (n cap : Nat) (f : Nat → Nat → Value) (w : World) (hm : RowAt w a n 1 f) (h1 : ∀ k j, (f k j).oneCell' = true) (hl : n ≤ 1048576) :
 Calls Tryz.prog 78 #[.slice a n cap] w fun e w' => (∃ a' c', e = .returned (.slice a' n c') ∧ OwnL w' 9 1 a' n f ∧ CapOf w' 9 1 a' n c' ∧ ∀ y, InAddr a' y → w.heap.size ≤ y) ∧ Below w.heap.size w w' := by
 have b0 : Below w.heap.size w (w.alloc (.cells #[] 9)) := (Below.refl _ _).alloc (Nat.le_refl _) _
 have r0 : Row (w.alloc (.cells #[] 9)) w.heap.size 9 [] := Row.new w _ []
 go_enter Tryz.func78, Tryz.ntmps78
 go_wp2_with (at_builtin; refine wpList_append_new (by rfl) _ _ (by rfl) sliceStr (some ⟨w.heap.size, 0, none⟩) 0 (by rfl) (capOf_row r0) a n cap f (by rfl) (hm.later b0) h1 (by omega) ?_)
 intro a' c' w' ho hc hat hon
 have hb := b0.trans (hon.below (n := w.heap.size) (fun y hy => by obtain ⟨o, h⟩ := hy; cases h; exact Nat.le_refl _) b0.size)
 have hy : Hid (∀ y, InAddr a' y → w.heap.size ≤ y) := fun y hy => by
  rcases hat y hy with ⟨o, h⟩ | h
  · cases h; exact Nat.le_refl _
  · have : (w.alloc (.cells #[] 9)).heap.size = w.heap.size + 1 := by simp
    omega
 clear hat hon r0 b0
 go_wp2
 go_ret
 exact ⟨⟨a', c', rfl, ho, hc, hy.out⟩, hb⟩

set_option maxRecDepth 100000 in
set_option maxHeartbeats 2000000 in
theorem l1Want_own (p : Part) (a2 a3 a4 a5 : Option Addr) (c2 c3 c4 c5 : Nat) (w : World) (hin : WantIn w p.want a2 a3 a4 a5) (hr : WantRoom p.want) :
 Calls Tryz.prog 79 #[wantW p.want a2 a3 a4 a5 c2 c3 c4 c5] w fun e w' => (∃ (A : Nat → Option Addr) (C : Nat → Nat), e = .returned (wantW p.want (A 0) (A 1) (A 2) (A 3) (C 0) (C 1) (C 2) (C 3)) ∧ OwnLists w' p A ∧ ∀ y, InLists p A y → w.heap.size ≤ y) ∧ Below w.heap.size w w' := by
 have r2 := hr.stuffs
 have r3 := hr.uses
 have r4 := hr.opens
 have r5 := hr.shuts
 unfold wantW
 obtain ⟨W0, hW0⟩ : ∃ W, W = ((w.alloc (.cells #[.int .i64 p.want.number, .int .i64 p.want.kind, .slice a2 p.want.stuffs.length c2, .slice a3 p.want.uses.length c3, .slice a4 p.want.opens.length c4, .slice a5 p.want.shuts.length c5] 38)).alloc (.cells #[.int .i64 0, .int .i64 0, .slice none 0 0, .slice none 0 0, .slice none 0 0, .slice none 0 0] 38)).alloc (.cells #[] 101) := ⟨_, rfl⟩
 have b0 : Below w.heap.size w W0 := by rw [hW0]; exact (((Below.refl _ _).alloc (Nat.le_refl _) _).alloc (by simp) _).alloc (by simp; omega) _
 have i0 : Row W0 w.heap.size 38 [.int .i64 p.want.number, .int .i64 p.want.kind, .slice a2 p.want.stuffs.length c2, .slice a3 p.want.uses.length c3, .slice a4 p.want.opens.length c4, .slice a5 p.want.shuts.length c5] := by rw [hW0]; exact ((Row.new _ _ _).alloc _).alloc _
 have z0 : Row W0 (w.heap.size + 1) 38 [.int .i64 0, .int .i64 0, .slice none 0 0, .slice none 0 0, .slice none 0 0, .slice none 0 0] := by
  rw [hW0]
  have := (Row.new (w.alloc (.cells #[.int .i64 p.want.number, .int .i64 p.want.kind, .slice a2 p.want.stuffs.length c2, .slice a3 p.want.uses.length c3, .slice a4 p.want.opens.length c4, .slice a5 p.want.shuts.length c5] 38)) 38 [.int .i64 0, .int .i64 0, .slice none 0 0, .slice none 0 0, .slice none 0 0, .slice none 0 0]).alloc (.cells #[] 101)
  simpa using this
 have e0 : Row W0 (w.heap.size + 1 + 1) 101 [] := by
  rw [hW0]
  have := Row.new ((w.alloc (.cells #[.int .i64 p.want.number, .int .i64 p.want.kind, .slice a2 p.want.stuffs.length c2, .slice a3 p.want.uses.length c3, .slice a4 p.want.opens.length c4, .slice a5 p.want.shuts.length c5] 38)).alloc (.cells #[.int .i64 0, .int .i64 0, .slice none 0 0, .slice none 0 0, .slice none 0 0, .slice none 0 0] 38)) 101 []
  simpa using this
 have sz0 : W0.heap.size = w.heap.size + 3 := by rw [hW0]; simp
 have hne : w.heap.size + 1 ≠ w.heap.size := by omega
 have hu0 := (hin.later b0).uses
 rw [hW0] at hu0
 have e0' := e0
 rw [hW0] at e0'
 go_enter Tryz.func79, Tryz.ntmps79
 go_wp2_with (at_builtin; refine wpList_append_new (by rfl) _ _ (by rfl) sliceUse (some ⟨w.heap.size + 1 + 1, 0, none⟩) 0 (by rfl) (capOf_row e0') a3 p.want.uses.length c3 (useF p.want.uses) (by rfl) hu0 (oneUse _) (by omega) ?_)
 rw [← hW0]
 clear hW0 hu0 e0'
 intro d3 k3 w1 s3 cap3 at3 on3
 clear cap3
 have n0 : ¬ InAddr (some ⟨w.heap.size + 1 + 1, 0, none⟩) w.heap.size := fun ⟨o, h⟩ => by simp at h
 have n1 : ¬ InAddr (some ⟨w.heap.size + 1 + 1, 0, none⟩) (w.heap.size + 1) := fun ⟨o, h⟩ => by simp at h
 have b1 := b0.trans (on3.below (n := w.heap.size) (fun y ⟨o, h⟩ => by simp at h; omega) b0.size)
 have i1 := i0.only on3 n0
 have z1 := z0.only on3 n1
 have sz1 : w.heap.size + 3 ≤ w1.heap.size := by have := on3.size; omega
 have O3 : Hid (∀ y, InSlot d3 p.want.uses.length y → w.heap.size + 2 ≤ y ∧ y < w1.heap.size) := fun y hy => ⟨by
  rcases at3 y hy.2 with ⟨o, h⟩ | h
  · simp at h; omega
  · omega, s3.lt hy⟩
 clear b0 i0 z0 e0 sz0 at3 on3 n0 n1
 have q2 := i1.cell 2 rfl
 have f3 := i1.frozen 3
 have g3 := i1.cell 3 rfl
 go_wp2_with fail
 obtain ⟨W1, hW1⟩ : ∃ W, W = w1.setCell ⟨w.heap.size, 3, none⟩ (.slice d3 p.want.uses.length k3) := ⟨_, rfl⟩
 have b1 : Below w.heap.size w W1 := by rw [hW1]; exact b1.setCell (by simp) _
 have i1 := i1.set 3 (.slice d3 p.want.uses.length k3)
 have z1 := z1.other (a := ⟨w.heap.size, 3, none⟩) hne (.slice d3 p.want.uses.length k3)
 have s3 := s3.only (Only.cell _ ⟨w.heap.size, 3, none⟩ (.slice d3 p.want.uses.length k3)) (fun y hy e => by have := O3.out y hy; simp only at e; omega)
 have sW1 : W1.heap.size = w1.heap.size := by rw [hW1, Go.Deep.nblk_setCell]
 rw [← hW1] at i1 z1 s3 ⊢
 clear hW1 q2 f3 g3
 refine (l1Names_own a2 p.want.stuffs.length c2 (strF p.want.stuffs) W1 (hin.later b1).stuffs (oneStr _) r2).mono ?_
 rintro e w2 ⟨⟨d2, k2, rfl, s2, -, lo2⟩, hb⟩
 have b2 := b1.trans (hb.mono b1.size)
 have i2 := i1.later hb
 have z2 := z1.later hb
 have s3 := s3.later hb
 have sz2 : w1.heap.size ≤ w2.heap.size := by have := hb.size; omega
 have O2 : Hid (∀ y, InSlot d2 p.want.stuffs.length y → w1.heap.size ≤ y ∧ y < w2.heap.size) := fun y hy => ⟨by have := lo2 y hy.2; omega, s2.lt hy⟩
 clear b1 i1 z1 hb sW1 lo2
 have q4 := i2.cell 4 rfl
 have f2 := i2.frozen 2
 have g2 := i2.cell 2 rfl
 go_wp2_with fail
 obtain ⟨W2, hW2⟩ : ∃ W, W = w2.setCell ⟨w.heap.size, 2, none⟩ (.slice d2 p.want.stuffs.length k2) := ⟨_, rfl⟩
 have b2 : Below w.heap.size w W2 := by rw [hW2]; exact b2.setCell (by simp) _
 have i2 := i2.set 2 (.slice d2 p.want.stuffs.length k2)
 have z2 := z2.other (a := ⟨w.heap.size, 2, none⟩) hne (.slice d2 p.want.stuffs.length k2)
 have s2 := s2.only (Only.cell _ ⟨w.heap.size, 2, none⟩ (.slice d2 p.want.stuffs.length k2)) (fun y hy e => by have := O2.out y hy; simp only at e; omega)
 have s3 := s3.only (Only.cell _ ⟨w.heap.size, 2, none⟩ (.slice d2 p.want.stuffs.length k2)) (fun y hy e => by have := O3.out y hy; simp only at e; omega)
 have sW2 : W2.heap.size = w2.heap.size := by rw [hW2, Go.Deep.nblk_setCell]
 rw [← hW2] at i2 z2 s2 s3 ⊢
 clear hW2 q4 f2 g2
 refine (l1Names_own a4 p.want.opens.length c4 (strF p.want.opens) W2 (hin.later b2).opens (oneStr _) r4).mono ?_
 rintro e w3 ⟨⟨d4, k4, rfl, s4, -, lo4⟩, hb⟩
 have b3 := b2.trans (hb.mono b2.size)
 have i3 := i2.later hb
 have z3 := z2.later hb
 have s2 := s2.later hb
 have s3 := s3.later hb
 have sz3 : w2.heap.size ≤ w3.heap.size := by have := hb.size; omega
 have O4 : Hid (∀ y, InSlot d4 p.want.opens.length y → w2.heap.size ≤ y ∧ y < w3.heap.size) := fun y hy => ⟨by have := lo4 y hy.2; omega, s4.lt hy⟩
 clear b2 i2 z2 hb sW2 lo4
 have q5 := i3.cell 5 rfl
 have f4 := i3.frozen 4
 have g4 := i3.cell 4 rfl
 go_wp2_with fail
 obtain ⟨W3, hW3⟩ : ∃ W, W = w3.setCell ⟨w.heap.size, 4, none⟩ (.slice d4 p.want.opens.length k4) := ⟨_, rfl⟩
 have b3 : Below w.heap.size w W3 := by rw [hW3]; exact b3.setCell (by simp) _
 have i3 := i3.set 4 (.slice d4 p.want.opens.length k4)
 have z3 := z3.other (a := ⟨w.heap.size, 4, none⟩) hne (.slice d4 p.want.opens.length k4)
 have s2 := s2.only (Only.cell _ ⟨w.heap.size, 4, none⟩ (.slice d4 p.want.opens.length k4)) (fun y hy e => by have := O2.out y hy; simp only at e; omega)
 have s3 := s3.only (Only.cell _ ⟨w.heap.size, 4, none⟩ (.slice d4 p.want.opens.length k4)) (fun y hy e => by have := O3.out y hy; simp only at e; omega)
 have s4 := s4.only (Only.cell _ ⟨w.heap.size, 4, none⟩ (.slice d4 p.want.opens.length k4)) (fun y hy e => by have := O4.out y hy; simp only at e; omega)
 have sW3 : W3.heap.size = w3.heap.size := by rw [hW3, Go.Deep.nblk_setCell]
 rw [← hW3] at i3 z3 s2 s3 s4 ⊢
 clear hW3 q5 f4 g4
 refine (l1Names_own a5 p.want.shuts.length c5 (strF p.want.shuts) W3 (hin.later b3).shuts (oneStr _) r5).mono ?_
 rintro e w4 ⟨⟨d5, k5, rfl, s5, -, lo5⟩, hb⟩
 have b4 := b3.trans (hb.mono b3.size)
 have i4 := i3.later hb
 have z4 := z3.later hb
 have s2 := s2.later hb
 have s3 := s3.later hb
 have s4 := s4.later hb
 have O5 : Hid (∀ y, InSlot d5 p.want.shuts.length y → w3.heap.size ≤ y) := fun y hy => by have := lo5 y hy.2; omega
 have own : OwnLists w4 p (fourA d2 d3 d4 d5) := by
  refine ⟨fun c hc => ?_, fun c d hc hd hcd y hy hy' => ?_⟩
  · match c, hc with
    | 0, _ => exact s2
    | 1, _ => exact s3
    | 2, _ => exact s4
    | 3, _ => exact s5
  · match c, hc, d, hd with
    | 0, _, 0, _ => exact hcd rfl
    | 0, _, 1, _ => have := O2.out y hy; have := O3.out y hy'; omega
    | 0, _, 2, _ => have := O2.out y hy; have := O4.out y hy'; omega
    | 0, _, 3, _ => have := O2.out y hy; have := O5.out y hy'; omega
    | 1, _, 0, _ => have := O2.out y hy'; have := O3.out y hy; omega
    | 1, _, 1, _ => exact hcd rfl
    | 1, _, 2, _ => have := O3.out y hy; have := O4.out y hy'; omega
    | 1, _, 3, _ => have := O3.out y hy; have := O5.out y hy'; omega
    | 2, _, 0, _ => have := O2.out y hy'; have := O4.out y hy; omega
    | 2, _, 1, _ => have := O3.out y hy'; have := O4.out y hy; omega
    | 2, _, 2, _ => exact hcd rfl
    | 2, _, 3, _ => have := O4.out y hy; have := O5.out y hy'; omega
    | 3, _, 0, _ => have := O2.out y hy'; have := O5.out y hy; omega
    | 3, _, 1, _ => have := O3.out y hy'; have := O5.out y hy; omega
    | 3, _, 2, _ => have := O4.out y hy'; have := O5.out y hy; omega
    | 3, _, 3, _ => exact hcd rfl
 have LO : Hid (∀ y, InLists p (fourA d2 d3 d4 d5) y → w.heap.size + 2 ≤ y) := fun y ⟨c, hc, hy⟩ => by
  match c, hc with
  | 0, _ => have := O2.out y hy; omega
  | 1, _ => have := O3.out y hy; omega
  | 2, _ => have := O4.out y hy; omega
  | 3, _ => have := O5.out y hy; omega
 have OWN : Hid _ := own
 clear b3 i3 z3 hb sW3 lo5 O2 O3 O4 O5 s2 s3 s4 s5 own
 have f5 := i4.frozen 5
 have g0 := i4.cell 0 rfl
 have g1 := i4.cell 1 rfl
 have g2 := i4.cell 2 rfl
 have g3 := i4.cell 3 rfl
 have g4 := i4.cell 4 rfl
 have g5 := i4.cell 5 rfl
 have r0 := z4.cell 0 rfl
 have r1 := z4.cell 1 rfl
 have r2 := z4.cell 2 rfl
 have r3 := z4.cell 3 rfl
 have r4 := z4.cell 4 rfl
 have r5 := z4.cell 5 rfl
 have k0' := z4.frozen 0
 have k1' := z4.frozen 1
 have k2' := z4.frozen 2
 have k3' := z4.frozen 3
 have k4' := z4.frozen 4
 have k5' := z4.frozen 5
 go_wp2
 refine bodyPost_ret (v := .agg #[.int .i64 p.want.number, .int .i64 p.want.kind, .slice d2 p.want.stuffs.length k2, .slice d3 p.want.uses.length k3, .slice d4 p.want.opens.length k4, .slice d5 p.want.shuts.length k5])
  (by simp [results, Tryz.results79, go_sem, r0, r1, r2, r3, r4, r5]) rfl ⟨⟨fourA d2 d3 d4 d5, fourN k2 k3 k4 k5, rfl, ?_, fun y hy => by have := LO.out y hy; omega⟩, ?_⟩
 · have g1 : ∀ y, InLists p (fourA d2 d3 d4 d5) y → ¬ y = w.heap.size + 1 := fun y hy => by have := LO.out y hy; omega
   have g2 : ∀ y, InLists p (fourA d2 d3 d4 d5) y → ¬ y = w.heap.size := fun y hy => by have := LO.out y hy; omega
   exact ((((((OWN.out.only (Only.cell _ ⟨w.heap.size, 5, none⟩ _) g2).only (Only.cell _ ⟨w.heap.size + 1, 0, none⟩ _) g1).only (Only.cell _ ⟨w.heap.size + 1, 1, none⟩ _) g1).only (Only.cell _ ⟨w.heap.size + 1, 2, none⟩ _) g1).only (Only.cell _ ⟨w.heap.size + 1, 3, none⟩ _) g1).only (Only.cell _ ⟨w.heap.size + 1, 4, none⟩ _) g1).only (Only.cell _ ⟨w.heap.size + 1, 5, none⟩ _) g1
 · exact ((((((b4.setCell (by simp) _).setCell (by simp) _).setCell (by simp) _).setCell (by simp) _).setCell (by simp) _).setCell (by simp) _).setCell (by simp) _

end Go.Proofs.YtfmhkicncgccjaaGreat

/- Appends to what has no room; the first part of a copy. -/
namespace Go.Proofs.YtfmhkicncgccjaaGreat
open Go.RowKit Go.Sort
set_option linter.unusedSimpArgs false
set_option linter.unusedVariables false

theorem below_only {W0 W w6 : World} {B : Nat → Prop} (h : Below W0.heap.size W0 W) (ho : Only B W w6) (hB : ∀ y, B y → W0.heap.size ≤ y) : Below W0.heap.size W0 w6 := h.trans (ho.below hB h.size)
theorem below_next {W0 W w1 : World} (h : Below W0.heap.size W0 W) (h' : Below W.heap.size W w1) : Below W0.heap.size W0 w1 := h.trans (h'.mono h.size)
theorem bcell {W w1 : World} (hb : Below W.heap.size W w1) : (∀ b o, b < W.heap.size → w1.cell? ⟨b, o, none⟩ = W.cell? ⟨b, o, none⟩) ∧ (∀ b o, b < W.heap.size → w1.frozen? ⟨b, o, none⟩ = W.frozen? ⟨b, o, none⟩) :=
 ⟨fun b o h => hb.cell (p := ⟨b, o, none⟩) h, fun b o h => hb.frozen (p := ⟨b, o, none⟩) h⟩

/-- A list's room: none where it is empty. -/
def CapX (w : World) (t : TypeId) (s : Nat) (a : Option Addr) (n c : Nat) : Prop := (n = 0 ∧ c = 0) ∨ (n ≠ 0 ∧ CapOf w t s a n c)
theorem CapX.le {w : World} {t : TypeId} {s : Nat} {a : Option Addr} {n c : Nat} (h : CapX w t s a n c) : n ≤ c := by
 rcases h with ⟨h, h'⟩ | ⟨-, h⟩
 · omega
 · exact h.le
theorem CapX.only {B : Nat → Prop} {w w' : World} {t : TypeId} {s : Nat} {a : Option Addr} {n c : Nat} (h : CapX w t s a n c) (ho : Only B w w') (hB : ∀ y, InSlot a n y → ¬ B y) : CapX w' t s a n c := by
 rcases h with h | ⟨hn, h⟩
 · exact Or.inl h
 · exact Or.inr ⟨hn, h.only ho (fun y hy => hB y ⟨hn, hy⟩)⟩
theorem CapX.later {w w' : World} {t : TypeId} {s : Nat} {a : Option Addr} {n c : Nat} (h : CapX w t s a n c) (hb : Below w.heap.size w w') : CapX w' t s a n c := h.only (Only.of (B := fun _ => False) hb) (fun _ _ => id)
/-- An append to an empty slice with no room: whatever it points to, that is left alone. -/
theorem run_append_zeroX {P : Program} (w : World) {t e : TypeId} {size : Nat} (ty : TypeId) (hT : SliceT P t e size) (a0 : Option Addr) (ax : Option Addr) (m c : Nat) (g : Nat → Nat → Value) (hx : RowAt w ax m size g) (h1 : ∀ k j, (g k j).oneCell' = true) (hn : m ≤ 16777216) :
 ∃ a' c' w', (Builtin.append_ #[t, t] ty #[.slice a0 0 0, .slice ax m c]).run P w = .ok (.slice a' m c') w' ∧ OwnL w' e size a' m g ∧ (∀ y, InSlot a' m y → y = w.heap.size) ∧ CapX w' e size a' m c' ∧ Below w.heap.size w w' := by
 by_cases hm : m = 0
 · subst hm
   obtain ⟨i, z, ht, hi, hz, hs, hzs, h0, hb⟩ := hT
   refine ⟨a0, 0, w, ?_, Or.inl rfl, fun y hy => absurd rfl hy.1, Or.inl ⟨rfl, rfl⟩, Below.refl _ _⟩
   cases ax <;> cases a0 <;> simp [Builtin.append_, run_underlying ht, sizeOf, typeInfo, hi, Builtin.lenOf, Builtin.firstCells, loadCells, loadCellsFrom, storeCells]
 · obtain ⟨a', c', w', hr, ap⟩ := run_append_row (P := P) w ty hT none 0 0 g (ownL_zero _ _ _ _ _) (capOf_nil _ _ _) ax m c g hx h1 (by omega)
   have h2 := ap.own
   have h3 := ap.cap
   rw [Nat.zero_add] at h2 h3 hr
   have hb : Below w.heap.size w w' := ap.only.below (fun y ⟨o, h⟩ => by cases h) (Nat.le_refl _)
   have ho : OwnL w' e size a' m g := h2.congr (fun k hk j hj => by have := behindF_ge (n := 0) (f := g) (g := g) (k := k) (j := j); rw [Nat.zero_add] at this; exact this)
   have hy : ∀ y, InSlot a' m y → y = w.heap.size := fun y hy => by
    rcases ap.at_ y hy.2 with ⟨o, h⟩ | h
    · cases h
    · exact h
   cases a0 with
   | none => exact ⟨a', c', w', hr, ho, hy, Or.inr ⟨by omega, h3⟩, hb⟩
   | some ad =>
    obtain ⟨i, z, ht, hi, hz, hs, hzs, h0, hbt⟩ := hT
    refine ⟨a', c', w', ?_, ho, hy, Or.inr ⟨by omega, h3⟩, hb⟩
    rw [← hr]
    cases ax with
    | none =>
     obtain ⟨_, _, h, _⟩ := hx 0 (by omega)
     cases h
    | some ax =>
     have hl : m * i.bytes ≤ 16777216 * 1024 := Nat.mul_le_mul hn hbt
     have hfl : (flat m size g).length = m * i.size := by rw [flat_length, hs]
     have r1 := run_append_nil (P := P) w t ty e i z ht hi hz ax m c (flat m size g) hfl (flat_news hx) (by omega) (by omega) (by omega)
     have r2 := run_append_grow (P := P) w t ty e i z ht hi hz ad 0 0 [] (by simp) (by simp) ax m c (flat m size g) hfl (flat_news hx) (by omega) (by omega) (growslice_fits (by omega) (by simp; omega))
     rw [r1, r2]
     simp

theorem step_append_zeroX {P : Program} {w : World} {ops : Array Oper} {o : Oper} {a : Act} {K : Act → World → Prop} {Q : Exit → Act → World → Prop} {E : Prop} (hgd : o.guard = none) (s x : Operand) {t e : TypeId} {size : Nat}
 (ho : o.op = .call { callee := .builtin .append, args := #[s, x], argTypes := #[t, t] }) (hT : SliceT P t e size)
 (a0 : Option Addr) (hs : a.eval s = .slice a0 0 0)
 (ax : Option Addr) (m c : Nat) (g : Nat → Nat → Value) (hxe : a.eval x = .slice ax m c) (hx : RowAt w ax m size g) (h1 : ∀ k j, (g k j).oneCell' = true) (hn : m ≤ 16777216)
 (h : ∀ a' c' w', OwnL w' e size a' m g → (∀ y, InSlot a' m y → y = w.heap.size) → CapX w' e size a' m c' → Below w.heap.size w w' → K (a.put o.dst (.slice a' m c')) w') :
 if Region.wanted o (yielded ops a.tmps) = true then Oper.wp P o a w K Q else E := by
 have hw : Region.wanted o (yielded ops a.tmps) = true := by simp [Region.wanted, hgd]
 rw [if_pos hw]
 obtain ⟨a', c', w', hr, h2, h3, h4, h5⟩ := run_append_zeroX (P := P) w o.type hT a0 ax m c g hx h1 hn
 unfold Oper.wp execOp
 simp only [ho, resolve, invoke, builtin, Sem.run_bind, Sem.run_pure, Result.andThen_ok, List.map_toArray, List.map_cons, List.map_nil, hs, hxe, hr]
 exact h a' c' w' h2 h3 h4 h5

/-- The rooms of the spots' lists. -/
def CapM (w : World) (ps : List Spot) (A : Nat → Option Addr) (C : Nat → Nat) : Prop := ∀ k, k < ps.length → CapX w 9 1 (A k) (gp ps k).may.length (C k)
theorem CapM.only {B : Nat → Prop} {w w' : World} {ps : List Spot} {A : Nat → Option Addr} {C : Nat → Nat} (h : CapM w ps A C) (ho : Only B w w') (hB : ∀ k, k < ps.length → ∀ y, InSlot (A k) (gp ps k).may.length y → ¬ B y) : CapM w' ps A C := fun k hk => (h k hk).only ho (hB k hk)
theorem CapM.later {w w' : World} {ps : List Spot} {A : Nat → Option Addr} {C : Nat → Nat} (h : CapM w ps A C) (hb : Below w.heap.size w w') : CapM w' ps A C := fun k hk => (h k hk).later hb
theorem CapM.snoc {w w' : World} {ps : List Spot} {A : Nat → Option Addr} {C : Nat → Nat} {s : Spot} {m : Option Addr} {c : Nat} {B : Nat → Prop} (h : CapM w ps A C) (hc : CapX w 9 1 m s.may.length c) (ho : Only B w w') (d0 : ∀ k, k < ps.length → ∀ y, InSlot (A k) (gp ps k).may.length y → ¬ B y) (d1 : ∀ y, InSlot m s.may.length y → ¬ B y) :
 CapM w' (ps ++ [s]) (fun k => if k = ps.length then m else A k) (fun k => if k = ps.length then c else C k) := by
 intro k hk
 have hl : (ps ++ [s]).length = ps.length + 1 := by simp
 rw [hl] at hk
 by_cases e : k = ps.length
 · subst e
   rw [gp_snoc_eq]
   simp only [if_true]
   exact hc.only ho d1
 · rw [gp_snoc_lt (by omega)]
   simp only [if_neg e]
   exact (h k (by omega)).only ho (d0 k (by omega))

/-- The first part of a copy: foes and valves, behind W0; the copy lies in block B. -/
structure CopyA (W0 X : World) (B : Nat) (x : Book) (d0 d2 : Option Addr) (k0 k2 : Nat) : Prop where
 row : Row X B 28 [.slice d0 x.foes.length k0, .slice none 0 0, .slice d2 x.valves.length k2, .slice none 0 0, .int .i64 x.seen]
 foes : OwnL X 70 2 d0 x.foes.length (foeF x.foes)
 valves : OwnL X 9 1 d2 x.valves.length (strF x.valves)
 below : Below W0.heap.size W0 X
 b0 : W0.heap.size ≤ B
 f0 : ∀ y, InSlot d0 x.foes.length y → W0.heap.size ≤ y ∧ y ≠ B
 v0 : ∀ y, InSlot d2 x.valves.length y → W0.heap.size ≤ y ∧ y ≠ B
 fv : ∀ y, InSlot d0 x.foes.length y → ¬ InSlot d2 x.valves.length y
 fc : CapX X 70 2 d0 x.foes.length k0
 vc : CapX X 9 1 d2 x.valves.length k2

theorem rowAt_part (w : World) (p : Part) (A : Nat → Option Addr) (C : Nat → Nat) : RowAt (w.alloc (.cells #[.int .i64 p.want.number, .int .i64 p.want.kind, .slice (A 0) p.want.stuffs.length (C 0), .slice (A 1) p.want.uses.length (C 1), .slice (A 2) p.want.opens.length (C 2), .slice (A 3) p.want.shuts.length (C 3), .bool p.stopped] 61)) (some ⟨w.heap.size, 0, none⟩) 1 7 (fun _ => partCell p (fun f => A (f - 2)) (fun f => C (f - 2))) := by
 have r := Row.new w 61 [.int .i64 p.want.number, .int .i64 p.want.kind, .slice (A 0) p.want.stuffs.length (C 0), .slice (A 1) p.want.uses.length (C 1), .slice (A 2) p.want.opens.length (C 2), .slice (A 3) p.want.shuts.length (C 3), .bool p.stopped]
 intro q hq
 have : q = 0 := by omega
 subst this
 refine ⟨_, _, rfl, r.lt, fun j hj => ?_⟩
 match j, hj with
 | 0, _ => exact r.cell 0 rfl
 | 1, _ => exact r.cell 1 rfl
 | 2, _ => exact r.cell 2 rfl
 | 3, _ => exact r.cell 3 rfl
 | 4, _ => exact r.cell 4 rfl
 | 5, _ => exact r.cell 5 rfl
 | 6, _ => exact r.cell 6 rfl

theorem Row.drew {w : World} {b : Nat} {t : TypeId} {l : List Value} (h : Row w b t l) : Row w.drew b t l := h
theorem Row.new' {w : World} {b : Nat} {t : TypeId} {l : List Value} (hb : b = w.heap.size) : Row (w.alloc (.cells l.toArray t)) b t l := hb ▸ Row.new w t l
theorem CopyA.last {W0 w1 w2 : World} {x : Book} {d0 d2 : Option Addr} {k0 k2 SA : Nat} (oA : OwnL w1 70 2 d0 x.foes.length (foeF x.foes)) (loA : ∀ y, InSlot d0 x.foes.length y → y = SA) (pA : CapX w1 70 2 d0 x.foes.length k0) (hSA : W0.heap.size ≤ SA)
 (hb : Below w1.heap.size w1 w2) (oB : OwnL w2 9 1 d2 x.valves.length (strF x.valves)) (pB : CapX w2 9 1 d2 x.valves.length k2) (loB : ∀ y, InSlot d2 x.valves.length y → w1.heap.size ≤ y) (hs : W0.heap.size ≤ w1.heap.size) (hb' : Below W0.heap.size W0 w2) :
 CopyA W0 (w2.alloc (.cells #[.slice d0 x.foes.length k0, .slice none 0 0, .slice d2 x.valves.length k2, .slice none 0 0, .int .i64 x.seen] 28)) w2.heap.size x d0 d2 k0 k2 := by
 have hn := (Below.refl w2.heap.size w2).alloc (Nat.le_refl _) (.cells #[.slice d0 x.foes.length k0, .slice none 0 0, .slice d2 x.valves.length k2, .slice none 0 0, .int .i64 x.seen] 28)
 refine ⟨Row.new _ _ _, (oA.later hb).later hn, oB.later hn, hb'.alloc hb'.size _, hb'.size, fun y hy => ?_, fun y hy => ?_, fun y hy hy' => ?_, (pA.later hb).later hn, pB.later hn⟩
 · have := oA.lt hy; have := hb.size; have := loA y hy; omega
 · have := oB.lt hy; have := loB y hy; omega
 · have := oA.lt hy; have := loB y hy'; omega
theorem CopyA.early {W0 w1 w2 : World} {x : Book} {d0 d2 : Option Addr} {k0 k2 SA B : Nat} (oA : OwnL w1 70 2 d0 x.foes.length (foeF x.foes)) (loA : ∀ y, InSlot d0 x.foes.length y → y = SA) (pA : CapX w1 70 2 d0 x.foes.length k0) (hSA : W0.heap.size ≤ SA)
 (hb : Below w1.heap.size w1 w2) (oB : OwnL w2 9 1 d2 x.valves.length (strF x.valves)) (pB : CapX w2 9 1 d2 x.valves.length k2) (loB : ∀ y, InSlot d2 x.valves.length y → w1.heap.size ≤ y ∧ B < y) (hs : W0.heap.size ≤ w1.heap.size) (hb' : Below W0.heap.size W0 w2) (hB : W0.heap.size ≤ B) (hBA : B < SA ∨ w1.heap.size ≤ B)
 {v0 v1 v2 v3 v4 : Value} (hrow : Row w2 B 28 [v0, v1, v2, v3, v4]) :
 CopyA W0 (((((w2.setCell ⟨B, 0, none⟩ (.slice d0 x.foes.length k0)).setCell ⟨B, 1, none⟩ (.slice none 0 0)).setCell ⟨B, 2, none⟩ (.slice d2 x.valves.length k2)).setCell ⟨B, 3, none⟩ (.slice none 0 0)).setCell ⟨B, 4, none⟩ (.int .i64 x.seen)) B x d0 d2 k0 k2 := by
 have on : ∀ (W : World) (i : Nat) (v : Value), Only (fun y => y = B) W (W.setCell ⟨B, i, none⟩ v) := fun W i v => Only.cell W ⟨B, i, none⟩ v
 have on5 := ((((on w2 0 (.slice d0 x.foes.length k0)).trans (on _ 1 (.slice none 0 0))).trans (on _ 2 (.slice d2 x.valves.length k2))).trans (on _ 3 (.slice none 0 0))).trans (on _ 4 (.int .i64 x.seen))
 have nA : ∀ y, InSlot d0 x.foes.length y → y ≠ B := fun y hy => by have := oA.lt hy; have := loA y hy; omega
 have nB : ∀ y, InSlot d2 x.valves.length y → y ≠ B := fun y hy => by have := loB y hy; omega
 refine ⟨((((hrow.set 0 _).set 1 _).set 2 _).set 3 _).set 4 _, (oA.later hb).only on5 nA, oB.only on5 nB, ((((hb'.setCell hB _).setCell hB _).setCell hB _).setCell hB _).setCell hB _, hB, fun y hy => ⟨?_, nA y hy⟩, fun y hy => ⟨?_, nB y hy⟩, fun y hy hy' => ?_, (pA.later hb).only on5 nA, pB.only on5 nB⟩
 · have := loA y hy; omega
 · have := loB y hy; omega
 · have := oA.lt hy; have := loB y hy'; omega

end Go.Proofs.YtfmhkicncgccjaaGreat

/- Appends to lists that may be empty and without room, whatever they point to. -/
namespace Go.Proofs.YtfmhkicncgccjaaGreat
open Go.RowKit Go.Sort
set_option linter.unusedSimpArgs false
set_option linter.unusedVariables false

/-- The room of a list; of an empty one without room nothing is said. -/
def CapW (w : World) (t : TypeId) (s : Nat) (a : Option Addr) (n c : Nat) : Prop :=
 (n = 0 ∧ c = 0) ∨ ∃ b l, a = some ⟨b, 0, none⟩ ∧ Row w b t l ∧ l.length = c * s ∧ n ≤ c ∧ c ≤ maxLen
theorem CapOf.wide {w : World} {t : TypeId} {s : Nat} {a : Option Addr} {n c : Nat} (h : CapOf w t s a n c) : CapW w t s a n c := by
 rcases h with ⟨h, _, h'⟩ | h
 · exact Or.inl ⟨h, h'⟩
 · exact Or.inr h
theorem CapW.only {B : Nat → Prop} {w w' : World} {t : TypeId} {s : Nat} {a : Option Addr} {n c : Nat} (h : CapW w t s a n c) (ho : Only B w w') (hB : ∀ y, InAddr a y → ¬ B y) : CapW w' t s a n c := by
 rcases h with h | ⟨b, l, rfl, hr, hl, hn, hm⟩
 · exact Or.inl h
 · exact Or.inr ⟨b, l, rfl, hr.only ho (hB b ⟨0, rfl⟩), hl, hn, hm⟩
theorem CapW.later {w w' : World} {t : TypeId} {s : Nat} {a : Option Addr} {n c : Nat} (h : CapW w t s a n c) (hb : Below w.heap.size w w') : CapW w' t s a n c := h.only (Only.of (B := fun _ => False) hb) (fun _ _ => id)
theorem CapW.le {w : World} {t : TypeId} {s : Nat} {a : Option Addr} {n c : Nat} (h : CapW w t s a n c) : n ≤ c := by
 rcases h with ⟨h, h'⟩ | ⟨b, l, e, hr, hl, hn, hm⟩
 · omega
 · exact hn
theorem RowAt.take {w : World} {a : Option Addr} {n size : Nat} {f : Nat → Nat → Value} (h : RowAt w a n size f) {m : Nat} (hm : m ≤ n) : RowAt w a m size f := fun k hk => h k (by omega)
/-- What stands from place q on. -/
theorem RowAt.drop {w : World} {b o n size : Nat} {f : Nat → Nat → Value} (h : RowAt w (some ⟨b, o, none⟩) n size f) {q : Nat} (hq : q ≤ n) : RowAt w (some ⟨b, o + q * size, none⟩) (n - q) size (fun k => f (q + k)) := by
 intro k hk
 obtain ⟨b', o', e, hb, hc⟩ := h (q + k) (by omega)
 cases e
 refine ⟨b, o + q * size, rfl, hb, fun j hj => ?_⟩
 have := hc j hj
 rw [Nat.add_mul, ← Nat.add_assoc o] at this
 exact this

theorem run_append_w {P : Program} (w : World) {t e : TypeId} {size : Nat} (ty : TypeId) (hT : SliceT P t e size) (a0 : Option Addr) (n c0 : Nat) (f : Nat → Nat → Value) (ho : OwnL w e size a0 n f) (hc : CapW w e size a0 n c0)
 (ax : Option Addr) (m c : Nat) (g : Nat → Nat → Value) (hx : RowAt w ax m size g) (h1 : ∀ k j, (g k j).oneCell' = true) (hn : n + m ≤ 16777216) :
 ∃ a' c' w', (Builtin.append_ #[t, t] ty #[.slice a0 n c0, .slice ax m c]).run P w = .ok (.slice a' (n + m) c') w' ∧ OwnL w' e size a' (n + m) (behindF n f g) ∧ CapW w' e size a' (n + m) c' ∧ (∀ y, InAddr a' y → InAddr a0 y ∨ y = w.heap.size) ∧ Only (InAddr a0) w w' := by
 rcases hc with ⟨rfl, rfl⟩ | ⟨b, l, rfl, hr, hl, hnc, hm⟩
 · by_cases hm : m = 0
   · subst hm
     obtain ⟨i, z, ht, hi, hz, hs, hzs, h0, hb⟩ := hT
     refine ⟨a0, 0, w, ?_, Or.inl rfl, Or.inl ⟨rfl, rfl⟩, fun y hy => Or.inl hy, Only.refl _ _⟩
     cases ax <;> cases a0 <;> simp [Builtin.append_, run_underlying ht, sizeOf, typeInfo, hi, Builtin.lenOf, Builtin.firstCells, loadCells, loadCellsFrom, storeCells]
   · obtain ⟨a', c', w', hr, ap⟩ := run_append_row (P := P) w ty hT none 0 0 f (ownL_zero _ _ _ _ _) (capOf_nil _ _ _) ax m c g hx h1 (by omega)
     have hat : ∀ y, InAddr a' y → InAddr a0 y ∨ y = w.heap.size := fun y hy => by
      rcases ap.at_ y hy with ⟨o, h⟩ | h
      · cases h
      · exact Or.inr h
     have hon : Only (InAddr a0) w w' := ap.only.mono (fun y ⟨o, h⟩ => by cases h)
     refine ⟨a', c', w', ?_, ap.own, ap.cap.wide, hat, hon⟩
     cases a0 with
     | none => exact hr
     | some ad =>
      rw [← hr]
      obtain ⟨i, z, ht, hi, hz, hs, hzs, h0, hbt⟩ := hT
      cases ax with
      | none =>
       obtain ⟨_, _, h, _⟩ := hx 0 (by omega)
       cases h
      | some ax =>
       have hl : m * i.bytes ≤ 16777216 * 1024 := Nat.mul_le_mul (by omega) hbt
       have hfl : (flat m size g).length = m * i.size := by rw [flat_length, hs]
       have r1 := run_append_nil (P := P) w t ty e i z ht hi hz ax m c (flat m size g) hfl (flat_news hx) (by omega) (by omega) (by omega)
       have r2 := run_append_grow (P := P) w t ty e i z ht hi hz ad 0 0 [] (by simp) (by simp) ax m c (flat m size g) hfl (flat_news hx) (by omega) (by omega) (growslice_fits (by omega) (by simp; omega))
       rw [r1, r2]
       simp
 · obtain ⟨a', c', w', hr', ap⟩ := run_append_row (P := P) w ty hT (some ⟨b, 0, none⟩) n c0 f ho (Or.inr ⟨b, l, rfl, hr, hl, hnc, hm⟩) ax m c g hx h1 hn
   exact ⟨a', c', w', hr', ap.own, ap.cap.wide, ap.at_, ap.only⟩

theorem run_append_z {P : Program} (w : World) {t e : TypeId} {size : Nat} (ty : TypeId) (hT : SliceT P t e size) (a0 : Option Addr)
 (ax : Option Addr) (m c : Nat) (g : Nat → Nat → Value) (hx : RowAt w ax m size g) (h1 : ∀ k j, (g k j).oneCell' = true) (hn : m ≤ 16777216) :
 ∃ a' c' w', (Builtin.append_ #[t, t] ty #[.slice a0 0 0, .slice ax m c]).run P w = .ok (.slice a' m c') w' ∧ OwnL w' e size a' m g ∧ CapW w' e size a' m c' ∧ (∀ y, InAddr a' y → InAddr a0 y ∨ y = w.heap.size) ∧ Below w.heap.size w w' := by
 obtain ⟨a', c', w', hr, h2, h3, h4, h5⟩ := run_append_zeroX (P := P) w ty hT a0 ax m c g hx h1 hn
 obtain ⟨a2, c2, w2, hr2, o2, p2, at2, on2⟩ := run_append_w (P := P) w ty hT a0 0 0 g (ownL_zero _ _ _ _ _) (Or.inl ⟨rfl, rfl⟩) ax m c g hx h1 (by omega)
 rw [hr] at hr2
 rw [Nat.zero_add] at hr2 p2
 simp only [Result.ok.injEq, Value.slice.injEq, true_and] at hr2
 obtain ⟨⟨rfl, rfl⟩, rfl⟩ := hr2
 exact ⟨a', c', w', hr, h2, p2, at2, h5⟩

theorem step_append_z {P : Program} {w : World} {ops : Array Oper} {o : Oper} {a : Act} {K : Act → World → Prop} {Q : Exit → Act → World → Prop} {E : Prop} (hgd : o.guard = none) (s x : Operand) {t e : TypeId} {size : Nat}
 (ho : o.op = .call { callee := .builtin .append, args := #[s, x], argTypes := #[t, t] }) (hT : SliceT P t e size)
 (a0 : Option Addr) (hs : a.eval s = .slice a0 0 0)
 (ax : Option Addr) (m c : Nat) (g : Nat → Nat → Value) (hxe : a.eval x = .slice ax m c) (hx : RowAt w ax m size g) (h1 : ∀ k j, (g k j).oneCell' = true) (hn : m ≤ 16777216)
 (h : ∀ a' c' w', OwnL w' e size a' m g → CapW w' e size a' m c' → (∀ y, InAddr a' y → InAddr a0 y ∨ y = w.heap.size) → Below w.heap.size w w' → K (a.put o.dst (.slice a' m c')) w') :
 if Region.wanted o (yielded ops a.tmps) = true then Oper.wp P o a w K Q else E := by
 have hw : Region.wanted o (yielded ops a.tmps) = true := by simp [Region.wanted, hgd]
 rw [if_pos hw]
 obtain ⟨a', c', w', hr, h2, h3, h4, h5⟩ := run_append_z (P := P) w o.type hT a0 ax m c g hx h1 hn
 unfold Oper.wp execOp
 simp only [ho, resolve, invoke, builtin, Sem.run_bind, Sem.run_pure, Result.andThen_ok, List.map_toArray, List.map_cons, List.map_nil, hs, hxe, hr]
 exact h a' c' w' h2 h3 h4 h5
theorem rowAt_one {W : World} {E : Nat} {t : TypeId} {v : Value} (h : Row W E t [v]) : RowAt W (some ⟨E, 0, none⟩) 1 1 (fun _ _ => v) := by
 intro q hq
 have : q = 0 := by omega
 subst this
 refine ⟨_, _, rfl, h.lt, fun j hj => ?_⟩
 have : j = 0 := by omega
 subst this
 exact h.cell 0 rfl

theorem step_append_w {P : Program} {w : World} {ops : Array Oper} {o : Oper} {a : Act} {K : Act → World → Prop} {Q : Exit → Act → World → Prop} {E : Prop} (hgd : o.guard = none) (s x : Operand) {t e : TypeId} {size : Nat}
 (ho : o.op = .call { callee := .builtin .append, args := #[s, x], argTypes := #[t, t] }) (hT : SliceT P t e size)
 (a0 : Option Addr) (n c0 : Nat) (f : Nat → Nat → Value) (hs : a.eval s = .slice a0 n c0) (hown : OwnL w e size a0 n f) (hc : CapW w e size a0 n c0)
 (ax : Option Addr) (m c : Nat) (g : Nat → Nat → Value) (hxe : a.eval x = .slice ax m c) (hx : RowAt w ax m size g) (h1 : ∀ k j, (g k j).oneCell' = true) (hn : n + m ≤ 16777216)
 (h : ∀ a' c' w', OwnL w' e size a' (n + m) (behindF n f g) → CapW w' e size a' (n + m) c' → (∀ y, InAddr a' y → InAddr a0 y ∨ y = w.heap.size) → Only (InAddr a0) w w' → K (a.put o.dst (.slice a' (n + m) c')) w') :
 if Region.wanted o (yielded ops a.tmps) = true then Oper.wp P o a w K Q else E := by
 have hw : Region.wanted o (yielded ops a.tmps) = true := by simp [Region.wanted, hgd]
 rw [if_pos hw]
 obtain ⟨a', c', w', hr, h2, h3, h4, h5⟩ := run_append_w (P := P) w o.type hT a0 n c0 f hown hc ax m c g hx h1 hn
 unfold Oper.wp execOp
 simp only [ho, resolve, invoke, builtin, Sem.run_bind, Sem.run_pure, Result.andThen_ok, List.map_toArray, List.map_cons, List.map_nil, hs, hxe, hr]
 exact h a' c' w' h2 h3 h4 h5

end Go.Proofs.YtfmhkicncgccjaaGreat

