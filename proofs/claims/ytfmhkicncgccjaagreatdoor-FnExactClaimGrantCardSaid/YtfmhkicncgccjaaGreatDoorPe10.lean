/- Joined: GpF, GpG, GpH. -/
import Derived.Test.YtfmhkicncgccjaaGreatDoorPd12
import Derived.Test.YtfmhkicncgccjaaGreatDoorPe05
import Derived.Test.YtfmhkicncgccjaaGreatDoorPe04
import Derived.Deep.RegionWith
import Derived.Test.YtfmhkicncgccjaaGreatDoorPe03
import Derived.Test.YtfmhkicncgccjaaGreatDoorPd01
/- Plain: what the looks find, and whether the want is put in. -/
namespace Go.Proofs.YtfmhkicncgccjaaGreatDoor
open Go.RowKit Go.Sort
set_option linter.unusedSimpArgs false
set_option linter.unusedVariables false

theorem placeO_ne {x : Book} {y : Want} {v : Value} (h : placeO x y = some v) : (if firstTo y.uses.length (mayC x y) = 0 then amountsC x y else firstTo y.uses.length (mayC x y)) ≠ 0 := by
  unfold amountsC
  unfold placeO at h
  rw [firstIdx_to y.uses.length (p := mayC x y), firstIdx_to y.uses.length (p := amtAt x y)]
  cases h1 : firstIdx y.uses.length (mayC x y) with
  | some i =>
    have := firstIdx_ne _ h1
    simp only [this, if_false]
    exact this
  | none =>
    rw [h1] at h
    simp only [if_true]
    cases h2 : firstIdx y.uses.length (amtAt x y) with
    | some i => exact firstIdx_ne _ h2
    | none => rw [h2] at h; cases h
theorem looks_some {x : Book} {y : Want} {v : Value} (hb : bookB x = true) (hpn : partI x.parts y.number = -1) (h : looksO x y = some v) : codeC x y ≠ 0 := by
  unfold looksO at h
  rw [hb] at h
  simp only [if_true] at h
  cases hw : wantB y && knowsB x y with
  | false => rw [codeC_want hb hw]; omega
  | true =>
  rw [hw] at h
  simp only [if_true] at h
  rw [Bool.and_eq_true] at hw
  rw [codeC_number hb hw.1 hw.2]
  rw [numberC_none hpn]
  rw [hpn, if_neg (by omega)] at h
  by_cases h1 : y.number ≤ x.seen
  · rw [if_pos h1]; omega
  rw [if_neg h1] at h ⊢
  unfold laterC
  by_cases h2 : 6 ≤ x.parts.length
  · rw [if_pos h2]; omega
  rw [if_neg h2] at h ⊢
  rw [used_same, cross_same] at h
  cases hu : usedByB x y with
  | true => simp
  | false =>
  rw [hu] at h
  simp only [Bool.false_eq_true, if_false] at h ⊢
  cases hc : crossedB x y with
  | true => simp
  | false =>
  rw [hc] at h
  simp only [Bool.false_eq_true, if_false] at h ⊢
  unfold stuffsC
  rw [clash_same (bookB_parts hb).2.2]
  cases hpp : pairsB x.foes y.stuffs with
  | false => simp
  | true =>
  rw [hpp] at h
  simp only [Bool.not_true, Bool.false_eq_true, if_false, if_true] at h ⊢
  have hp := placeO_ne h
  cases k1 : y.kind == 1 with
  | true =>
    have e : mayC x y = mayAt x y := by funext i; unfold mayC; rw [k1]; rfl
    rw [e] at hp
    simp only [if_true]
    exact hp
  | false =>
    have e : firstTo y.uses.length (mayC x y) = 0 := firstTo_zeros (allTo_iff.2 fun i _ => by unfold mayC; rw [k1]; rfl)
    rw [e] at hp
    simp only [Bool.false_eq_true, if_false, if_true] at hp ⊢
    exact hp
theorem looks_none {x : Book} {y : Want} (hb : bookB x = true) (h : looksO x y = none) : codeC x y = 0 ∧ partI x.parts y.number = -1 := by
  refine ⟨?_, ?_⟩
  · rcases looks_code x y with ⟨_, h2⟩ | h1 | ⟨s, h1⟩
    · exact h2
    · rw [h] at h1; cases h1
    · rw [h] at h1; cases h1
  · rcases partI_cases x.parts y.number with ⟨hpn, -⟩ | ⟨j, hj, hpj, -, -⟩
    · exact hpn
    · unfold looksO at h
      rw [hb] at h
      simp only [if_true] at h
      cases hw : wantB y && knowsB x y with
      | false => rw [hw] at h; simp at h
      | true =>
        rw [hw] at h
        simp only [if_true] at h
        rw [if_pos (by omega)] at h
        cases h
/-- Every list of what may be left is ascending behind k uses. -/
theorem upTo_asc {x : Book} {y : Want} (hb : bookB x = true) : ∀ k, k ≤ y.uses.length → ∀ j, j < x.spots.length → AscT (gp (upTo (grantS y.stuffs) x.spots y.uses k) j).may := by
  refine upTo_all (R := fun _ _ s => AscT s.may) (fun j hj => ?_) (fun _ _ _ _ h => h) (fun k j s hk h => ?_)
  · unfold bookB at hb
    simp only [Bool.and_eq_true] at hb
    have := allTo_iff.1 hb.1.2 j hj
    unfold spotAtB at this
    rw [Bool.and_eq_true] at this
    have h2 := this.1
    unfold spotOkB at h2
    simp only [Bool.and_eq_true] at h2
    have h3 := h2.1.2
    unfold namesB at h3
    rw [Bool.and_eq_true] at h3
    refine asc_of fun k hk hlt => ?_
    have := allTo_iff.1 h3.2 k hlt
    unfold nameAtB at this
    rw [Bool.and_eq_true, Bool.or_eq_true] at this
    rcases this.2 with h0 | h0
    · simp at h0; omega
    · exact h0
  · unfold grantS
    dsimp only
    split
    · exact h
    · exact (insTo_asc h y.stuffs.length (Nat.le_refl _)).1

end Go.Proofs.YtfmhkicncgccjaaGreatDoor

/- What the program's claimed answers. -/
namespace Go.Proofs.YtfmhkicncgccjaaGreatDoor
open Go.RowKit Go.Sort
set_option linter.unusedSimpArgs false
set_option linter.unusedVariables false

set_option maxRecDepth 100000 in
set_option maxHeartbeats 4000000 in
theorem claimed_own (s : Spot) (m : Option Addr) (c : Nat) (u : Use) (stuffs : List ByteArray) (a2 : Option Addr) (c2 : Nat) (w : World) (ho : OwnL w 9 1 m s.may.length (strF s.may)) (hc : s.may.length ≤ c) (hs : StrsAt w a2 stuffs) (hasc : AscT s.may) (lm : s.may.length ≤ 100) (ls : stuffs.length ≤ 100) (hl : Lv 100000 s) (ha : 0 ≤ u.amount ∧ u.amount ≤ 1000) :
    Calls Tryz.prog 95 #[spotV s m c, .slice a2 stuffs.length c2, useV u] w fun e w' => (∃ m' c', e = .returned (spotV (grantS stuffs s u) m' c') ∧ OwnL w' 9 1 m' (grantS stuffs s u).may.length (strF (grantS stuffs s u).may) ∧ (grantS stuffs s u).may.length ≤ c' ∧ ∀ q, InSlot m' (grantS stuffs s u).may.length q → InSlot m s.may.length q ∨ w.heap.size ≤ q) ∧ Below w.heap.size w w' := by
  obtain ⟨W0, hW0⟩ : ∃ W, W = ((w.alloc (.cells #[.string s.name, .int .i64 s.cap, .int .i64 s.least, .int .i64 s.most, .slice m s.may.length c] 99)).alloc (.cells #[.string u.name, .int .i64 u.role, .int .i64 u.amount] 101)).alloc (.cells #[.string ⟨#[]⟩, .int .i64 0, .int .i64 0, .int .i64 0, .slice none 0 0] 99) := ⟨_, rfl⟩
  have b0 : Below w.heap.size w W0 := by rw [hW0]; exact (((Below.refl _ _).alloc (Nat.le_refl _) _).alloc (by simp) _).alloc (by simp; omega) _
  have i0 : Row W0 w.heap.size 99 [.string s.name, .int .i64 s.cap, .int .i64 s.least, .int .i64 s.most, .slice m s.may.length c] := by rw [hW0]; exact ((Row.new _ _ _).alloc _).alloc _
  have u0 : Row W0 (w.heap.size + 1) 101 [.string u.name, .int .i64 u.role, .int .i64 u.amount] := by
    rw [hW0]
    have := (Row.new (w.alloc (.cells #[.string s.name, .int .i64 s.cap, .int .i64 s.least, .int .i64 s.most, .slice m s.may.length c] 99)) 101 [.string u.name, .int .i64 u.role, .int .i64 u.amount]).alloc (.cells #[.string ⟨#[]⟩, .int .i64 0, .int .i64 0, .int .i64 0, .slice none 0 0] 99)
    simpa using this
  have z0 : Row W0 (w.heap.size + 1 + 1) 99 [.string ⟨#[]⟩, .int .i64 0, .int .i64 0, .int .i64 0, .slice none 0 0] := by
    rw [hW0]
    have := Row.new ((w.alloc (.cells #[.string s.name, .int .i64 s.cap, .int .i64 s.least, .int .i64 s.most, .slice m s.may.length c] 99)).alloc (.cells #[.string u.name, .int .i64 u.role, .int .i64 u.amount] 101)) 99 [.string ⟨#[]⟩, .int .i64 0, .int .i64 0, .int .i64 0, .slice none 0 0]
    simpa using this
  have sz0 : W0.heap.size = w.heap.size + 3 := by rw [hW0]; simp
  unfold Lv at hl
  by_cases e1 : u.role = 1
  · have hg : grantS stuffs s u = ⟨s.name, s.cap, s.least - u.amount, s.most, s.may⟩ := by unfold grantS; rw [e1]; simp
    have hwr : wrap64 (s.least - u.amount) = s.least - u.amount := by unfold wrap64; omega
    rw [hg]
    dsimp only
    unfold spotV useV
    have e1b : (u.role == 1) = true := by simp [e1]
    have OW : Hid _ := And.intro ho (And.intro b0 (And.intro hc sz0))
    clear ho b0 hc hl ha lm ls hasc hs e1 hg i0 u0 z0 sz0
    go_enter Tryz.func95, Tryz.ntmps95
    go_wp2_with fail
    refine bodyPost_ret (v := .agg #[.string s.name, .int .i64 s.cap, .int .i64 (s.least - u.amount), .int .i64 s.most, .slice m s.may.length c])
      (by simp [results, Tryz.results95, go_sem]) rfl ⟨⟨m, c, rfl, ?_, OW.out.2.2.1, fun q hq => Or.inl hq⟩, ?_⟩
    · exact OW.out.1.later ((((Below.refl _ _).alloc (Nat.le_refl _) _).alloc (by simp) _).alloc (by simp; omega) _)
    · exact (((Below.refl _ _).alloc (Nat.le_refl _) _).alloc (by simp) _).alloc (by simp; omega) _
  · have e1b : (u.role == 1) = false := by simp [e1]
    by_cases e2 : u.role = 2
    · have e2b : (u.role == 2) = true := by simp [e2]
      have hwr : wrap64 (s.most + u.amount) = s.most + u.amount := by unfold wrap64; omega
      have hg : grantS stuffs s u = ⟨s.name, s.cap, s.least, (s.most + u.amount), insTo s.may stuffs stuffs.length⟩ := by unfold grantS; rw [e2]; simp
      rw [hg]
      dsimp only
      unfold spotV useV
      obtain ⟨X0, hX0⟩ : ∃ W, W = ((w.alloc (.cells #[.string s.name, .int .i64 s.cap, .int .i64 s.least, .int .i64 (s.most + u.amount), .slice m s.may.length c] 99)).alloc (.cells #[.string u.name, .int .i64 u.role, .int .i64 u.amount] 101)).alloc (.cells #[.string ⟨#[]⟩, .int .i64 0, .int .i64 0, .int .i64 0, .slice none 0 0] 99) := ⟨_, rfl⟩
      have b1 : Below w.heap.size w X0 := by rw [hX0]; exact (((Below.refl _ _).alloc (Nat.le_refl _) _).alloc (by simp) _).alloc (by simp; omega) _
      have i1 : Row X0 w.heap.size 99 [.string s.name, .int .i64 s.cap, .int .i64 s.least, .int .i64 (s.most + u.amount), .slice m s.may.length c] := by rw [hX0]; exact ((Row.new _ _ _).alloc _).alloc _
      have z1 : Row X0 (w.heap.size + 1 + 1) 99 [.string ⟨#[]⟩, .int .i64 0, .int .i64 0, .int .i64 0, .slice none 0 0] := by
        rw [hX0]
        have := Row.new ((w.alloc (.cells #[.string s.name, .int .i64 s.cap, .int .i64 s.least, .int .i64 (s.most + u.amount), .slice m s.may.length c] 99)).alloc (.cells #[.string u.name, .int .i64 u.role, .int .i64 u.amount] 101)) 99 [.string ⟨#[]⟩, .int .i64 0, .int .i64 0, .int .i64 0, .slice none 0 0]
        simpa using this
      have s1 : X0.heap.size = w.heap.size + 3 := by rw [hX0]; simp
      have hj := joined_own m a2 c c2 s.may stuffs X0 (ho.rowAt.later b1) (hs.later b1) lm ls hasc
      generalize insTo s.may stuffs stuffs.length = res at hj ⊢
      clear ho hs hasc b0 i0 u0 z0 sz0 hW0 hl ha lm ls e1 e2 hg hc
      go_enter Tryz.func95, Tryz.ntmps95
      go_wp2_with fail
      rw [← hX0]
      clear hX0
      refine hj.mono ?_
      rintro e w1 ⟨⟨a', c', rfl, oj, cj, lj⟩, hb⟩
      have b2 := b1.trans (hb.mono b1.size)
      have i2 := i1.later hb
      have z2 := z1.later hb
      have LJ : Hid (∀ q, InSlot a' res.length q → w.heap.size + 3 ≤ q) := fun q hq => by have := lj q hq; omega
      clear hj lj hb b1 i1 z1
      have g0 := i2.cell 0 rfl
      have g1 := i2.cell 1 rfl
      have g2 := i2.cell 2 rfl
      have g3 := i2.cell 3 rfl
      have g4 := i2.cell 4 rfl
      have g4f := i2.frozen 4
      have r0 := z2.cell 0 rfl
      have r1 := z2.cell 1 rfl
      have r2 := z2.cell 2 rfl
      have r3 := z2.cell 3 rfl
      have r4 := z2.cell 4 rfl
      have l0 := z2.frozen 0
      have l1 := z2.frozen 1
      have l2 := z2.frozen 2
      have l3 := z2.frozen 3
      have l4 := z2.frozen 4
      have hne : w.heap.size ≠ w.heap.size + 1 + 1 := by omega
      have OJ : Hid _ := oj
      clear oj
      go_wp2
      refine bodyPost_ret (v := .agg #[.string s.name, .int .i64 s.cap, .int .i64 s.least, .int .i64 (s.most + u.amount), .slice a' res.length c'])
        (by simp [results, Tryz.results95, go_sem, r0, r1, r2, r3, r4]) rfl ⟨⟨a', c', rfl, ?_, cj, fun q hq => Or.inr (by have := LJ.out q hq; omega)⟩, ?_⟩
      · have g : ∀ i, ∀ q, InSlot a' res.length q → ¬ q = (⟨w.heap.size, i, none⟩ : Addr).block := fun i q hq => by have := LJ.out q hq; simp only; omega
        have g' : ∀ i, ∀ q, InSlot a' res.length q → ¬ q = (⟨w.heap.size + 1 + 1, i, none⟩ : Addr).block := fun i q hq => by have := LJ.out q hq; simp only; omega
        exact (((((OwnL.only OJ.out (Only.cell _ _ _) (g 4)).only (Only.cell _ _ _) (g' 0)).only (Only.cell _ _ _) (g' 1)).only (Only.cell _ _ _) (g' 2)).only (Only.cell _ _ _) (g' 3)).only (Only.cell _ _ _) (g' 4)
      · exact (((((b2.setCell (by simp) _).setCell (by simp; omega) _).setCell (by simp; omega) _).setCell (by simp; omega) _).setCell (by simp; omega) _).setCell (by simp; omega) _
    · have e2b : (u.role == 2) = false := by simp [e2]
      have hg : grantS stuffs s u = ⟨s.name, s.cap, s.least, s.most, insTo s.may stuffs stuffs.length⟩ := by unfold grantS; simp [e1, e2]
      rw [hg]
      dsimp only
      unfold spotV useV
      obtain ⟨X0, hX0⟩ : ∃ W, W = ((w.alloc (.cells #[.string s.name, .int .i64 s.cap, .int .i64 s.least, .int .i64 s.most, .slice m s.may.length c] 99)).alloc (.cells #[.string u.name, .int .i64 u.role, .int .i64 u.amount] 101)).alloc (.cells #[.string ⟨#[]⟩, .int .i64 0, .int .i64 0, .int .i64 0, .slice none 0 0] 99) := ⟨_, rfl⟩
      have b1 : Below w.heap.size w X0 := by rw [hX0]; exact (((Below.refl _ _).alloc (Nat.le_refl _) _).alloc (by simp) _).alloc (by simp; omega) _
      have i1 : Row X0 w.heap.size 99 [.string s.name, .int .i64 s.cap, .int .i64 s.least, .int .i64 s.most, .slice m s.may.length c] := by rw [hX0]; exact ((Row.new _ _ _).alloc _).alloc _
      have z1 : Row X0 (w.heap.size + 1 + 1) 99 [.string ⟨#[]⟩, .int .i64 0, .int .i64 0, .int .i64 0, .slice none 0 0] := by
        rw [hX0]
        have := Row.new ((w.alloc (.cells #[.string s.name, .int .i64 s.cap, .int .i64 s.least, .int .i64 s.most, .slice m s.may.length c] 99)).alloc (.cells #[.string u.name, .int .i64 u.role, .int .i64 u.amount] 101)) 99 [.string ⟨#[]⟩, .int .i64 0, .int .i64 0, .int .i64 0, .slice none 0 0]
        simpa using this
      have s1 : X0.heap.size = w.heap.size + 3 := by rw [hX0]; simp
      have hj := joined_own m a2 c c2 s.may stuffs X0 (ho.rowAt.later b1) (hs.later b1) lm ls hasc
      generalize insTo s.may stuffs stuffs.length = res at hj ⊢
      clear ho hs hasc b0 i0 u0 z0 sz0 hW0 hl ha lm ls e1 e2 hg hc
      go_enter Tryz.func95, Tryz.ntmps95
      go_wp2_with fail
      rw [← hX0]
      clear hX0
      refine hj.mono ?_
      rintro e w1 ⟨⟨a', c', rfl, oj, cj, lj⟩, hb⟩
      have b2 := b1.trans (hb.mono b1.size)
      have i2 := i1.later hb
      have z2 := z1.later hb
      have LJ : Hid (∀ q, InSlot a' res.length q → w.heap.size + 3 ≤ q) := fun q hq => by have := lj q hq; omega
      clear hj lj hb b1 i1 z1
      have g0 := i2.cell 0 rfl
      have g1 := i2.cell 1 rfl
      have g2 := i2.cell 2 rfl
      have g3 := i2.cell 3 rfl
      have g4 := i2.cell 4 rfl
      have g4f := i2.frozen 4
      have r0 := z2.cell 0 rfl
      have r1 := z2.cell 1 rfl
      have r2 := z2.cell 2 rfl
      have r3 := z2.cell 3 rfl
      have r4 := z2.cell 4 rfl
      have l0 := z2.frozen 0
      have l1 := z2.frozen 1
      have l2 := z2.frozen 2
      have l3 := z2.frozen 3
      have l4 := z2.frozen 4
      have hne : w.heap.size ≠ w.heap.size + 1 + 1 := by omega
      have OJ : Hid _ := oj
      clear oj
      go_wp2
      refine bodyPost_ret (v := .agg #[.string s.name, .int .i64 s.cap, .int .i64 s.least, .int .i64 s.most, .slice a' res.length c'])
        (by simp [results, Tryz.results95, go_sem, r0, r1, r2, r3, r4]) rfl ⟨⟨a', c', rfl, ?_, cj, fun q hq => Or.inr (by have := LJ.out q hq; omega)⟩, ?_⟩
      · have g : ∀ i, ∀ q, InSlot a' res.length q → ¬ q = (⟨w.heap.size, i, none⟩ : Addr).block := fun i q hq => by have := LJ.out q hq; simp only; omega
        have g' : ∀ i, ∀ q, InSlot a' res.length q → ¬ q = (⟨w.heap.size + 1 + 1, i, none⟩ : Addr).block := fun i q hq => by have := LJ.out q hq; simp only; omega
        exact (((((OwnL.only OJ.out (Only.cell _ _ _) (g 4)).only (Only.cell _ _ _) (g' 0)).only (Only.cell _ _ _) (g' 1)).only (Only.cell _ _ _) (g' 2)).only (Only.cell _ _ _) (g' 3)).only (Only.cell _ _ _) (g' 4)
      · exact (((((b2.setCell (by simp) _).setCell (by simp; omega) _).setCell (by simp; omega) _).setCell (by simp; omega) _).setCell (by simp; omega) _).setCell (by simp; omega) _

end Go.Proofs.YtfmhkicncgccjaaGreatDoor

/- What the program's grantIn does. -/
namespace Go.Proofs.YtfmhkicncgccjaaGreatDoor
open Go.RowKit Go.Sort
set_option linter.unusedSimpArgs false
set_option linter.unusedVariables false

set_option maxRecDepth 100000 in
set_option maxHeartbeats 8000000 in
theorem grantIn_own (x : Book) (y : Want) (f0 f1 f2 f3 : Option Addr) (k0 k1 k2 k3 : Nat) (A1 : Nat → Option Addr) (C1 : Nat → Nat) (A2 : Nat → Nat → Option Addr) (C2 : Nat → Nat → Nat) (a2 a3 a4 a5 : Option Addr) (c2 c3 c4 c5 : Nat) (N0 B : Nat) (w : World)
    (hbox : Row w B 38 [.slice f0 x.foes.length k0, .slice f1 x.spots.length k1, .slice f2 x.valves.length k2, .slice f3 x.parts.length k3, .int .i64 x.seen])
    (own : OwnBook w x f0 f1 f2 f3 A1 C1 A2 C2) (cap : CapOf w 60 7 f3 x.parts.length k3) (lo : ∀ q, InBk x f0 f1 f2 f3 A1 A2 q → N0 ≤ q) (hBN : N0 ≤ B) (hBn : ¬ InBk x f0 f1 f2 f3 A1 A2 B) (hN : N0 ≤ w.heap.size) (hnil : x.parts.length = 0 → f3 = none)
    (hy : ∀ X, Below N0 w X → WantIn X y a2 a3 a4 a5) (hw : wantB y = true) (hk : knowsB x y = true) (hb : bookB x = true) :
    Calls Tryz.prog 49 #[.pointer (some ⟨B, 0, none⟩), wantW y a2 a3 a4 a5 c2 c3 c4 c5] w fun e w' => (e = .returned (.tuple #[]) ∧ ∃ (f3' : Option Addr) (k3' : Nat) (A' : Nat → Option Addr) (C' : Nat → Nat) (A2' : Nat → Nat → Option Addr) (C2' : Nat → Nat → Nat), Row w' B 38 [.slice f0 x.foes.length k0, .slice f1 x.spots.length k1, .slice f2 x.valves.length k2, .slice f3' (x.parts.length + 1) k3', .int .i64 y.number] ∧ OwnBook w' (putAt (seenAt x y.number) y) f0 f1 f2 f3' A' C' A2' C2' ∧ (∀ q, InBk (putAt (seenAt x y.number) y) f0 f1 f2 f3' A' A2' q → N0 ≤ q ∧ q ≠ B)) ∧ Below N0 w w' := by
  have hl := levels_of hb
  have hasc := upTo_asc (y := y) hb
  obtain ⟨hf12, hs8, hv12, hp6⟩ := bookB_small hb
  obtain ⟨hsl, hul, -, -⟩ := wantB_small hw
  have hR := wantB_room hw
  have hBlt := hbox.lt
  unfold wantW
  obtain ⟨W0, hW0⟩ : ∃ W, W = w.alloc (.cells #[.int .i64 y.number, .int .i64 y.kind, .slice a2 y.stuffs.length c2, .slice a3 y.uses.length c3, .slice a4 y.opens.length c4, .slice a5 y.shuts.length c5] 42) := ⟨_, rfl⟩
  have b0 : Below w.heap.size w W0 := by rw [hW0]; exact (Below.refl _ _).alloc (Nat.le_refl _) _
  have n0 : Row W0 w.heap.size 42 [.int .i64 y.number, .int .i64 y.kind, .slice a2 y.stuffs.length c2, .slice a3 y.uses.length c3, .slice a4 y.opens.length c4, .slice a5 y.shuts.length c5] := by rw [hW0]; exact Row.new _ _ _
  have i0 := hbox.later b0
  have own0 := own.later b0
  have cap0 := cap.later b0
  have sz0 : W0.heap.size = w.heap.size + 1 := by rw [hW0]; simp
  have CAPN : Hid (∀ q, InAddr f3 q → InSlot f3 x.parts.length q) := fun q hq => ⟨fun h0 => (by rw [hnil h0] at hq; obtain ⟨_, h⟩ := hq; cases h), hq⟩
  have HLO : Hid ((∀ q, InBk x f0 f1 f2 f3 A1 A2 q → N0 ≤ q ∧ q < w.heap.size) ∧ ∀ q, InAddr f3 q → N0 ≤ q ∧ q < w.heap.size) := ⟨fun q hq => ⟨lo q hq, own.lt hq⟩, fun q hq => ⟨lo q (Or.inr (Or.inr (Or.inr (Or.inl (CAPN.out q hq))))), cap.lt hq⟩⟩
  have HB0 : Hid (Below w.heap.size w W0 ∧ W0.heap.size = w.heap.size + 1) := ⟨b0, sz0⟩
  go_enter Tryz.func49, Tryz.ntmps49
  go_wp2_with fail
  rw [← hW0]
  clear hW0 own cap lo b0 sz0 hbox
  -- THE LOOP
  have hBw : B ≠ w.heap.size := by omega
  go_loopw [10] (fun i wr => ∃ (k : Nat) (A : Nat → Option Addr) (C : Nat → Nat) (X : World), X = wr ∧ k ≤ y.uses.length ∧ i = .int .i64 k ∧ Below N0 w X ∧ W0.heap.size ≤ X.heap.size ∧ Row X B 38 [.slice f0 x.foes.length k0, .slice f1 x.spots.length k1, .slice f2 x.valves.length k2, .slice f3 x.parts.length k3, .int .i64 x.seen] ∧ Row X w.heap.size 42 [.int .i64 y.number, .int .i64 y.kind, .slice a2 y.stuffs.length c2, .slice a3 y.uses.length c3, .slice a4 y.opens.length c4, .slice a5 y.shuts.length c5] ∧ OwnBook X ⟨x.foes, upTo (grantS y.stuffs) x.spots y.uses k, x.valves, x.parts, x.seen⟩ f0 f1 f2 f3 A C A2 C2 ∧ CapOf X 60 7 f3 x.parts.length k3 ∧ (∀ q, InBk ⟨x.foes, upTo (grantS y.stuffs) x.spots y.uses k, x.valves, x.parts, x.seen⟩ f0 f1 f2 f3 A A2 q → N0 ≤ q ∧ q ≠ B ∧ (q < w.heap.size ∨ W0.heap.size ≤ q))) (fun i _ => y.uses.length - (intOf i).toNat)
  case atStart =>
    exact ⟨0, A1, C1, _, rfl, Nat.zero_le _, rfl, HB0.out.1.mono hN, Nat.le_refl _, i0, n0, own0, cap0, fun q hq => ⟨(HLO.out.1 q hq).1, fun e => hBn (e ▸ hq), Or.inl (HLO.out.1 q hq).2⟩⟩
  case round =>
    obtain ⟨k, A, C, X, rfl, hkl, rfl, bX, sX, iX, nX, own, cap, lo⟩ := hrel
    clear i0 n0 own0 cap0
    by_cases hlt : k < y.uses.length
    · obtain ⟨bu, ou, ha, hbu, hc0, hc1, hc2⟩ := ((hy X bX).uses).at hlt
      subst ha
      have hlt2 : (k : Int) < y.uses.length := by omega
      have hk0 : (0 : Int) ≤ k := by omega
      obtain ⟨j, hj, hji⟩ := knowsB_spot hk hlt
      have hul' := upTo_length (grantS y.stuffs) x.spots y.uses k
      have hlv := (upTo_grant hw hl k (by omega) j hj)
      have has := hasc k (by omega) j hj
      have hsp := upTo_spotI (f := grantS y.stuffs) (fun _ _ => rfl) x.spots y.uses (k := k) (by omega) (gu y.uses k).name
      have hup : upTo (grantS y.stuffs) x.spots y.uses (k + 1) = (upTo (grantS y.stuffs) x.spots y.uses k).set j (grantS y.stuffs (gp (upTo (grantS y.stuffs) x.spots y.uses k) j) (gu y.uses k)) := by
        conv => lhs; unfold upTo
        rw [hji]
        rfl
      have ham := wantB_amount hw hlt
      have HUP : Hid (upTo (grantS y.stuffs) x.spots y.uses (k + 1) = (upTo (grantS y.stuffs) x.spots y.uses k).set j (grantS y.stuffs (gp (upTo (grantS y.stuffs) x.spots y.uses k) j) (gu y.uses k))) := hup
      clear hup
      generalize upTo (grantS y.stuffs) x.spots y.uses k = cur at own lo hul' hlv hsp has HUP
      obtain ⟨b1, rfl⟩ := own.spots.row.some_of (by dsimp only; omega)
      have hjc : j < cur.length := by omega
      have hb1 : N0 ≤ b1 ∧ b1 < w.heap.size := HLO.out.1 b1 (Or.inr (Or.inl (Or.inl ⟨by omega, 0, rfl⟩)))
      have hneq : b1 ≠ B := fun e => hBn (e ▸ Or.inr (Or.inl (Or.inl ⟨by omega, 0, rfl⟩)))
      have hneq1 : b1 ≠ w.heap.size := by omega
      have hneq3 : b1 ≠ X.heap.size := by have := bX.size; omega
      obtain ⟨X1, hX1⟩ : ∃ W, W = X.alloc (.cells #[.string (gu y.uses k).name, .int .i64 (gu y.uses k).role, .int .i64 (gu y.uses k).amount] 101) := ⟨_, rfl⟩
      have b1' : Below X.heap.size X X1 := by rw [hX1]; exact (Below.refl _ _).alloc (Nat.le_refl _) _
      have u1 : Row X1 X.heap.size 101 [.string (gu y.uses k).name, .int .i64 (gu y.uses k).role, .int .i64 (gu y.uses k).amount] := by rw [hX1]; exact Row.new _ _ _
      have bX1 := bX.trans (b1'.mono (Nat.le_trans hN bX.size))
      have iX1 := iX.later b1'
      have nX1 := nX.later b1'
      have own1 := own.later b1'
      have cap1 := cap.later b1'
      have q1 := iX1.cell 1 rfl
      have p0 := u1.cell 0 rfl
      have hS : ∀ W, Below X1.heap.size X1 W → (W.cell? ⟨B, 1, none⟩ = some (.slice (some ⟨b1, 0, none⟩) x.spots.length k1) ∧ W.cell? ⟨X.heap.size, 0, none⟩ = some (.string (gu y.uses k).name)) := fun W h => ⟨cell_later h q1, cell_later h p0⟩
      have hS0 := hS X1.drew (Below.drew (Below.refl _ _))
      have hspot : ∀ W, Below X1.heap.size X1 W → Calls Tryz.prog 94 #[.slice (some ⟨b1, 0, none⟩) x.spots.length k1, .string (gu y.uses k).name] W fun e w' => e = .returned (.int .i64 j) ∧ Below W.heap.size W w' := fun W h => by
        have := spotAt_any (some ⟨b1, 0, none⟩) k1 cur (gu y.uses k).name W (own1.later h).spots.at_ (by unfold maxLen; omega)
        rw [hsp, hji, hul'] at this
        exact this
      go_wp2_with fail
      rw [← hX1]
      clear hX1
      refine wp_region_E (fun W => W.cell? ⟨B, 1, none⟩ = some (.slice (some ⟨b1, 0, none⟩) x.spots.length k1) ∧ W.cell? ⟨X.heap.size, 0, none⟩ = some (.string (gu y.uses k).name)) 7 (by kernel_rfl) ?_
      refine wpAnyE_takeC (i := 0) (v := ?vaa0) rfl (by kernel_rfl) (by kernel_rfl) (by kernel_rfl) (by kernel_rfl) (by kernel_rfl) (fun _ _ _ h => h) (Or.inl ⟨by rfl, ?yaa0⟩) hS0 ?raa0
      case yaa0 =>
        intro w' hSw
        try dsimp only at hSw
        go_simp
        try with_reducible rfl
      try simp only [Act.put, List.setIfInBounds_toArray, List.set_cons_zero, List.set_cons_succ]
      refine wpAnyE_takeC (i := 1) (v := ?vaa1) rfl (by kernel_rfl) (by kernel_rfl) (by kernel_rfl) (by kernel_rfl) (by kernel_rfl) (fun _ _ _ h => h) (Or.inl ⟨by rfl, ?yaa1⟩) hS0 ?raa1
      case yaa1 =>
        intro w' hSw
        try dsimp only at hSw
        go_simp
        try with_reducible rfl
      try simp only [Act.put, List.setIfInBounds_toArray, List.set_cons_zero, List.set_cons_succ]
      refine wpAnyE_takeC (i := 2) (v := ?vaa2) rfl (by kernel_rfl) (by kernel_rfl) (by kernel_rfl) (by kernel_rfl) (by kernel_rfl) (fun _ _ _ h => h) (Or.inl ⟨by rfl, ?yaa2⟩) hS0 ?raa2
      case yaa2 =>
        intro w' hSw
        try dsimp only at hSw
        go_simp
        try with_reducible rfl
      try simp only [Act.put, List.setIfInBounds_toArray, List.set_cons_zero, List.set_cons_succ]
      refine wpAnyE_takeC (i := 3) (v := ?vaa3) rfl (by kernel_rfl) (by kernel_rfl) (by kernel_rfl) (by kernel_rfl) (by kernel_rfl) (fun _ _ _ h => h) (Or.inl ⟨by rfl, ?yaa3⟩) hS0 ?raa3
      case yaa3 =>
        intro w' hSw
        try dsimp only at hSw
        go_simp
        try with_reducible rfl
      try simp only [Act.put, List.setIfInBounds_toArray, List.set_cons_zero, List.set_cons_succ]
      refine wpAnyE_takeC (i := 4) (v := ?vaa4) rfl (by kernel_rfl) (by kernel_rfl) (by kernel_rfl) (by kernel_rfl) (by kernel_rfl) (fun _ _ _ h => h) (Or.inl ⟨by rfl, ?yaa4⟩) hS0 ?raa4
      case yaa4 =>
        intro w' hSw
        try dsimp only at hSw
        go_simp
        try with_reducible rfl
      try simp only [Act.put, List.setIfInBounds_toArray, List.set_cons_zero, List.set_cons_succ]
      refine wpAnyE_takeC (i := 5) (v := ?vaa5) rfl (by kernel_rfl) (by kernel_rfl) (by kernel_rfl) (by kernel_rfl) (by kernel_rfl) (fun _ _ _ h => h) (Or.inl ⟨by rfl, ?yaa5⟩) hS0 ?raa5
      case yaa5 =>
        intro w' hSw
        try dsimp only at hSw
        go_simp
        try with_reducible rfl
      try simp only [Act.put, List.setIfInBounds_toArray, List.set_cons_zero, List.set_cons_succ]
      refine wpAnyE_oneC (i := 6) rfl (by kernel_rfl) ?_
      intro K hK
      rw [if_pos (by rfl)]
      go_wp2_with (go_at_call 94; refine (hspot _ (Below.drew (Below.refl _ _))).mono ?_; rintro e X2 ⟨rfl, hb2'⟩)
      have hb2 : Below X1.heap.size X1 X2 := (Below.drew (Below.refl _ _)).trans hb2'
      refine hK.out _ _ (fun _ => hS X2 hb2) ?_
      clear hK K
      have hS1 := hS X2 hb2
      try simp only [Act.put, List.setIfInBounds_toArray, List.set_cons_zero, List.set_cons_succ]
      refine wpAnyE_oneC (i := 7) rfl (by kernel_rfl) ?_
      intro K hK
      rw [if_pos (by rfl)]
      go_wp2_with fail
      refine hK.out _ _ (fun h => absurd rfl h) ?_
      clear hK K
      try simp only [Act.put, List.setIfInBounds_toArray, List.set_cons_zero, List.set_cons_succ]
      refine wpAnyE_done (by kernel_rfl) ?_ _
      have bX2 := bX1.trans (hb2.mono (Nat.le_trans hN bX1.size))
      have iX2 := iX1.later hb2
      have nX2 := nX1.later hb2
      have u2 := u1.later hb2
      have own2 := own1.later hb2
      have cap2 := cap1.later hb2
      have s2 := u2.lt
      clear hS hS0 hS1 hspot hb2' hb2 b1' u1 bX1 iX1 nX1 own1 cap1 q1 p0 iX nX own cap hc0 hc1 hc2
      have hj2 : (j : Int) < x.spots.length := by omega
      have hj0 : (0 : Int) ≤ j := by omega
      have LOX : Hid (∀ q, InBk ⟨x.foes, cur, x.valves, x.parts, x.seen⟩ f0 (some ⟨b1, 0, none⟩) f2 f3 A A2 q → N0 ≤ q ∧ q ≠ B ∧ (q < w.heap.size ∨ W0.heap.size ≤ q)) := lo
      clear lo
      obtain ⟨t0, t0f, -⟩ := own2.spots.row.cellAt hjc (by omega : 0 < 5)
      obtain ⟨t1, t1f, -⟩ := own2.spots.row.cellAt hjc (by omega : 1 < 5)
      obtain ⟨t2, t2f, -⟩ := own2.spots.row.cellAt hjc (by omega : 2 < 5)
      obtain ⟨t3, t3f, -⟩ := own2.spots.row.cellAt hjc (by omega : 3 < 5)
      obtain ⟨t4, t4f, -⟩ := own2.spots.row.cellAt hjc (by omega : 4 < 5)
      have hS : ∀ W, Below X2.heap.size X2 W → (W.cell? ⟨B, 1, none⟩ = some (.slice (some ⟨b1, 0, none⟩) x.spots.length k1) ∧ W.cell? ⟨b1, j * 5, none⟩ = some (.string (gp cur j).name) ∧ W.cell? ⟨b1, j * 5 + 1, none⟩ = some (.int .i64 (gp cur j).cap) ∧ W.cell? ⟨b1, j * 5 + 2, none⟩ = some (.int .i64 (gp cur j).least) ∧ W.cell? ⟨b1, j * 5 + 3, none⟩ = some (.int .i64 (gp cur j).most) ∧ W.cell? ⟨b1, j * 5 + 4, none⟩ = some (.slice (A j) (gp cur j).may.length (C j)) ∧ W.cell? ⟨w.heap.size, 2, none⟩ = some (.slice a2 y.stuffs.length c2) ∧ W.cell? ⟨X.heap.size, 0, none⟩ = some (.string (gu y.uses k).name) ∧ W.cell? ⟨X.heap.size, 1, none⟩ = some (.int .i64 (gu y.uses k).role) ∧ W.cell? ⟨X.heap.size, 2, none⟩ = some (.int .i64 (gu y.uses k).amount)) := fun W h =>
        ⟨cell_later h (iX2.cell 1 rfl), cell_later h t0, cell_later h t1, cell_later h t2, cell_later h t3, cell_later h t4, cell_later h (nX2.cell 2 rfl), cell_later h (u2.cell 0 rfl), cell_later h (u2.cell 1 rfl), cell_later h (u2.cell 2 rfl)⟩
      have hS0 := hS X2.drew (Below.drew (Below.refl _ _))
      have hcl : ∀ W, Below X2.heap.size X2 W → Calls Tryz.prog 95 #[spotV (gp cur j) (A j) (C j), .slice a2 y.stuffs.length c2, useV (gu y.uses k)] W fun e w' => (∃ m' c', e = .returned (spotV (grantS y.stuffs (gp cur j) (gu y.uses k)) m' c') ∧ OwnL w' 9 1 m' (grantS y.stuffs (gp cur j) (gu y.uses k)).may.length (strF (grantS y.stuffs (gp cur j) (gu y.uses k)).may) ∧ (grantS y.stuffs (gp cur j) (gu y.uses k)).may.length ≤ c' ∧ ∀ q, InSlot m' (grantS y.stuffs (gp cur j) (gu y.uses k)).may.length q → InSlot (A j) (gp cur j).may.length q ∨ W.heap.size ≤ q) ∧ Below W.heap.size W w' := fun W h =>
        claimed_own (gp cur j) (A j) (C j) (gu y.uses k) y.stuffs a2 c2 W ((own2.later h).spots.may j hjc) (own2.spots.cap j hjc) (hy W (bX2.trans (h.mono (Nat.le_trans hN bX2.size)))).stuffs has (by have := hlv.2; omega) (by omega) (by have := hlv.1; unfold Lv at this ⊢; omega) ham
      generalize grantS y.stuffs (gp cur j) (gu y.uses k) = gs' at hcl HUP
      unfold spotV useV at hcl
      have RX : Hid _ := And.intro iX2 (And.intro nX2 (And.intro own2 cap2))
      clear iX2 nX2 own2 cap2 u2 t0 t1 t2 t3 t4
      go_wp2_with fail
      refine wp_region_E (fun W => W.cell? ⟨B, 1, none⟩ = some (.slice (some ⟨b1, 0, none⟩) x.spots.length k1) ∧ W.cell? ⟨b1, j * 5, none⟩ = some (.string (gp cur j).name) ∧ W.cell? ⟨b1, j * 5 + 1, none⟩ = some (.int .i64 (gp cur j).cap) ∧ W.cell? ⟨b1, j * 5 + 2, none⟩ = some (.int .i64 (gp cur j).least) ∧ W.cell? ⟨b1, j * 5 + 3, none⟩ = some (.int .i64 (gp cur j).most) ∧ W.cell? ⟨b1, j * 5 + 4, none⟩ = some (.slice (A j) (gp cur j).may.length (C j)) ∧ W.cell? ⟨w.heap.size, 2, none⟩ = some (.slice a2 y.stuffs.length c2) ∧ W.cell? ⟨X.heap.size, 0, none⟩ = some (.string (gu y.uses k).name) ∧ W.cell? ⟨X.heap.size, 1, none⟩ = some (.int .i64 (gu y.uses k).role) ∧ W.cell? ⟨X.heap.size, 2, none⟩ = some (.int .i64 (gu y.uses k).amount)) 17 (by kernel_rfl) ?_
      refine wpAnyE_takeC (i := 0) (v := ?vab0) rfl (by kernel_rfl) (by kernel_rfl) (by kernel_rfl) (by kernel_rfl) (by kernel_rfl) (fun _ _ _ h => h) (Or.inl ⟨by rfl, ?yab0⟩) hS0 ?rab0
      case yab0 =>
        intro w' hSw
        try dsimp only at hSw
        go_simp
        try with_reducible rfl
      try simp only [Act.put, List.setIfInBounds_toArray, List.set_cons_zero, List.set_cons_succ]
      refine wpAnyE_takeC (i := 1) (v := ?vab1) rfl (by kernel_rfl) (by kernel_rfl) (by kernel_rfl) (by kernel_rfl) (by kernel_rfl) (fun _ _ _ h => h) (Or.inl ⟨by rfl, ?yab1⟩) hS0 ?rab1
      case yab1 =>
        intro w' hSw
        try dsimp only at hSw
        go_simp
        try with_reducible rfl
      try simp only [Act.put, List.setIfInBounds_toArray, List.set_cons_zero, List.set_cons_succ]
      refine wpAnyE_takeC (i := 2) (v := ?vab2) rfl (by kernel_rfl) (by kernel_rfl) (by kernel_rfl) (by kernel_rfl) (by kernel_rfl) (fun _ _ _ h => h) (Or.inl ⟨by rfl, ?yab2⟩) hS0 ?rab2
      case yab2 =>
        intro w' hSw
        try dsimp only at hSw
        go_simp
        try with_reducible rfl
      try simp only [Act.put, List.setIfInBounds_toArray, List.set_cons_zero, List.set_cons_succ]
      refine wpAnyE_takeC (i := 3) (v := ?vab3) rfl (by kernel_rfl) (by kernel_rfl) (by kernel_rfl) (by kernel_rfl) (by kernel_rfl) (fun _ _ _ h => h) (Or.inl ⟨by rfl, ?yab3⟩) hS0 ?rab3
      case yab3 =>
        intro w' hSw
        try dsimp only at hSw
        go_simp
        try with_reducible rfl
      try simp only [Act.put, List.setIfInBounds_toArray, List.set_cons_zero, List.set_cons_succ]
      refine wpAnyE_takeC (i := 4) (v := ?vab4) rfl (by kernel_rfl) (by kernel_rfl) (by kernel_rfl) (by kernel_rfl) (by kernel_rfl) (fun _ _ _ h => h) (Or.inl ⟨by rfl, ?yab4⟩) hS0 ?rab4
      case yab4 =>
        intro w' hSw
        try dsimp only at hSw
        go_simp
        try with_reducible rfl
      try simp only [Act.put, List.setIfInBounds_toArray, List.set_cons_zero, List.set_cons_succ]
      refine wpAnyE_takeC (i := 5) (v := ?vab5) rfl (by kernel_rfl) (by kernel_rfl) (by kernel_rfl) (by kernel_rfl) (by kernel_rfl) (fun _ _ _ h => h) (Or.inl ⟨by rfl, ?yab5⟩) hS0 ?rab5
      case yab5 =>
        intro w' hSw
        try dsimp only at hSw
        go_simp
        try with_reducible rfl
      try simp only [Act.put, List.setIfInBounds_toArray, List.set_cons_zero, List.set_cons_succ]
      refine wpAnyE_takeC (i := 6) (v := ?vab6) rfl (by kernel_rfl) (by kernel_rfl) (by kernel_rfl) (by kernel_rfl) (by kernel_rfl) (fun _ _ _ h => h) (Or.inl ⟨by rfl, ?yab6⟩) hS0 ?rab6
      case yab6 =>
        intro w' hSw
        try dsimp only at hSw
        go_simp
        try with_reducible rfl
      try simp only [Act.put, List.setIfInBounds_toArray, List.set_cons_zero, List.set_cons_succ]
      refine wpAnyE_takeC (i := 7) (v := ?vab7) rfl (by kernel_rfl) (by kernel_rfl) (by kernel_rfl) (by kernel_rfl) (by kernel_rfl) (fun _ _ _ h => h) (Or.inl ⟨by rfl, ?yab7⟩) hS0 ?rab7
      case yab7 =>
        intro w' hSw
        try dsimp only at hSw
        go_simp
        try with_reducible rfl
      try simp only [Act.put, List.setIfInBounds_toArray, List.set_cons_zero, List.set_cons_succ]
      refine wpAnyE_takeC (i := 8) (v := ?vab8) rfl (by kernel_rfl) (by kernel_rfl) (by kernel_rfl) (by kernel_rfl) (by kernel_rfl) (fun _ _ _ h => h) (Or.inl ⟨by rfl, ?yab8⟩) hS0 ?rab8
      case yab8 =>
        intro w' hSw
        try dsimp only at hSw
        go_simp
        try with_reducible rfl
      try simp only [Act.put, List.setIfInBounds_toArray, List.set_cons_zero, List.set_cons_succ]
      refine wpAnyE_takeC (i := 9) (v := ?vab9) rfl (by kernel_rfl) (by kernel_rfl) (by kernel_rfl) (by kernel_rfl) (by kernel_rfl) (fun _ _ _ h => h) (Or.inl ⟨by rfl, ?yab9⟩) hS0 ?rab9
      case yab9 =>
        intro w' hSw
        try dsimp only at hSw
        go_simp
        try with_reducible rfl
      try simp only [Act.put, List.setIfInBounds_toArray, List.set_cons_zero, List.set_cons_succ]
      refine wpAnyE_takeC (i := 10) (v := ?vab10) rfl (by kernel_rfl) (by kernel_rfl) (by kernel_rfl) (by kernel_rfl) (by kernel_rfl) (fun _ _ _ h => h) (Or.inl ⟨by rfl, ?yab10⟩) hS0 ?rab10
      case yab10 =>
        intro w' hSw
        try dsimp only at hSw
        go_simp
        try with_reducible rfl
      try simp only [Act.put, List.setIfInBounds_toArray, List.set_cons_zero, List.set_cons_succ]
      refine wpAnyE_takeC (i := 11) (v := ?vab11) rfl (by kernel_rfl) (by kernel_rfl) (by kernel_rfl) (by kernel_rfl) (by kernel_rfl) (fun _ _ _ h => h) (Or.inl ⟨by rfl, ?yab11⟩) hS0 ?rab11
      case yab11 =>
        intro w' hSw
        try dsimp only at hSw
        go_simp
        try with_reducible rfl
      try simp only [Act.put, List.setIfInBounds_toArray, List.set_cons_zero, List.set_cons_succ]
      refine wpAnyE_takeC (i := 12) (v := ?vab12) rfl (by kernel_rfl) (by kernel_rfl) (by kernel_rfl) (by kernel_rfl) (by kernel_rfl) (fun _ _ _ h => h) (Or.inl ⟨by rfl, ?yab12⟩) hS0 ?rab12
      case yab12 =>
        intro w' hSw
        try dsimp only at hSw
        go_simp
        try with_reducible rfl
      try simp only [Act.put, List.setIfInBounds_toArray, List.set_cons_zero, List.set_cons_succ]
      refine wpAnyE_takeC (i := 13) (v := ?vab13) rfl (by kernel_rfl) (by kernel_rfl) (by kernel_rfl) (by kernel_rfl) (by kernel_rfl) (fun _ _ _ h => h) (Or.inl ⟨by rfl, ?yab13⟩) hS0 ?rab13
      case yab13 =>
        intro w' hSw
        try dsimp only at hSw
        go_simp
        try with_reducible rfl
      try simp only [Act.put, List.setIfInBounds_toArray, List.set_cons_zero, List.set_cons_succ]
      refine wpAnyE_takeC (i := 14) (v := ?vab14) rfl (by kernel_rfl) (by kernel_rfl) (by kernel_rfl) (by kernel_rfl) (by kernel_rfl) (fun _ _ _ h => h) (Or.inl ⟨by rfl, ?yab14⟩) hS0 ?rab14
      case yab14 =>
        intro w' hSw
        try dsimp only at hSw
        go_simp
        try with_reducible rfl
      try simp only [Act.put, List.setIfInBounds_toArray, List.set_cons_zero, List.set_cons_succ]
      refine wpAnyE_oneC (i := 15) rfl (by kernel_rfl) ?_
      intro K hK
      rw [if_pos (by rfl)]
      go_wp2_with (go_at_call 95; refine (hcl _ (Below.drew (Below.refl _ _))).mono ?_; rintro e Y1 ⟨⟨m', c', rfl, oN, hcN, hat⟩, hbN'⟩)
      have hbN : Below X2.heap.size X2 Y1 := (Below.drew (Below.refl _ _)).trans hbN'
      refine hK.out _ _ (fun _ => hS Y1 hbN) ?_
      clear hK K hS0
      have hS1 := hS Y1 hbN
      have own3 := RX.out.2.2.1.later hbN
      obtain ⟨t0, t0f', -⟩ := own3.spots.row.cellAt hjc (by omega : 0 < 5)
      obtain ⟨t1, t1f', -⟩ := own3.spots.row.cellAt hjc (by omega : 1 < 5)
      obtain ⟨t2, t2f', -⟩ := own3.spots.row.cellAt hjc (by omega : 2 < 5)
      obtain ⟨t3, t3f', -⟩ := own3.spots.row.cellAt hjc (by omega : 3 < 5)
      obtain ⟨t4, t4f', -⟩ := own3.spots.row.cellAt hjc (by omega : 4 < 5)
      have t0f2 : Y1.frozen? ⟨b1, j * 5, none⟩ = false := t0f'
      clear own3 t0 t1 t2 t3 t4
      try simp only [Act.put, List.setIfInBounds_toArray, List.set_cons_zero, List.set_cons_succ]
      refine wpAnyE_oneC (i := 16) rfl (by kernel_rfl) ?_
      intro K hK
      rw [if_pos (by rfl)]
      go_wp2_with fail
      refine hK.out _ _ (fun _ => hS1) ?_
      clear hK K
      try simp only [Act.put, List.setIfInBounds_toArray, List.set_cons_zero, List.set_cons_succ]
      refine wpAnyE_oneC (i := 17) rfl (by kernel_rfl) ?_
      intro K hK
      rw [if_pos (by rfl)]
      go_wp2_with fail
      refine hK.out _ _ (fun h => absurd rfl h) ?_
      clear hK K
      try simp only [Act.put, List.setIfInBounds_toArray, List.set_cons_zero, List.set_cons_succ]
      refine wpAnyE_done (by kernel_rfl) ?_ _
      obtain ⟨iX2, nX2, own2, cap2⟩ := RX.out
      have h5 := (own2.later hbN).spots.setAll hjc (s := gs') (a' := m') (c' := c') oN hcN (fun q hq e => ?n1) (fun i hi hij q hq => ?n2)
      case n1 =>
        rcases hat q hq with h | h
        · exact own2.spots.apart j hjc q h (by rw [e]; exact ⟨by dsimp only; omega, 0, rfl⟩)
        · have h' : X2.heap.size ≤ q := h
          have := bX2.size
          omega
      case n2 =>
        rcases hat q hq with h | h
        · exact own2.spots.each j i hjc hi (fun e => hij e.symm) q h
        · intro h2
          have h3 := (own2.spots.may i hi).lt h2
          have h' : X2.heap.size ≤ q := h
          omega
      obtain ⟨sp5, on5⟩ := h5
      have own5 := (own2.later hbN).withSpots (n := x.seen) (by dsimp only; omega) sp5 on5 (N := X2.heap.size) (fun q hq => own2.lt hq) (fun q hq => ?n3)
      case n3 =>
        rcases inSp_set hjc hq with h | h
        · exact Or.inl h
        · rcases hat q h with h | h
          · exact Or.inl (Or.inr ⟨j, hjc, h⟩)
          · exact Or.inr h
      have lo5 : ∀ q, InBk ⟨x.foes, cur.set j gs', x.valves, x.parts, x.seen⟩ f0 (some ⟨b1, 0, none⟩) f2 f3 (fun i => if i = j then m' else A i) A2 q → N0 ≤ q ∧ q ≠ B ∧ (q < w.heap.size ∨ W0.heap.size ≤ q) := by
        rintro q (hq | hq | hq)
        · exact LOX.out q (Or.inl hq)
        · rcases inSp_set hjc hq with h | h
          · exact LOX.out q (Or.inr (Or.inl h))
          · rcases hat q h with h | h
            · exact LOX.out q (Or.inr (Or.inl (Or.inr ⟨j, hjc, h⟩)))
            · have h' : X2.heap.size ≤ q := h
              have := bX2.size
              omega
        · exact LOX.out q (Or.inr (Or.inr hq))
      have cap5 := (cap2.later hbN).only on5 (fun q hq e => own2.d13 b1 (Or.inl ⟨by dsimp only; omega, 0, rfl⟩) (by have e' : q = b1 := e; rw [← e']; exact Or.inl (CAPN.out q hq)))
      have iY5 := (iX2.later hbN).only on5 (fun e => hneq e.symm)
      have nY5 := (nX2.later hbN).only on5 (fun e => hneq1 e.symm)
      have bY1 := bX2.trans (hbN.mono (Nat.le_trans hN bX2.size))
      have bY5 := bY1.trans (on5.below (fun q hq => by have e' : q = b1 := hq; omega) (Nat.le_trans hN bY1.size))
      have sY5 : W0.heap.size ≤ (((((Y1.setCell ⟨b1, j * 5, none⟩ (.string gs'.name)).setCell ⟨b1, j * 5 + 1, none⟩ (.int .i64 gs'.cap)).setCell ⟨b1, j * 5 + 2, none⟩ (.int .i64 gs'.least)).setCell ⟨b1, j * 5 + 3, none⟩ (.int .i64 gs'.most)).setCell ⟨b1, j * 5 + 4, none⟩ (.slice m' gs'.may.length c')).heap.size := by have := on5.size; have := hbN.size; omega
      obtain ⟨Y5, hY5⟩ : ∃ W, W = ((((Y1.setCell ⟨b1, j * 5, none⟩ (.string gs'.name)).setCell ⟨b1, j * 5 + 1, none⟩ (.int .i64 gs'.cap)).setCell ⟨b1, j * 5 + 2, none⟩ (.int .i64 gs'.least)).setCell ⟨b1, j * 5 + 3, none⟩ (.int .i64 gs'.most)).setCell ⟨b1, j * 5 + 4, none⟩ (.slice m' gs'.may.length c') := ⟨_, rfl⟩
      rw [← hY5] at own5 cap5 iY5 nY5 bY5 sY5 ⊢
      have OWN5 : Hid _ := own5
      have LO5 : Hid _ := lo5
      clear hY5 own5 lo5 sp5 on5 hS hS1 hcl oN hat hbN hbN' RX LOX iX2 nX2 own2 cap2 bY1 t0f t1f t2f t3f t4f t0f' t1f' t2f' t3f' t4f' t0f2
      go_wp2
      go_roundw
      case rel => exact ⟨k + 1, _, _, _, rfl, by omega, by go_num, bY5, sY5, iY5, nY5, by rw [HUP.out]; exact OWN5.out, cap5, by rw [HUP.out]; exact LO5.out⟩
      case measure => simp [intOf]; omega
    · have hke : k = y.uses.length := by omega
      have hlt2 : ¬ (k : Int) < y.uses.length := by omega
      have hnB : ¬ InAddr f3 B := fun h => hBn (Or.inr (Or.inr (Or.inr (Or.inl (CAPN.out _ h)))))
      have hnB1 : ¬ InAddr f3 w.heap.size := fun h => by have := HLO.out.2 _ h; omega
      have hS : ∀ W, Below X.heap.size X W → (W.cell? ⟨B, 3, none⟩ = some (.slice f3 x.parts.length k3) ∧ W.cell? ⟨w.heap.size, 0, none⟩ = some (.int .i64 y.number) ∧ W.cell? ⟨w.heap.size, 1, none⟩ = some (.int .i64 y.kind) ∧ W.cell? ⟨w.heap.size, 2, none⟩ = some (.slice a2 y.stuffs.length c2) ∧ W.cell? ⟨w.heap.size, 3, none⟩ = some (.slice a3 y.uses.length c3) ∧ W.cell? ⟨w.heap.size, 4, none⟩ = some (.slice a4 y.opens.length c4) ∧ W.cell? ⟨w.heap.size, 5, none⟩ = some (.slice a5 y.shuts.length c5)) := fun W h => ⟨cell_later h (iX.cell 3 rfl), cell_later h (nX.cell 0 rfl), cell_later h (nX.cell 1 rfl), cell_later h (nX.cell 2 rfl), cell_later h (nX.cell 3 rfl), cell_later h (nX.cell 4 rfl), cell_later h (nX.cell 5 rfl)⟩
      have hS0 := hS X.drew (Below.drew (Below.refl _ _))
      have hWant : ∀ W, Below X.heap.size X W → Calls Tryz.prog 93 #[wantW y a2 a3 a4 a5 c2 c3 c4 c5] W fun e w' => (∃ (A : Nat → Option Addr) (C : Nat → Nat), e = .returned (wantW y (A 0) (A 1) (A 2) (A 3) (C 0) (C 1) (C 2) (C 3)) ∧ OwnLists w' ⟨y, false⟩ A ∧ ∀ q, InLists ⟨y, false⟩ A q → W.heap.size ≤ q) ∧ Below W.heap.size W w' := fun W h =>
        freshWant_own ⟨y, false⟩ a2 a3 a4 a5 c2 c3 c4 c5 W (hy W (bX.trans (h.mono (Nat.le_trans hN bX.size)))) hR
      have hOwn : ∀ W, Below X.heap.size X W → OwnL W 60 7 f3 x.parts.length (fun j => partCell (gq x.parts j) (fun f => A2 j (f - 2)) (fun f => C2 j (f - 2))) ∧ CapOf W 60 7 f3 x.parts.length k3 := fun W h => ⟨(own.later h).parts.row, cap.later h⟩
      have OWN : Hid _ := own
      have LO : Hid _ := lo
      have bXX := Below.refl X.heap.size X
      have RX : Hid _ := And.intro iX nX
      unfold wantW at hWant
      clear own lo cap iX nX
      go_wp2_with fail
      refine wp_region_E (fun W => W.cell? ⟨B, 3, none⟩ = some (.slice f3 x.parts.length k3) ∧ W.cell? ⟨w.heap.size, 0, none⟩ = some (.int .i64 y.number) ∧ W.cell? ⟨w.heap.size, 1, none⟩ = some (.int .i64 y.kind) ∧ W.cell? ⟨w.heap.size, 2, none⟩ = some (.slice a2 y.stuffs.length c2) ∧ W.cell? ⟨w.heap.size, 3, none⟩ = some (.slice a3 y.uses.length c3) ∧ W.cell? ⟨w.heap.size, 4, none⟩ = some (.slice a4 y.opens.length c4) ∧ W.cell? ⟨w.heap.size, 5, none⟩ = some (.slice a5 y.shuts.length c5)) 12 (by kernel_rfl) ?_
      refine wpAnyE_takeC (i := 0) (v := ?vat0) rfl (by kernel_rfl) (by kernel_rfl) (by kernel_rfl) (by kernel_rfl) (by kernel_rfl) (fun _ _ _ h => h) (Or.inl ⟨by rfl, ?yat0⟩) hS0 ?rat0
      case yat0 =>
        intro w' hSw
        try dsimp only at hSw
        go_simp
        try with_reducible rfl
      try simp only [Act.put, List.setIfInBounds_toArray, List.set_cons_zero, List.set_cons_succ]
      refine wpAnyE_takeC (i := 1) (v := ?vat1) rfl (by kernel_rfl) (by kernel_rfl) (by kernel_rfl) (by kernel_rfl) (by kernel_rfl) (fun _ _ _ h => h) (Or.inl ⟨by rfl, ?yat1⟩) hS0 ?rat1
      case yat1 =>
        intro w' hSw
        try dsimp only at hSw
        go_simp
        try with_reducible rfl
      try simp only [Act.put, List.setIfInBounds_toArray, List.set_cons_zero, List.set_cons_succ]
      refine wpAnyE_takeC (i := 2) (v := ?vat2) rfl (by kernel_rfl) (by kernel_rfl) (by kernel_rfl) (by kernel_rfl) (by kernel_rfl) (fun _ _ _ h => h) (Or.inl ⟨by rfl, ?yat2⟩) hS0 ?rat2
      case yat2 =>
        intro w' hSw
        try dsimp only at hSw
        go_simp
        try with_reducible rfl
      try simp only [Act.put, List.setIfInBounds_toArray, List.set_cons_zero, List.set_cons_succ]
      refine wpAnyE_takeC (i := 3) (v := ?vat3) rfl (by kernel_rfl) (by kernel_rfl) (by kernel_rfl) (by kernel_rfl) (by kernel_rfl) (fun _ _ _ h => h) (Or.inl ⟨by rfl, ?yat3⟩) hS0 ?rat3
      case yat3 =>
        intro w' hSw
        try dsimp only at hSw
        go_simp
        try with_reducible rfl
      try simp only [Act.put, List.setIfInBounds_toArray, List.set_cons_zero, List.set_cons_succ]
      refine wpAnyE_takeC (i := 4) (v := ?vat4) rfl (by kernel_rfl) (by kernel_rfl) (by kernel_rfl) (by kernel_rfl) (by kernel_rfl) (fun _ _ _ h => h) (Or.inl ⟨by rfl, ?yat4⟩) hS0 ?rat4
      case yat4 =>
        intro w' hSw
        try dsimp only at hSw
        go_simp
        try with_reducible rfl
      try simp only [Act.put, List.setIfInBounds_toArray, List.set_cons_zero, List.set_cons_succ]
      refine wpAnyE_takeC (i := 5) (v := ?vat5) rfl (by kernel_rfl) (by kernel_rfl) (by kernel_rfl) (by kernel_rfl) (by kernel_rfl) (fun _ _ _ h => h) (Or.inl ⟨by rfl, ?yat5⟩) hS0 ?rat5
      case yat5 =>
        intro w' hSw
        try dsimp only at hSw
        go_simp
        try with_reducible rfl
      try simp only [Act.put, List.setIfInBounds_toArray, List.set_cons_zero, List.set_cons_succ]
      refine wpAnyE_oneC (i := 6) rfl (by kernel_rfl) ?_
      intro K hK
      rw [if_pos (by rfl)]
      go_wp2_with (go_at_call 93; refine (hWant _ (Below.drew (Below.refl _ _))).mono ?_; rintro e w4 ⟨⟨A', C', rfl, o4, lo4⟩, hb4⟩)
      have hbY : Below X.heap.size X w4 := (Below.drew (Below.refl _ _)).trans hb4
      have lo4' : ∀ q, InLists ⟨y, false⟩ A' q → X.heap.size ≤ q := lo4
      refine hK.out _ _ (fun _ => hS w4 hbY) ?_
      clear hK K lo4 hS0
      have hS4 := hS w4 hbY
      have sY := hbY.size
      try simp only [Act.put, List.setIfInBounds_toArray, List.set_cons_zero, List.set_cons_succ]
      refine wpAnyE_takeC (i := 7) (v := ?vat7) rfl (by kernel_rfl) (by kernel_rfl) (by kernel_rfl) (by kernel_rfl) (by kernel_rfl) (fun _ _ _ h => h) (Or.inl ⟨by rfl, ?yat7⟩) hS4 ?rat7
      case yat7 =>
        intro w' hSw
        try dsimp only at hSw
        go_simp
        try with_reducible rfl
      try simp only [Act.put, List.setIfInBounds_toArray, List.set_cons_zero, List.set_cons_succ]
      refine wpAnyE_oneC (i := 8) rfl (by kernel_rfl) ?_
      intro K hK
      rw [if_pos (by rfl)]
      go_wp2_with fail
      refine hK.out _ _ (fun _ => hS _ (by (repeat (first | assumption | exact Below.refl _ _ | refine Below.drew ?_ | refine Below.alloc ?_ (by (try simp); (try omega)) _ | refine Below.setCell ?_ (by (try simp); (try omega)) _)))) ?_
      clear hK K hS4
      try simp only [Act.put, List.setIfInBounds_toArray, List.set_cons_zero, List.set_cons_succ]
      refine wpAnyE_oneC (i := 9) rfl (by kernel_rfl) ?_
      intro K hK
      refine step_append_row (by rfl) _ _ (by rfl) slicePart f3 x.parts.length k3 _ (by rfl) (hOwn _ (by (repeat (first | assumption | exact Below.refl _ _ | refine Below.drew ?_ | refine Below.alloc ?_ (by (try simp); (try omega)) _ | refine Below.setCell ?_ (by (try simp); (try omega)) _)))).1 (hOwn _ (by (repeat (first | assumption | exact Below.refl _ _ | refine Below.drew ?_ | refine Below.alloc ?_ (by (try simp); (try omega)) _ | refine Below.setCell ?_ (by (try simp); (try omega)) _)))).2 (some ⟨w4.heap.size, 0, none⟩) 1 1 (fun _ => partCell ⟨y, false⟩ (fun f => A' (f - 2)) (fun f => C' (f - 2))) (by rfl) (rowAt_part w4 ⟨y, false⟩ A' C') (fun _ j => onePart _ _ _ j) (by omega) ?_
      intro a'' c'' w6 apd
      have rB6 := (by refine Row.only (Row.later RX.out.1 ?_) apd.only hnB; (repeat (first | assumption | exact Below.refl _ _ | refine Below.drew ?_ | refine Below.alloc ?_ (by (try simp); (try omega)) _ | refine Below.setCell ?_ (by (try simp); (try omega)) _)) : Row w6 B 38 [.slice f0 x.foes.length k0, .slice f1 x.spots.length k1, .slice f2 x.valves.length k2, .slice f3 x.parts.length k3, .int .i64 x.seen])
      have rW6 := (by refine Row.only (Row.later RX.out.2 ?_) apd.only hnB1; (repeat (first | assumption | exact Below.refl _ _ | refine Below.drew ?_ | refine Below.alloc ?_ (by (try simp); (try omega)) _ | refine Below.setCell ?_ (by (try simp); (try omega)) _)) : Row w6 w.heap.size 42 [.int .i64 y.number, .int .i64 y.kind, .slice a2 y.stuffs.length c2, .slice a3 y.uses.length c3, .slice a4 y.opens.length c4, .slice a5 y.shuts.length c5])
      have hS6 : w6.cell? ⟨B, 3, none⟩ = some (.slice f3 x.parts.length k3) ∧ w6.cell? ⟨w.heap.size, 0, none⟩ = some (.int .i64 y.number) ∧ w6.cell? ⟨w.heap.size, 1, none⟩ = some (.int .i64 y.kind) ∧ w6.cell? ⟨w.heap.size, 2, none⟩ = some (.slice a2 y.stuffs.length c2) ∧ w6.cell? ⟨w.heap.size, 3, none⟩ = some (.slice a3 y.uses.length c3) ∧ w6.cell? ⟨w.heap.size, 4, none⟩ = some (.slice a4 y.opens.length c4) ∧ w6.cell? ⟨w.heap.size, 5, none⟩ = some (.slice a5 y.shuts.length c5) := ⟨rB6.cell 3 rfl, rW6.cell 0 rfl, rW6.cell 1 rfl, rW6.cell 2 rfl, rW6.cell 3 rfl, rW6.cell 4 rfl, rW6.cell 5 rfl⟩
      have q36 := rB6.cell 3 rfl
      have q36f := rB6.frozen 3
      refine hK.out _ _ (fun _ => hS6) ?_
      clear hK K
      try simp only [Act.put, List.setIfInBounds_toArray, List.set_cons_zero, List.set_cons_succ]
      refine wpAnyE_oneC (i := 10) rfl (by kernel_rfl) ?_
      intro K hK
      rw [if_pos (by rfl)]
      go_wp2_with fail
      refine hK.out _ _ (fun _ => hS6) ?_
      clear hK K
      try simp only [Act.put, List.setIfInBounds_toArray, List.set_cons_zero, List.set_cons_succ]
      refine wpAnyE_oneC (i := 11) rfl (by kernel_rfl) ?_
      intro K hK
      rw [if_pos (by rfl)]
      go_wp2_with fail
      refine hK.out _ _ (fun _ => hS6) ?_
      clear hK K
      try simp only [Act.put, List.setIfInBounds_toArray, List.set_cons_zero, List.set_cons_succ]
      refine wpAnyE_oneC (i := 12) rfl (by kernel_rfl) ?_
      intro K hK
      rw [if_pos (by rfl)]
      go_wp2_with fail
      refine hK.out _ _ (fun h => absurd rfl h) ?_
      clear hK K
      try simp only [Act.put, List.setIfInBounds_toArray, List.set_cons_zero, List.set_cons_succ]
      refine wpAnyE_done (by kernel_rfl) ?_ _
      have hw5 : ∃ W5 : World, Below X.heap.size X W5 ∧ Appended 60 7 W5 w6 f3 x.parts.length 1 (fun j => partCell (gq x.parts j) (fun f => A2 j (f - 2)) (fun f => C2 j (f - 2))) (fun _ => partCell ⟨y, false⟩ (fun f => A' (f - 2)) (fun f => C' (f - 2))) a'' c'' ∧ OwnLists W5 ⟨y, false⟩ A' := by
        refine ⟨_, ?_, apd, OwnLists.later o4 ?_⟩
        · (repeat (first | assumption | exact Below.refl _ _ | refine Below.drew ?_ | refine Below.alloc ?_ (by (try simp); (try omega)) _ | refine Below.setCell ?_ (by (try simp); (try omega)) _))
        · exact (Below.refl _ _).alloc (Nat.le_refl _) _
      obtain ⟨W5, hb5, apd5, o5⟩ := hw5
      have s5 := hb5.size
      have own5 := OWN.out.later hb5
      have bW5 := bX.trans (hb5.mono (Nat.le_trans hN bX.size))
      have b6 : Below N0 w w6 := bW5.trans (apd5.only.below (fun q hq => (HLO.out.2 q hq).1) (Nat.le_trans hN bW5.size))
      have sn := OwnParts.snoc (c' := c'') own5.parts apd5 o5 (fun q hq hq' => by have := lo4' q hq; have := HLO.out.2 q hq'; have := bX.size; omega) (fun i hi q hq hq' => by
        have h4 := lo4' q hq
        obtain ⟨c, hc, hq'⟩ := hq'
        have := OWN.out.parts.lt (Or.inr ⟨i, hi, c, hc, hq'⟩)
        omega)
      have hInP : ∀ q, InPt a'' (x.parts ++ [⟨y, false⟩]) (fun k => if k = x.parts.length then A' else A2 k) q → InPt f3 x.parts A2 q ∨ X.heap.size ≤ q := by
        rintro q (hq | ⟨i, hi, c, hc, hq⟩)
        · rcases apd5.at_ q hq.2 with h | h
          · exact Or.inl (Or.inl (CAPN.out q h))
          · exact Or.inr (by omega)
        · by_cases e : i = x.parts.length
          · subst e
            simp only [if_true, gq_snoc_eq] at hq
            exact Or.inr (lo4' q ⟨c, hc, hq⟩)
          · have hi' : i < x.parts.length := by simp at hi; omega
            simp only [if_neg e, gq_snoc_lt hi'] at hq
            exact Or.inl (Or.inr ⟨i, hi', c, hc, hq⟩)
      have hff : ∀ q, InAddr f3 q → InPt f3 x.parts A2 q := fun q h => Or.inl (CAPN.out q h)
      have own6 : OwnBook w6 (putAt (seenAt x y.number) y) f0 f1 f2 a'' A C (fun k => if k = x.parts.length then A' else A2 k) (fun k => if k = x.parts.length then C' else C2 k) := by
        unfold putAt seenAt
        dsimp only
        rw [← hke]
        refine ⟨own5.foes.only apd5.only (fun q hq h => OWN.out.d03 q hq (hff q h)), own5.spots.only apd5.only (fun q hq h => OWN.out.d13 q hq (hff q h)), own5.valves.only apd5.only (fun q hq h => OWN.out.d23 q hq (hff q h)), sn, OWN.out.d01, OWN.out.d02, fun q hq hq' => ?_, OWN.out.d12, fun q hq hq' => ?_, fun q hq hq' => ?_⟩
        · rcases hInP q hq' with h | h
          · exact OWN.out.d03 q hq h
          · have := OWN.out.foes.lt hq; omega
        · rcases hInP q hq' with h | h
          · exact OWN.out.d13 q hq h
          · have := OWN.out.spots.lt hq; omega
        · rcases hInP q hq' with h | h
          · exact OWN.out.d23 q hq h
          · have := OWN.out.valves.lt hq; omega
      have far : ∀ q, InBk (putAt (seenAt x y.number) y) f0 f1 f2 a'' A (fun k => if k = x.parts.length then A' else A2 k) q → N0 ≤ q ∧ q ≠ B := by
        have far0 : ∀ q, InBk ⟨x.foes, upTo (grantS y.stuffs) x.spots y.uses k, x.valves, x.parts, x.seen⟩ f0 f1 f2 f3 A A2 q → N0 ≤ q ∧ q ≠ B := fun q hq => by have := LO.out q hq; omega
        unfold putAt seenAt
        dsimp only
        rw [← hke]
        rintro q (hq | hq | hq | hq)
        · exact far0 q (Or.inl hq)
        · exact far0 q (Or.inr (Or.inl hq))
        · exact far0 q (Or.inr (Or.inr (Or.inl hq)))
        · rcases hInP q hq with h | h
          · exact far0 q (Or.inr (Or.inr (Or.inr h)))
          · have := bX.size; omega
      have own7 := own6.only (Only.cell w6 ⟨B, 3, none⟩ (.slice a'' (x.parts.length + 1) c'')) (fun q hq e => (far q hq).2 e)
      have rB7 := rB6.set 3 (.slice a'' (x.parts.length + 1) c'')
      have rW7 := rW6.other (a := ⟨B, 3, none⟩) (fun h => hBw h.symm) (.slice a'' (x.parts.length + 1) c'')
      have b7 := b6.setCell (p := ⟨B, 3, none⟩) hBN (.slice a'' (x.parts.length + 1) c'')
      obtain ⟨w7, hw7⟩ : ∃ W, W = w6.setCell ⟨B, 3, none⟩ (.slice a'' (x.parts.length + 1) c'') := ⟨_, rfl⟩
      rw [← hw7] at own7 rB7 rW7 b7 ⊢
      have OWN7 : Hid _ := And.intro own7 (And.intro far (And.intro rB7 b7))
      have g0 := rW7.cell 0 rfl
      have g4 := rB7.cell 4 rfl
      have g4f := rB7.frozen 4
      clear hw7 own7 far rB7 b7 own6 hff hInP sn b6 bW5 own5 s5 hb5 apd5 o5 apd rB6 rW6 rW7 hS6 q36 q36f hS hWant hOwn OWN LO RX bXX o4 lo4' hb4 hbY sY hnB hnB1
      go_wp2
      refine bodyPost_end (results_none rfl _ _ _) rfl ?_
      obtain ⟨own7, far, rB7, b7⟩ := OWN7.out
      exact ⟨⟨rfl, a'', c'', A, C, _, _, rB7.set 4 _, own7.only (Only.cell w7 ⟨B, 4, none⟩ _) (fun q hq e => (far q hq).2 e), far⟩, b7.setCell (p := ⟨B, 4, none⟩) hBN _⟩

end Go.Proofs.YtfmhkicncgccjaaGreatDoor
