/- Joined: DrJ. -/
import Derived.Test.YtfmhkicncgccjaaGreatFm26
import Derived.Test.YtfmhkicncgccjaaGreatFm24
/- What l5Moved answers. -/
namespace Go.Proofs.YtfmhkicncgccjaaGreat
open Go.RowKit Go.Sort
set_option linter.unusedSimpArgs false
set_option linter.unusedVariables false

set_option maxRecDepth 100000 in
set_option maxHeartbeats 4000000 in
theorem l5Moved_any (W0 : World) (Rb : Nat) (a : Option Addr) (n cap : Nat) (f : Nat → Nat) (w : World) (p : Int) (h : Rd W0 Rb a n cap f w p) (h0 : 0 ≤ p) (h1 : p ≤ 900000000) (x : Book) (af ap av aq : Option Addr) (cf cp cv cq : Nat) (hin : DrB (Rb + 1) w x af ap av aq) (hT : x.parts.length ≤ 1000 ∧ x.valves.length ≤ 1000) (hU : ∀ q ∈ x.parts, q.want.uses.length ≤ 1000) (s : Int) :
 Calls Tryz.prog 149 #[.pointer (some ⟨Rb, 0, none⟩), bookV x af ap av aq cf cp cv cq, .int .i64 s] w fun e w' => IntOf W0 Rb a n cap f p 4 e w' ∧ Only (fun q => q = Rb) w w' := by
 have hl : x.parts.length ≤ maxLen := by unfold maxLen; omega
 have hRb := h.row.lt
 unfold bookV
 obtain ⟨W1, hW1⟩ : ∃ W, W = w.alloc (.cells #[.slice af x.foes.length cf, .slice ap x.spots.length cp, .slice av x.valves.length cv, .slice aq x.parts.length cq, .int .i64 x.seen] 28) := ⟨_, rfl⟩
 have b1 : Below w.heap.size w W1 := by rw [hW1]; exact (Below.refl _ _).alloc (Nat.le_refl _) _
 have v1 : VarAt W0 Rb a n cap f w w.heap.size 28 W1 p [.slice af x.foes.length cf, .slice ap x.spots.length cp, .slice av x.valves.length cv, .slice aq x.parts.length cq, .int .i64 x.seen] := ⟨by rw [hW1]; exact Row.new _ _ _, h.later b1, Only.of b1, Nat.le_refl _, hRb⟩
 have d1 := hin.later b1
 have PART := fun W (hb : Below W1.heap.size W1 W) => l2Part_any x af ap av aq cf cp cv cq s W (d1.later hb).in_.parts hl
 unfold bookV at PART
 go_enter Tryz.func149, Tryz.ntmps149
 go_wp2_with fail
 rw [← hW1]
 clear hW1
 refine (PART W1 (Below.refl _ _)).mono ?_
 rintro e W2 ⟨rfl, hb2⟩
 clear PART
 have v2 := v1.later hb2
 have d2 := d1.later hb2
 clear v1 d1 b1 hb2
 have g3 := v2.row.cell 3 rfl
 obtain ⟨N, hN, hN1, HIT⟩ : ∃ N : Nat, Hid (0 ≤ partI x.parts s → N = (gq x.parts (partI x.parts s).toNat).want.uses.length) ∧ N ≤ 1000 ∧ Hid (0 ≤ partI x.parts s → (partI x.parts s).toNat < x.parts.length) := by
  rcases partI_cases x.parts s with ⟨hp, -⟩ | ⟨j, hj, hp, -⟩
  · exact ⟨0, fun h => by omega, by omega, fun h => by omega⟩
  · refine ⟨(gq x.parts j).want.uses.length, fun _ => ?_, hU _ (gq_mem hj), fun _ => ?_⟩
    · rw [hp]; rfl
    · rw [hp]; exact hj
 generalize partI x.parts s = at_ at hN HIT ⊢
 obtain ⟨A, C, hpr, hpw⟩ := d2.in_.parts
 have d2o := v2.old
 go_wp2_with fail
 go_loopw [8, 9] (fun most i wr => ∃ (k : Nat) (m : Int) (X : World), X = wr ∧ k ≤ N ∧ i = .int .i64 k ∧ most = .int .i64 m ∧ Below W2.heap.size W2 X) (fun _ i _ => N - (intOf i).toNat)
 case atStart => exact ⟨0, 3, _, rfl, Nat.zero_le _, rfl, rfl, Below.refl _ _⟩
 case round =>
  obtain ⟨k, m, X, rfl, hk, rfl, rfl, hbX⟩ := hrel
  have g3X := cell_later hbX g3
  by_cases hat : 0 ≤ at_
  · obtain ⟨j, rfl⟩ : ∃ j : Nat, at_ = j := ⟨at_.toNat, by omega⟩
    have hj : j < x.parts.length := by have := HIT.out hat; omega
    have hNj : N = (gq x.parts j).want.uses.length := by have := hN.out hat; simpa using this
    have hj2 : (j : Int) < x.parts.length := by omega
    obtain ⟨bq, oq, hq, hbq, hcq⟩ := (RowAt.later hpr hbX) j hj
    subst hq
    have hcq3 := hcq 3 (by omega)
    simp only [partCell] at hcq3
    clear hcq
    have hNj' : Hid _ := hNj
    by_cases hlt : k < N
    · have hlt2 : (k : Int) < (gq x.parts j).want.uses.length := by omega
      obtain ⟨bu, ou, hu, hbu, hcu⟩ := (RowAt.later (hpw j hj).uses hbX) k (by omega)
      have hu' : A j 3 = some ⟨bu, ou, none⟩ := hu
      rw [hu'] at hcq3
      have hc0 := hcu 0 (by omega)
      have hc1 := hcu 1 (by omega)
      have hc2 := hcu 2 (by omega)
      simp only [useCell, useF, Nat.add_zero] at hc0 hc1 hc2
      clear hcu hNj hu hu'
      generalize (gu (gq x.parts j).want.uses k).name = un at hc0
      generalize (gu (gq x.parts j).want.uses k).role = ur at hc1
      generalize (gu (gq x.parts j).want.uses k).amount = ua at hc2
      have hbX2 : Hid (Below W2.heap.size W2 (X.alloc (.cells #[.string un, .int .i64 ur, .int .i64 ua] 101))) := hbX.alloc hbX.size _
      by_cases hr3 : ur = 3
      · have hr3b : (ur != 3) = false := by simp [hr3]
        clear hr3
        go_wp2
        go_roundw
        case rel => exact ⟨k + 1, m, _, rfl, by omega, by go_num, rfl, hbX2.out⟩
        case measure => simp [intOf]; omega
      · have hr3b : (ur != 3) = true := by simp [hr3]
        by_cases hm : ua < m
        · go_wp2
          go_roundw
          case rel => exact ⟨k + 1, ua, _, rfl, by omega, by go_num, rfl, hbX2.out⟩
          case measure => simp [intOf]; omega
        · by_cases hk0 : k = 0
          · have hk0b : ((k : Int) == 0) = true := by simp [hk0]
            clear hk0
            go_wp2
            go_roundw
            case rel => exact ⟨k + 1, ua, _, rfl, by omega, by go_num, rfl, hbX2.out⟩
            case measure => simp [intOf]; omega
          · have hk0b : ((k : Int) == 0) = false := by simp [hk0]
            go_wp2
            go_roundw
            case rel => exact ⟨k + 1, m, _, rfl, by omega, by go_num, rfl, hbX2.out⟩
            case measure => simp [intOf]; omega
    · have hlt2 : ¬ (k : Int) < (gq x.parts j).want.uses.length := by omega
      clear hNj
      have r2 := v2.rd.later hbX
      have on2 := v2.on.trans (Only.of hbX)
      go_wp2_with fail
      refine (pick_any W0 Rb a n cap f _ (p) _ r2 (by omega) (by omega)).mono ?_
      rintro e Y0 ⟨⟨u0, rfl, -, -⟩, hq0, oq0⟩
      go_wp2_with fail
      refine (pick_any W0 Rb a n cap f _ (p + 1) 2 hq0 (by omega) (by omega)).mono ?_
      rintro e Y1 ⟨⟨u1, rfl, -, -⟩, hq1, oq1⟩
      go_wp2_with fail
      refine (pick_any W0 Rb a n cap f _ (p + 1 + 1) 2 hq1 (by omega) (by omega)).mono ?_
      rintro e Y2 ⟨⟨u2, rfl, -, -⟩, hq2, oq2⟩
      go_wp2_with fail
      refine (pick_any W0 Rb a n cap f _ (p + 1 + 1 + 1) 2 hq2 (by omega) (by omega)).mono ?_
      rintro e Y3 ⟨⟨u3, rfl, -, -⟩, hq3, oq3⟩
      go_wp2
      go_ret
      exact ⟨⟨_, p + 1 + 1 + 1 + 1, rfl, by omega, by omega, hq3⟩, (((on2.trans oq0).trans oq1).trans oq2).trans oq3⟩
  · have r2 := v2.rd.later hbX
    have on2 := v2.on.trans (Only.of hbX)
    go_wp2_with fail
    refine (pick_any W0 Rb a n cap f _ (p) _ r2 (by omega) (by omega)).mono ?_
    rintro e Y0 ⟨⟨u0, rfl, -, -⟩, hq0, oq0⟩
    go_wp2_with fail
    refine (pick_any W0 Rb a n cap f _ (p + 1) 2 hq0 (by omega) (by omega)).mono ?_
    rintro e Y1 ⟨⟨u1, rfl, -, -⟩, hq1, oq1⟩
    go_wp2_with fail
    refine (pick_any W0 Rb a n cap f _ (p + 1 + 1) 2 hq1 (by omega) (by omega)).mono ?_
    rintro e Y2 ⟨⟨u2, rfl, -, -⟩, hq2, oq2⟩
    go_wp2_with fail
    refine (pick_any W0 Rb a n cap f _ (p + 1 + 1 + 1) 2 hq2 (by omega) (by omega)).mono ?_
    rintro e Y3 ⟨⟨u3, rfl, -, -⟩, hq3, oq3⟩
    go_wp2
    go_ret
    exact ⟨⟨_, p + 1 + 1 + 1 + 1, rfl, by omega, by omega, hq3⟩, (((on2.trans oq0).trans oq1).trans oq2).trans oq3⟩

end Go.Proofs.YtfmhkicncgccjaaGreat

