/- What the program's ClaimWantOk answers: the same as the specification's. -/
import Derived.Test.YtfmhkicncgccjaaGreatWantS
namespace Go.Proofs.YtfmhkicncgccjaaGreat
open Go.RowKit Go.Sort

/-- A want is ok, as the program asks. -/
def wantI (x : Want) : Bool :=
  inB x.number 1 1000000 && listsB x.kind x.stuffs.length x.opens.length && namesB x.stuffs 8 && usesB (roleB x.kind) x.uses && namesB x.opens 12 && namesB x.shuts 12 && !shareB x.opens x.shuts &&
    decide (0 < x.uses.length + x.opens.length + x.shuts.length)

theorem usesB_len {rb : Int → Bool} {us : List Use} (h : usesB rb us = true) : (us.length : Int) ≤ 8 := by
  unfold usesB at h
  simp only [Bool.and_eq_true] at h
  exact of_decide_eq_true h.1.1

theorem use_same (kind : Int) (hk : kind = 1 ∨ kind = 2 ∨ kind = 3) (u : Use) : (roleB kind u.role && amountB u) = (inB u.role 1 3 && amtS kind u) := by
  rw [Bool.eq_iff_iff]
  unfold roleB amountB amtS inB
  by_cases h3 : u.role = 3
  · rcases hk with rfl | rfl | rfl <;> simp [h3]
  · rcases hk with rfl | rfl | rfl <;> simp [h3]

theorem uses_same (kind : Int) (hk : kind = 1 ∨ kind = 2 ∨ kind = 3) (us : List Use) : usesB (roleB kind) us = usesS kind us := by
  unfold usesB usesS ascUB
  rw [Bool.and_assoc]
  congr 1
  rw [Bool.eq_iff_iff, Bool.and_eq_true, allTo_iff, allTo_iff, allTo_iff]
  unfold useAtB useAtS
  constructor
  · rintro ⟨h1, h2⟩ i hi
    have := h1 i hi
    rw [Bool.and_assoc, use_same kind hk] at this
    have h2' := h2 i hi
    simp only [Bool.and_eq_true] at this ⊢
    exact ⟨⟨⟨this.1, h2'⟩, this.2.1⟩, this.2.2⟩
  · intro h
    refine ⟨fun i hi => ?_, fun i hi => ?_⟩
    · have := h i hi
      rw [Bool.and_assoc, use_same kind hk]
      simp only [Bool.and_eq_true] at this ⊢
      exact ⟨this.1.1.1, this.1.2, this.2⟩
    · have := h i hi
      simp only [Bool.and_eq_true] at this
      exact this.1.1.2

theorem shuffle1' : ∀ b1 u o h sh z s l p : Bool, (b1 && l && s && u && o && h && !sh && !z) = (b1 && true && u && o && h && !sh && !z && !(!true && p) && s && (true == l)) := by decide
theorem shuffle2 : ∀ b1 u o h sh z s l p : Bool, (b1 && (!l && !p) && s && u && o && h && !sh && !z) = (b1 && true && u && o && h && !sh && !z && !(!false && p) && s && (false == l)) := by decide

theorem pos_not (n : Nat) : decide (0 < n) = !decide (n = 0) := by
  cases n <;> simp

theorem want_same (x : Want) : wantI x = wantB x := by
  unfold wantI wantB
  by_cases hk : x.kind = 1 ∨ x.kind = 2 ∨ x.kind = 3
  · rw [uses_same x.kind hk, pos_not (x.uses.length + x.opens.length + x.shuts.length)]
    have hin : inB x.kind 1 3 = true := by unfold inB; rcases hk with h | h | h <;> rw [h] <;> rfl
    rw [hin]
    by_cases h1 : x.kind = 1
    · have hl : listsB x.kind x.stuffs.length x.opens.length = decide (0 < x.stuffs.length) := by unfold listsB; rw [if_pos (by simp [h1])]
      have he : (x.kind == 1) = true := by simp [h1]
      rw [hl, he]
      exact shuffle1' _ _ _ _ _ _ _ _ _
    · have hl : listsB x.kind x.stuffs.length x.opens.length = (!decide (0 < x.stuffs.length) && !decide (0 < x.opens.length)) := by
        unfold listsB
        rw [if_neg (by simp [h1]), if_pos (by simp; omega), pos_not, pos_not, Bool.not_not, Bool.not_not]
      have he : (x.kind == 1) = false := by simp [h1]
      rw [hl, he]
      exact shuffle2 _ _ _ _ _ _ _ _ _
  · have hin : inB x.kind 1 3 = false := by unfold inB; simp; omega
    have hl : listsB x.kind x.stuffs.length x.opens.length = false := by
      unfold listsB
      rw [if_neg (by simp; omega), if_neg (by simp; omega)]
    rw [hin, hl]
    simp

theorem listsB_kind {k : Int} {n2 n4 : Nat} (h : listsB k n2 n4 = true) : k = 1 ∨ k = 2 ∨ k = 3 := by
  unfold listsB at h
  by_cases h1 : k = 1
  · exact Or.inl h1
  · rw [if_neg (by simp [h1])] at h
    by_cases h2 : k = 2 ∨ k = 3
    · exact Or.inr h2
    · rw [if_neg (by simp; omega)] at h; cases h

set_option maxHeartbeats 2000000 in
theorem implWantOk_any (x : Want) (a2 a3 a4 a5 : Option Addr) (c2 c3 c4 c5 : Nat) (w : World) (hin : WantIn w x a2 a3 a4 a5) (hf : WantFit x) :
    Calls Tryz.prog 101 #[wantW x a2 a3 a4 a5 c2 c3 c4 c5] w fun e w' => e = .returned (.bool (wantB x)) ∧ Below w.heap.size w w' := by
  rw [← want_same]
  unfold wantW
  have HB0 : Below (w.alloc (.cells #[.int .i64 x.number, .int .i64 x.kind, .slice a2 x.stuffs.length c2, .slice a3 x.uses.length c3, .slice a4 x.opens.length c4, .slice a5 x.shuts.length c5] 38)).heap.size (w.alloc (.cells #[.int .i64 x.number, .int .i64 x.kind, .slice a2 x.stuffs.length c2, .slice a3 x.uses.length c3, .slice a4 x.opens.length c4, .slice a5 x.shuts.length c5] 38)) (w.alloc (.cells #[.int .i64 x.number, .int .i64 x.kind, .slice a2 x.stuffs.length c2, .slice a3 x.uses.length c3, .slice a4 x.opens.length c4, .slice a5 x.shuts.length c5] 38)) := Below.refl _ _
  go_enter Tryz.func101, Tryz.ntmps101
  go_wp2_with fail
  refine (kinded_any x.number x.kind (.slice a2 x.stuffs.length c2) (.slice a3 x.uses.length c3) (.slice a4 x.opens.length c4) (.slice a5 x.shuts.length c5) _ rfl rfl rfl rfl).mono ?_
  rintro e w1 ⟨rfl, hb⟩
  have HB1 := HB0.trans (hb.mono HB0.size)
  obtain ⟨y0, y1, y2, y3, y4, y5, hz⟩ := box6 HB1
  clear hb HB0
  generalize hkv : kindV x.kind #[.int .i64 x.number, .int .i64 x.kind, .slice a2 x.stuffs.length c2, .slice a3 x.uses.length c3, .slice a4 x.opens.length c4, .slice a5 x.shuts.length c5] = kv
  have HKV : Hid (kindV x.kind #[.int .i64 x.number, .int .i64 x.kind, .slice a2 x.stuffs.length c2, .slice a3 x.uses.length c3, .slice a4 x.opens.length c4, .slice a5 x.shuts.length c5] = kv) := hkv
  clear hkv
  go_wp2_with fail
  refine (within_any _ _ _ _).mono ?_
  rintro e w' ⟨rfl, rfl⟩
  cases hq1 : inB x.number 1 1000000 with
  | false =>
    go_wp2
    go_ret
    exact ⟨ret_bool (by simp [wantI, hq1]), below_over HB1⟩
  | true =>
  go_wp2_with fail
  rw [← HKV.out]
  refine (lists_any x.kind x.number x.kind a2 a3 a4 a5 _ _ _ _ c2 c3 c4 c5 _).mono ?_
  rintro e w2 ⟨rfl, hb⟩
  rw [HKV.out]
  have HB2 := HB1.trans (hb.mono HB1.size)
  clear y0 y1 y2 y3 y4 y5 hz
  obtain ⟨y0, y1, y2, y3, y4, y5, hz⟩ := box6 HB2
  clear hb HB1
  have hin2 := hin.later (below_over HB2)
  cases hq2 : listsB x.kind x.stuffs.length x.opens.length with
  | false =>
    go_wp2
    go_ret
    exact ⟨ret_bool (by simp [wantI, hq2]), below_over HB2⟩
  | true =>
  have hk := listsB_kind hq2
  have HK : Hid (x.kind = 1 ∨ x.kind = 2 ∨ x.kind = 3) := hk
  clear hk
  go_wp2_with fail
  refine (namesOk_any a2 c2 x.stuffs 8 _ hin2.stuffs hf.stuffs).mono ?_
  rintro e w3 ⟨rfl, hb⟩
  have HB3 := HB2.trans (hb.mono HB2.size)
  clear y0 y1 y2 y3 y4 y5 hz
  obtain ⟨y0, y1, y2, y3, y4, y5, hz⟩ := box6 HB3
  clear hb HB2 hin2
  have hin3 := hin.later (below_over HB3)
  cases hq3 : namesB x.stuffs 8 with
  | false =>
    go_wp2
    go_ret
    exact ⟨ret_bool (by simp [wantI, hq3]), below_over HB3⟩
  | true =>
  go_wp2_with fail
  rw [← HKV.out]
  refine (usesOk_any x.kind HK.out _ a3 c3 x.uses _ hin3.uses hf.usesLen hf.usesNames).mono ?_
  rintro e w4 ⟨rfl, hb⟩
  have HB4 := HB3.trans (hb.mono HB3.size)
  clear y0 y1 y2 y3 y4 y5 hz
  obtain ⟨y0, y1, y2, y3, y4, y5, hz⟩ := box6 HB4
  clear hb HB3 hin3
  have hin4 := hin.later (below_over HB4)
  cases hq4 : usesB (roleB x.kind) x.uses with
  | false =>
    go_wp2
    go_ret
    exact ⟨ret_bool (by simp [wantI, hq4]), below_over HB4⟩
  | true =>
  have hl4 := usesB_len hq4
  go_wp2_with fail
  refine (namesOk_any a4 c4 x.opens 12 _ hin4.opens hf.opens).mono ?_
  rintro e w5 ⟨rfl, hb⟩
  have HB5 := HB4.trans (hb.mono HB4.size)
  clear y0 y1 y2 y3 y4 y5 hz
  obtain ⟨y0, y1, y2, y3, y4, y5, hz⟩ := box6 HB5
  clear hb HB4 hin4
  have hin5 := hin.later (below_over HB5)
  cases hq5 : namesB x.opens 12 with
  | false =>
    go_wp2
    go_ret
    exact ⟨ret_bool (by simp [wantI, hq5]), below_over HB5⟩
  | true =>
  have hl5 := namesB_len hq5
  go_wp2_with fail
  refine (namesOk_any a5 c5 x.shuts 12 _ hin5.shuts hf.shuts).mono ?_
  rintro e w6 ⟨rfl, hb⟩
  have HB6 := HB5.trans (hb.mono HB5.size)
  clear y0 y1 y2 y3 y4 y5 hz
  obtain ⟨y0, y1, y2, y3, y4, y5, hz⟩ := box6 HB6
  clear hb HB5 hin5
  have hin6 := hin.later (below_over HB6)
  cases hq6 : namesB x.shuts 12 with
  | false =>
    go_wp2
    go_ret
    exact ⟨ret_bool (by simp [wantI, hq6]), below_over HB6⟩
  | true =>
  have hl6 := namesB_len hq6
  go_wp2_with fail
  refine (shareAny_any a4 a5 c4 c5 x.opens x.shuts _ hin6.opens hin6.shuts hf.opens.1 hf.shuts.1).mono ?_
  rintro e w7 ⟨rfl, rfl⟩
  cases hq7 : shareB x.opens x.shuts with
  | true =>
    go_wp2
    go_ret
    exact ⟨ret_bool (by simp [wantI, hq7]), below_over HB6⟩
  | false =>
    go_wp2
    go_ret
    refine ⟨ret_bool ?_, below_over HB6⟩
    unfold wantI
    rw [hq1, hq2, hq3, hq4, hq5, hq6, hq7, Bool.eq_iff_iff]
    simp
    omega

end Go.Proofs.YtfmhkicncgccjaaGreat
