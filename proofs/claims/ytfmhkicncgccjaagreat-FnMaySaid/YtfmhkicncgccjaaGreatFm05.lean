/- Joined: WantS, WantI, WantL, WantEq, Open, OrdE. -/
import Derived.Test.YtfmhkicncgccjaaGreatFm04
import Derived.Deep.Strs
import Derived.Lib.SmallJoins
import Derived.Test.YtfmhkicncgccjaaGreatProg
import Derived.Deep.RegionHeld3
/- What the specification's ClaimWantOk answers. -/
namespace Go.Proofs.YtfmhkicncgccjaaGreat
open Go.RowKit Go.Sort

/-- A want's value, its lists where they lie. -/
def wantW (x : Want) (a2 a3 a4 a5 : Option Addr) (c2 c3 c4 c5 : Nat) : Value :=
 .agg #[.int .i64 x.number, .int .i64 x.kind, .slice a2 x.stuffs.length c2, .slice a3 x.uses.length c3, .slice a4 x.opens.length c4, .slice a5 x.shuts.length c5]

/-- The lists of a want lie in memory, and are lists that can be. -/
structure WantIn (w : World) (x : Want) (a2 a3 a4 a5 : Option Addr) : Prop where
 stuffs : StrsAt w a2 x.stuffs
 uses : UsesAt w a3 x.uses
 opens : StrsAt w a4 x.opens
 shuts : StrsAt w a5 x.shuts

structure WantFit (x : Want) : Prop where
 stuffs : Fit x.stuffs
 usesLen : x.uses.length ≤ maxLen
 usesNames : ∀ u ∈ x.uses, u.name.size ≤ maxLen
 opens : Fit x.opens
 shuts : Fit x.shuts

theorem WantIn.later {w w' : World} {x : Want} {a2 a3 a4 a5 : Option Addr} (h : WantIn w x a2 a3 a4 a5) (hb : Below w.heap.size w w') : WantIn w' x a2 a3 a4 a5 :=
 ⟨h.stuffs.later hb, h.uses.later hb, h.opens.later hb, h.shuts.later hb⟩

theorem namesB_len {ss : List ByteArray} {m : Int} (h : namesB ss m = true) : (ss.length : Int) ≤ m := by
 unfold namesB at h
 rw [Bool.and_eq_true] at h
 exact of_decide_eq_true h.1
theorem usesS_len {k : Int} {us : List Use} (h : usesS k us = true) : (us.length : Int) ≤ 8 := by
 unfold usesS at h
 rw [Bool.and_eq_true] at h
 exact of_decide_eq_true h.1

/-- A want is ok, as the specification asks. -/
def wantB (x : Want) : Bool :=
 inB x.number 1 1000000 && inB x.kind 1 3 && usesS x.kind x.uses && namesB x.opens 12 && namesB x.shuts 12 && !shareB x.opens x.shuts &&
  !(decide (x.uses.length + x.opens.length + x.shuts.length = 0)) && !(!(x.kind == 1) && decide (0 < x.opens.length)) && namesB x.stuffs 8 && ((x.kind == 1) == decide (0 < x.stuffs.length))

theorem wantB_last (x : Want) (h1 : inB x.number 1 1000000 = true) (h2 : inB x.kind 1 3 = true) (h3 : usesS x.kind x.uses = true) (h4 : namesB x.opens 12 = true) (h5 : namesB x.shuts 12 = true) (h6 : shareB x.opens x.shuts = false)
 (h7 : decide (x.uses.length + x.opens.length + x.shuts.length = 0) = false) (h8 : (!(x.kind == 1) && decide (0 < x.opens.length)) = false) (h9 : namesB x.stuffs 8 = true) :
 wantB x = ((x.kind == 1) == decide (0 < x.stuffs.length)) := by
 unfold wantB
 rw [h1, h2, h3, h4, h5, h6, h7, h8, h9]
 rfl

set_option maxHeartbeats 2000000 in
theorem specWantOk_any (x : Want) (a2 a3 a4 a5 : Option Addr) (c2 c3 c4 c5 : Nat) (w : World) (hin : WantIn w x a2 a3 a4 a5) (hf : WantFit x) :
 Calls Tryz.prog 127 #[wantW x a2 a3 a4 a5 c2 c3 c4 c5] w fun e w' => e = .returned (.bool (wantB x)) ∧ Below w.heap.size w w' := by
 unfold wantW
 have HB0 : Below (w.alloc (.cells #[.int .i64 x.number, .int .i64 x.kind, .slice a2 x.stuffs.length c2, .slice a3 x.uses.length c3, .slice a4 x.opens.length c4, .slice a5 x.shuts.length c5] 38)).heap.size (w.alloc (.cells #[.int .i64 x.number, .int .i64 x.kind, .slice a2 x.stuffs.length c2, .slice a3 x.uses.length c3, .slice a4 x.opens.length c4, .slice a5 x.shuts.length c5] 38)) (w.alloc (.cells #[.int .i64 x.number, .int .i64 x.kind, .slice a2 x.stuffs.length c2, .slice a3 x.uses.length c3, .slice a4 x.opens.length c4, .slice a5 x.shuts.length c5] 38)) := Below.refl _ _
 have hq1 : inB x.number 1 1000000 = false ∨ inB x.number 1 1000000 = true := by cases inB x.number 1 1000000 <;> simp
 rcases hq1 with hq1 | hq1
 · go_enter Tryz.func127, Tryz.ntmps127
   go_wp2_with (go_at_call 45; refine (l1In_any _ _ _ _).mono ?_; rintro e w' ⟨rfl, rfl⟩; rw [hq1])
   go_ret
   exact ⟨ret_bool (by simp [wantB, hq1]), below_over HB0⟩
 cases hq2 : inB x.kind 1 3 with
 | false =>
  go_enter Tryz.func127, Tryz.ntmps127
  go_wp2_with (go_at_call 45; refine (l1In_any _ _ _ _).mono ?_; rintro e w' ⟨rfl, rfl⟩; first | rw [hq1] | rw [hq2])
  go_ret
  exact ⟨ret_bool (by simp [wantB, hq2]), below_over HB0⟩
 | true =>
  go_enter Tryz.func127, Tryz.ntmps127
  go_wp2_with (go_at_call 45; refine (l1In_any _ _ _ _).mono ?_; rintro e w' ⟨rfl, rfl⟩; first | rw [hq1] | rw [hq2])
  have hin1 := hin.later (below_over HB0)
  have hk : x.kind = 1 ∨ x.kind = 2 ∨ x.kind = 3 := by
   unfold inB at hq2; simp at hq2; omega
  refine (l1UsesOk_any x.number x.kind a2 a3 a4 a5 x.stuffs.length c2 c3 x.opens.length c4 x.shuts.length c5 x.uses _ hin1.uses hf.usesLen hf.usesNames).mono ?_
  rintro e w1 ⟨rfl, hb⟩
  have HB1 := HB0.trans (hb.mono HB0.size)
  have hin2 := hin.later (below_over HB1)
  obtain ⟨y0, y1, y2, y3, y4, y5, hz⟩ := box6 HB1
  clear hb HB0 hin1
  cases hq3 : usesS x.kind x.uses with
  | false =>
   go_wp2
   go_ret
   exact ⟨ret_bool (by simp [wantB, hq3]), below_over HB1⟩
  | true =>
  have hl3 := usesS_len hq3
  go_wp2_with fail
  refine (l1NamesOk_any a4 c4 x.opens 12 _ hin2.opens hf.opens).mono ?_
  rintro e w2 ⟨rfl, hb⟩
  have HB2 := HB1.trans (hb.mono HB1.size)
  have hin3 := hin.later (below_over HB2)
  clear y0 y1 y2 y3 y4 y5 hz
  obtain ⟨y0, y1, y2, y3, y4, y5, hz⟩ := box6 HB2
  clear hb HB1 hin2
  cases hq4 : namesB x.opens 12 with
  | false =>
   go_wp2
   go_ret
   exact ⟨ret_bool (by simp [wantB, hq4]), below_over HB2⟩
  | true =>
  have hl4 := namesB_len hq4
  go_wp2_with fail
  refine (l1NamesOk_any a5 c5 x.shuts 12 _ hin3.shuts hf.shuts).mono ?_
  rintro e w3 ⟨rfl, hb⟩
  have HB3 := HB2.trans (hb.mono HB2.size)
  have hin4 := hin.later (below_over HB3)
  clear y0 y1 y2 y3 y4 y5 hz
  obtain ⟨y0, y1, y2, y3, y4, y5, hz⟩ := box6 HB3
  clear hb HB2 hin3
  cases hq5 : namesB x.shuts 12 with
  | false =>
   go_wp2
   go_ret
   exact ⟨ret_bool (by simp [wantB, hq5]), below_over HB3⟩
  | true =>
  have hl5 := namesB_len hq5
  go_wp2_with fail
  refine (l1Share_any a4 a5 c4 c5 x.opens x.shuts _ hin4.opens hin4.shuts hf.opens.1 hf.shuts.1).mono ?_
  rintro e w4 ⟨rfl, rfl⟩
  cases hq6 : shareB x.opens x.shuts with
  | true =>
   go_wp2
   go_ret
   exact ⟨ret_bool (by simp [wantB, hq6]), below_over HB3⟩
  | false =>
  by_cases h7 : x.uses.length + x.opens.length + x.shuts.length = 0
  · have h7' : (((x.uses.length : Int) + x.opens.length + x.shuts.length) == 0) = true := by simp; omega
    go_wp2
    go_ret
    exact ⟨ret_bool (by simp [wantB, h7]), below_over HB3⟩
  have h7' : (((x.uses.length : Int) + x.opens.length + x.shuts.length) == 0) = false := by simp; omega
  have hd7 : decide (x.uses.length + x.opens.length + x.shuts.length = 0) = false := decide_eq_false h7
  have HD7 : Hid (decide (x.uses.length + x.opens.length + x.shuts.length = 0) = false) := hd7
  clear hd7
  by_cases h8 : x.kind = 1
  · have h8' : (x.kind != 1) = false := by simp [h8]
    have h8'' : (x.kind == 1) = true := by simp [h8]
    have HK : Hid (x.kind = 1) := h8
    clear h8 h7 hk
    go_wp2_with fail
    refine (l1NamesOk_any a2 c2 x.stuffs 8 _ hin4.stuffs hf.stuffs).mono ?_
    rintro e w5 ⟨rfl, hb⟩
    have HB4 := HB3.trans (hb.mono HB3.size)
    clear y0 y1 y2 y3 y4 y5 hz
    obtain ⟨y0, y1, y2, y3, y4, y5, hz⟩ := box6 HB4
    clear hb HB3 hin4
    cases hq9 : namesB x.stuffs 8 with
    | false =>
     go_wp2
     go_ret
     exact ⟨ret_bool (by simp [wantB, hq9]), below_over HB4⟩
    | true =>
     go_wp2
     go_ret
     refine ⟨ret_bool ?_, below_over HB4⟩
     rw [wantB_last x hq1 hq2 hq3 hq4 hq5 hq6 HD7.out (by rw [h8'']; rfl) hq9, h8'', Bool.eq_iff_iff]
     simp
  · have h8' : (x.kind != 1) = true := by simp [h8]
    have h8'' : (x.kind == 1) = false := by simp [h8]
    have HK : Hid (¬ x.kind = 1) := h8
    clear h8 h7 hk
    by_cases h10 : 0 < x.opens.length
    · go_wp2
      go_ret
      exact ⟨ret_bool (by simp [wantB, HK.out, h10]), below_over HB3⟩
    · have h10' : x.opens.length = 0 := by omega
      have HO : Hid (x.opens.length = 0) := h10'
      clear h10'
      go_wp2_with fail
      refine (l1NamesOk_any a2 c2 x.stuffs 8 _ hin4.stuffs hf.stuffs).mono ?_
      rintro e w5 ⟨rfl, hb⟩
      have HB4 := HB3.trans (hb.mono HB3.size)
      clear y0 y1 y2 y3 y4 y5 hz
      obtain ⟨y0, y1, y2, y3, y4, y5, hz⟩ := box6 HB4
      clear hb HB3 hin4
      cases hq9 : namesB x.stuffs 8 with
      | false =>
       go_wp2
       go_ret
       exact ⟨ret_bool (by simp [wantB, hq9]), below_over HB4⟩
      | true =>
       go_wp2
       go_ret
       refine ⟨ret_bool ?_, below_over HB4⟩
       rw [wantB_last x hq1 hq2 hq3 hq4 hq5 hq6 HD7.out (by rw [HO.out]; simp) hq9, h8'', Bool.eq_iff_iff]
       simp

end Go.Proofs.YtfmhkicncgccjaaGreat

/- What the program's ClaimWantOk answers: the same as the specification's. -/
namespace Go.Proofs.YtfmhkicncgccjaaGreat
open Go.RowKit Go.Sort

/-- A want is ok, as the program asks. -/
def wantI (x : Want) : Bool :=
 inB x.number 1 1000000 && listsB x.kind x.stuffs.length x.opens.length && namesB x.stuffs 8 && usesB (roleB x.kind) x.uses && namesB x.opens 12 && namesB x.shuts 12 && !shareB x.opens x.shuts &&
  decide (0 < x.uses.length + x.opens.length + x.shuts.length)

theorem usesB_len {rb : Int → Bool} {us : List Use} (h : usesB rb us = true) : (us.length : Int) ≤ 8 := by
 unfold usesB at h
 simp only [Bool.and_eq_true] at h
 exact of_decide_eq_true h.1.1

theorem use_same (kind : Int) (hk : kind = 1 ∨ kind = 2 ∨ kind = 3) (u : Use) : (roleB kind u.role && amountB u) = (inB u.role 1 3 && amtS kind u) := by
 rw [Bool.eq_iff_iff]
 unfold roleB amountB amtS inB
 by_cases h3 : u.role = 3
 · rcases hk with rfl | rfl | rfl <;> simp [h3]
 · rcases hk with rfl | rfl | rfl <;> simp [h3]

theorem uses_same (kind : Int) (hk : kind = 1 ∨ kind = 2 ∨ kind = 3) (us : List Use) : usesB (roleB kind) us = usesS kind us := by
 unfold usesB usesS ascUB
 rw [Bool.and_assoc]
 congr 1
 rw [Bool.eq_iff_iff, Bool.and_eq_true, allTo_iff, allTo_iff, allTo_iff]
 unfold useAtB useAtS
 constructor
 · rintro ⟨h1, h2⟩ i hi
   have := h1 i hi
   rw [Bool.and_assoc, use_same kind hk] at this
   have h2' := h2 i hi
   simp only [Bool.and_eq_true] at this ⊢
   exact ⟨⟨⟨this.1, h2'⟩, this.2.1⟩, this.2.2⟩
 · intro h
   refine ⟨fun i hi => ?_, fun i hi => ?_⟩
   · have := h i hi
     rw [Bool.and_assoc, use_same kind hk]
     simp only [Bool.and_eq_true] at this ⊢
     exact ⟨this.1.1.1, this.1.2, this.2⟩
   · have := h i hi
     simp only [Bool.and_eq_true] at this
     exact this.1.1.2

theorem shuffle1' : ∀ b1 u o h sh z s l p : Bool, (b1 && l && s && u && o && h && !sh && !z) = (b1 && true && u && o && h && !sh && !z && !(!true && p) && s && (true == l)) := by decide
theorem shuffle2 : ∀ b1 u o h sh z s l p : Bool, (b1 && (!l && !p) && s && u && o && h && !sh && !z) = (b1 && true && u && o && h && !sh && !z && !(!false && p) && s && (false == l)) := by decide

theorem pos_not (n : Nat) : decide (0 < n) = !decide (n = 0) := by
 cases n <;> simp

theorem want_same (x : Want) : wantI x = wantB x := by
 unfold wantI wantB
 by_cases hk : x.kind = 1 ∨ x.kind = 2 ∨ x.kind = 3
 · rw [uses_same x.kind hk, pos_not (x.uses.length + x.opens.length + x.shuts.length)]
   have hin : inB x.kind 1 3 = true := by unfold inB; rcases hk with h | h | h <;> rw [h] <;> rfl
   rw [hin]
   by_cases h1 : x.kind = 1
   · have hl : listsB x.kind x.stuffs.length x.opens.length = decide (0 < x.stuffs.length) := by unfold listsB; rw [if_pos (by simp [h1])]
     have he : (x.kind == 1) = true := by simp [h1]
     rw [hl, he]
     exact shuffle1' _ _ _ _ _ _ _ _ _
   · have hl : listsB x.kind x.stuffs.length x.opens.length = (!decide (0 < x.stuffs.length) && !decide (0 < x.opens.length)) := by
      unfold listsB
      rw [if_neg (by simp [h1]), if_pos (by simp; omega), pos_not, pos_not, Bool.not_not, Bool.not_not]
     have he : (x.kind == 1) = false := by simp [h1]
     rw [hl, he]
     exact shuffle2 _ _ _ _ _ _ _ _ _
 · have hin : inB x.kind 1 3 = false := by unfold inB; simp; omega
   have hl : listsB x.kind x.stuffs.length x.opens.length = false := by
    unfold listsB
    rw [if_neg (by simp; omega), if_neg (by simp; omega)]
   rw [hin, hl]
   simp

theorem listsB_kind {k : Int} {n2 n4 : Nat} (h : listsB k n2 n4 = true) : k = 1 ∨ k = 2 ∨ k = 3 := by
 unfold listsB at h
 by_cases h1 : k = 1
 · exact Or.inl h1
 · rw [if_neg (by simp [h1])] at h
   by_cases h2 : k = 2 ∨ k = 3
   · exact Or.inr h2
   · rw [if_neg (by simp; omega)] at h; cases h

set_option maxHeartbeats 2000000 in
theorem implWantOk_any (x : Want) (a2 a3 a4 a5 : Option Addr) (c2 c3 c4 c5 : Nat) (w : World) (hin : WantIn w x a2 a3 a4 a5) (hf : WantFit x) :
 Calls Tryz.prog 101 #[wantW x a2 a3 a4 a5 c2 c3 c4 c5] w fun e w' => e = .returned (.bool (wantB x)) ∧ Below w.heap.size w w' := by
 rw [← want_same]
 unfold wantW
 have HB0 : Below (w.alloc (.cells #[.int .i64 x.number, .int .i64 x.kind, .slice a2 x.stuffs.length c2, .slice a3 x.uses.length c3, .slice a4 x.opens.length c4, .slice a5 x.shuts.length c5] 38)).heap.size (w.alloc (.cells #[.int .i64 x.number, .int .i64 x.kind, .slice a2 x.stuffs.length c2, .slice a3 x.uses.length c3, .slice a4 x.opens.length c4, .slice a5 x.shuts.length c5] 38)) (w.alloc (.cells #[.int .i64 x.number, .int .i64 x.kind, .slice a2 x.stuffs.length c2, .slice a3 x.uses.length c3, .slice a4 x.opens.length c4, .slice a5 x.shuts.length c5] 38)) := Below.refl _ _
 go_enter Tryz.func101, Tryz.ntmps101
 go_wp2_with fail
 refine (kinded_any x.number x.kind (.slice a2 x.stuffs.length c2) (.slice a3 x.uses.length c3) (.slice a4 x.opens.length c4) (.slice a5 x.shuts.length c5) _ rfl rfl rfl rfl).mono ?_
 rintro e w1 ⟨rfl, hb⟩
 have HB1 := HB0.trans (hb.mono HB0.size)
 obtain ⟨y0, y1, y2, y3, y4, y5, hz⟩ := box6 HB1
 clear hb HB0
 generalize hkv : kindV x.kind #[.int .i64 x.number, .int .i64 x.kind, .slice a2 x.stuffs.length c2, .slice a3 x.uses.length c3, .slice a4 x.opens.length c4, .slice a5 x.shuts.length c5] = kv
 have HKV : Hid (kindV x.kind #[.int .i64 x.number, .int .i64 x.kind, .slice a2 x.stuffs.length c2, .slice a3 x.uses.length c3, .slice a4 x.opens.length c4, .slice a5 x.shuts.length c5] = kv) := hkv
 clear hkv
 go_wp2_with fail
 refine (within_any _ _ _ _).mono ?_
 rintro e w' ⟨rfl, rfl⟩
 cases hq1 : inB x.number 1 1000000 with
 | false =>
  go_wp2
  go_ret
  exact ⟨ret_bool (by simp [wantI, hq1]), below_over HB1⟩
 | true =>
 go_wp2_with fail
 rw [← HKV.out]
 refine (lists_any x.kind x.number x.kind a2 a3 a4 a5 _ _ _ _ c2 c3 c4 c5 _).mono ?_
 rintro e w2 ⟨rfl, hb⟩
 rw [HKV.out]
 have HB2 := HB1.trans (hb.mono HB1.size)
 clear y0 y1 y2 y3 y4 y5 hz
 obtain ⟨y0, y1, y2, y3, y4, y5, hz⟩ := box6 HB2
 clear hb HB1
 have hin2 := hin.later (below_over HB2)
 cases hq2 : listsB x.kind x.stuffs.length x.opens.length with
 | false =>
  go_wp2
  go_ret
  exact ⟨ret_bool (by simp [wantI, hq2]), below_over HB2⟩
 | true =>
 have hk := listsB_kind hq2
 have HK : Hid (x.kind = 1 ∨ x.kind = 2 ∨ x.kind = 3) := hk
 clear hk
 go_wp2_with fail
 refine (namesOk_any a2 c2 x.stuffs 8 _ hin2.stuffs hf.stuffs).mono ?_
 rintro e w3 ⟨rfl, hb⟩
 have HB3 := HB2.trans (hb.mono HB2.size)
 clear y0 y1 y2 y3 y4 y5 hz
 obtain ⟨y0, y1, y2, y3, y4, y5, hz⟩ := box6 HB3
 clear hb HB2 hin2
 have hin3 := hin.later (below_over HB3)
 cases hq3 : namesB x.stuffs 8 with
 | false =>
  go_wp2
  go_ret
  exact ⟨ret_bool (by simp [wantI, hq3]), below_over HB3⟩
 | true =>
 go_wp2_with fail
 rw [← HKV.out]
 refine (usesOk_any x.kind HK.out _ a3 c3 x.uses _ hin3.uses hf.usesLen hf.usesNames).mono ?_
 rintro e w4 ⟨rfl, hb⟩
 have HB4 := HB3.trans (hb.mono HB3.size)
 clear y0 y1 y2 y3 y4 y5 hz
 obtain ⟨y0, y1, y2, y3, y4, y5, hz⟩ := box6 HB4
 clear hb HB3 hin3
 have hin4 := hin.later (below_over HB4)
 cases hq4 : usesB (roleB x.kind) x.uses with
 | false =>
  go_wp2
  go_ret
  exact ⟨ret_bool (by simp [wantI, hq4]), below_over HB4⟩
 | true =>
 have hl4 := usesB_len hq4
 go_wp2_with fail
 refine (namesOk_any a4 c4 x.opens 12 _ hin4.opens hf.opens).mono ?_
 rintro e w5 ⟨rfl, hb⟩
 have HB5 := HB4.trans (hb.mono HB4.size)
 clear y0 y1 y2 y3 y4 y5 hz
 obtain ⟨y0, y1, y2, y3, y4, y5, hz⟩ := box6 HB5
 clear hb HB4 hin4
 have hin5 := hin.later (below_over HB5)
 cases hq5 : namesB x.opens 12 with
 | false =>
  go_wp2
  go_ret
  exact ⟨ret_bool (by simp [wantI, hq5]), below_over HB5⟩
 | true =>
 have hl5 := namesB_len hq5
 go_wp2_with fail
 refine (namesOk_any a5 c5 x.shuts 12 _ hin5.shuts hf.shuts).mono ?_
 rintro e w6 ⟨rfl, hb⟩
 have HB6 := HB5.trans (hb.mono HB5.size)
 clear y0 y1 y2 y3 y4 y5 hz
 obtain ⟨y0, y1, y2, y3, y4, y5, hz⟩ := box6 HB6
 clear hb HB5 hin5
 have hin6 := hin.later (below_over HB6)
 cases hq6 : namesB x.shuts 12 with
 | false =>
  go_wp2
  go_ret
  exact ⟨ret_bool (by simp [wantI, hq6]), below_over HB6⟩
 | true =>
 have hl6 := namesB_len hq6
 go_wp2_with fail
 refine (shareAny_any a4 a5 c4 c5 x.opens x.shuts _ hin6.opens hin6.shuts hf.opens.1 hf.shuts.1).mono ?_
 rintro e w7 ⟨rfl, rfl⟩
 cases hq7 : shareB x.opens x.shuts with
 | true =>
  go_wp2
  go_ret
  exact ⟨ret_bool (by simp [wantI, hq7]), below_over HB6⟩
 | false =>
  go_wp2
  go_ret
  refine ⟨ret_bool ?_, below_over HB6⟩
  unfold wantI
  rw [hq1, hq2, hq3, hq4, hq5, hq6, hq7, Bool.eq_iff_iff]
  simp
  omega

end Go.Proofs.YtfmhkicncgccjaaGreat

/- What the law's own szClaimWant, toClaimWant and eqClaimWant answer. -/
namespace Go.Proofs.YtfmhkicncgccjaaGreat
open Go.RowKit Go.Sort

/-- A want small enough to be copied. -/
structure WantRoom (x : Want) : Prop where
 stuffs : x.stuffs.length ≤ 1048576
 uses : x.uses.length ≤ 1048576
 opens : x.opens.length ≤ 1048576
 shuts : x.shuts.length ≤ 1048576

end Go.Proofs.YtfmhkicncgccjaaGreat

/- What the law's own eqClaimWant answers of two copies of one want. -/
namespace Go.Proofs.YtfmhkicncgccjaaGreat
open Go.RowKit Go.Sort

theorem eqS_self (s : ByteArray) : eqS s s = true := by unfold eqS; simp
theorem eqSS_self (xs : List ByteArray) : eqSS xs xs = true := by
 unfold eqSS
 rw [decide_eq_true rfl, allTo_iff.2 (fun i _ => eqS_self _)]; rfl
end Go.Proofs.YtfmhkicncgccjaaGreat

/- How what came in reads: lists of texts, lists of uses, a want. -/
namespace Go.Proofs.YtfmhkicncgccjaaGreat
open Go.RowKit Go.Sort

theorem addr_spot {w : World} {a : Addr} {v : Value} (h : w.cell? a = some v) : a.spot = none := by
 unfold World.cell? at h
 split at h
 · split at h
   · cases h
   · rename_i hs
     cases hq : a.spot with
     | none => rfl
     | some x => rw [hq] at hs; simp at hs
 · cases h

theorem add_lit (b o k : Nat) : (⟨b, o, none⟩ : Addr).add k = ⟨b, o + k, none⟩ := by
 unfold Addr.add
 split
 · rename_i h; subst h; rfl
 · rfl

theorem rowAt_of {w : World} {a : Addr} {n size : Nat} {f : Nat → Nat → Value} (hs : 0 < size) (h : ∀ k, k < n → ∀ j, j < size → w.cell? ((a.add (k * size)).add j) = some (f k j)) : RowAt w (some a) n size f := by
 intro k hk
 have h0 := h 0 (by omega) 0 hs
 have e0 : (a.add (0 * size)).add 0 = a := by simp [Addr.add]
 rw [e0] at h0
 have hsp := addr_spot h0
 obtain ⟨b, o, sp⟩ := a
 simp only at hsp
 subst hsp
 refine ⟨b, o, rfl, World.block_lt_of_cell? _ _ h0, fun j hj => ?_⟩
 have := h k hk j hj
 rwa [add_lit, add_lit] at this

section
variable {H : Type} {enc : TypeId × Value → H} {W : World}

end
end Go.Proofs.YtfmhkicncgccjaaGreat

/- A region that draws its order and whose last operation writes a cell that an earlier one reads: what is held is asked behind every operation but that last one. -/
namespace Go.Proofs.YtfmhkicncgccjaaGreat
set_option linter.unusedSimpArgs false
set_option linter.unusedVariables false

/-- Whatever order is picked; S holds behind each operation but number d. -/
def wpAnyE (P : Program) (md : Region.Mode) (ops : Array Oper) (Q : Exit → Act → World → Prop) (S : World → Prop) (d : Nat) : Nat → Array Bool → Act → World → Prop
 | 0, listed, a, w => Region.ready md ops listed = [] ∧ Q .normal a w
 | fuel + 1, listed, a, w => (Region.ready md ops listed = [] → Q .normal a w) ∧ ∀ i, i ∈ Region.ready md ops listed → wpOp P ops Q i (fun a' w' => (i ≠ d → S w') ∧ wpAnyE P md ops Q S d fuel (listed.setIfInBounds i true) a' w') a w

theorem wpAny_of_E {P : Program} {md : Region.Mode} {ops : Array Oper} {Q : Exit → Act → World → Prop} {S : World → Prop} {d : Nat} (fuel : Nat) : ∀ (listed : Array Bool) (a : Act) (w : World), wpAnyE P md ops Q S d fuel listed a w → wpAny P md ops Q fuel listed a w := by
 induction fuel with
 | zero => intro _ _ _ h; exact h
 | succ n ih => intro listed a w h; exact ⟨h.1, fun i hi => wpOp_mono (fun _ _ hh => ih _ _ _ hh.2) (h.2 i hi)⟩

theorem unlisted_not {md : Region.Mode} {ops : Array Oper} {listed : Array Bool} {i j : Nat} (hi : i ∈ Region.ready md ops listed) (hj : j ∈ Region.ready md ops listed) {oj : Oper} (hoj : ops[j]? = some oj) {e : Edge} (he : e ∈ oj.after) (hb : Region.binds md e = true) : e.on ≠ i := by
 intro heq
 obtain ⟨_, o, ho, hall⟩ := mem_ready.1 hj
 rw [hoj] at ho
 cases ho
 have h1 := hall e he hb
 have h0 := (mem_ready.1 hi).1
 rw [heq] at h1
 by_cases h' : i < listed.size
 · simp [h'] at h0 h1
   rw [h0] at h1
   cases h1
 · simp [h'] at h1

theorem wpAnyE_first {P : Program} {md : Region.Mode} {ops : Array Oper} {Q : Exit → Act → World → Prop} {S : World → Prop} {d i : Nat} {oi od : Oper} {v : Value} (hi : ops[i]? = some oi) (hsel : ∀ (j : Nat) (o : Oper) cs b, ops[j]? = some o → o.op ≠ .select cs b)
 (hQ : ∀ c a w, Q (.panic c) (a.put oi.dst v) w → Q (.panic c) a w) (hd : ops[d]? = some od) (hwait : ∃ e ∈ od.after, Region.binds md e = true ∧ e.on = i) (fuel : Nat) :
 ∀ (listed : Array Bool) (a : Act) (w : World),
  (∀ j oj, ops[j]? = some oj → j ≠ i → listed.getD j true = false → (∀ e ∈ oj.after, Region.binds md e = true → e.on ≠ i) → oi.apart ops oj = true) →
  i ∈ Region.ready md ops listed → YieldsIf P ops S oi v a → S w → i ≠ d →
  wpAnyE P md ops Q S d fuel (listed.setIfInBounds i true) (a.put oi.dst v) w → wpAnyE P md ops Q S d (fuel + 1) listed a w := by
 induction fuel with
 | zero =>
  intro listed a w _ hr hy hS hid H
  refine ⟨fun h => absurd hr (by rw [h]; exact List.not_mem_nil), fun j hj => ?_⟩
  by_cases hji : j = i
  · rw [hji]
    exact hy.wpOp hi hS ⟨fun _ => hS, H⟩
  · exact absurd (ready_mono hj hji) (by rw [H.1]; exact List.not_mem_nil)
 | succ fuel ih =>
  intro listed a w hfree hr hy hS hid H
  refine ⟨fun h => absurd hr (by rw [h]; exact List.not_mem_nil), fun j hj => ?_⟩
  by_cases hji : j = i
  · rw [hji]
    exact hy.wpOp hi hS ⟨fun _ => hS, H⟩
  · obtain ⟨hjun, oj, hoj, -⟩ := mem_ready.1 hj
    have hjd : j ≠ d := by
     rintro rfl
     rw [hd] at hoj
     cases hoj
     obtain ⟨e, he, hb, heq⟩ := hwait
     exact unlisted_not hr hj hd he hb heq
    have step := wpOp_putIf hoj (hfree j oj hoj hji hjun (fun e he hb => unlisted_not hr hj hoj he hb)) (fun cs b => hsel i oi cs b hi) (fun cs b => hsel j oj cs b hoj) hQ hy (H.2 j (ready_mono hj hji))
    refine wpOp_mono (fun a' w' hh => ⟨fun _ => hh.2.1 hjd, ih _ a' w' (fun k ok hk hki hun hno => hfree k ok hk hki ?_ hno) (ready_mono hr (Ne.symm hji)) hh.1 (hh.2.1 hjd) hid ?_⟩) step
    · by_cases hjk : j = k
      · rw [← hjk]; exact hjun
      · rwa [getD_set_ne true hjk] at hun
    · rw [Array.setIfInBounds_comm _ _ hji]
      exact hh.2.2

/-- Number i is taken first. -/
theorem wpAnyE_take {P : Program} {md : Region.Mode} {ops : Array Oper} {Q : Exit → Act → World → Prop} {S : World → Prop} {d i fuel : Nat} {oi : Oper} {v : Value} {listed : Array Bool} {a : Act} {w : World} (hi : ops[i]? = some oi)
 (hs : Region.noSelect ops = true) (hf : Region.free md ops listed i = true) (hr : (Region.ready md ops listed).contains i = true) (hw : ((ops[d]?).map fun o => o.after.any fun e => Region.binds md e && e.on == i) = some true) (hid : (i == d) = false)
 (hQ : ∀ c a w, Q (.panic c) (a.put oi.dst v) w → Q (.panic c) a w) (hy : YieldsIf P ops S oi v a) (hS : S w)
 (h : wpAnyE P md ops Q S d fuel (listed.setIfInBounds i true) (a.put oi.dst v) w) : wpAnyE P md ops Q S d (fuel + 1) listed a w := by
 obtain ⟨od, hd, hany⟩ := Option.map_eq_some_iff.1 hw
 obtain ⟨e, he, hb⟩ := Array.any_eq_true'.1 hany
 simp only [Bool.and_eq_true, beq_iff_eq] at hb
 exact wpAnyE_first hi (Region.noSelect_spec hs) hQ hd ⟨e, he, hb.1, hb.2⟩ fuel listed a w (Region.free_spec hi hf) (by simpa using hr) hy hS (by simpa using hid) h
/-- Number i alone may come up. -/
theorem wpAnyE_one {P : Program} {md : Region.Mode} {ops : Array Oper} {Q : Exit → Act → World → Prop} {S : World → Prop} {d i fuel : Nat} {o : Oper} {listed : Array Bool} {a : Act} {w : World} (ho : ops[i]? = some o) (hr : Region.ready md ops listed = [i])
 (h : ∀ K : Act → World → Prop, Shut (∀ a w, (i ≠ d → S w) → wpAnyE P md ops Q S d fuel (listed.setIfInBounds i true) a w → K a w) → if Region.wanted o (yielded ops a.tmps) = true then Oper.wp P o a w K Q else K (a.put o.dst undef) w) :
 wpAnyE P md ops Q S d (fuel + 1) listed a w := by
 refine ⟨fun h0 => absurd (hr.symm.trans h0) (by simp), fun j hj => ?_⟩
 rw [hr] at hj
 have e : j = i := by simpa using hj
 rw [e]
 exact wpOp_step ho (fun K hK => h K (fun a w h1 h2 => hK a w ⟨h1, h2⟩))
theorem wpAnyE_done {P : Program} {md : Region.Mode} {ops : Array Oper} {Q : Exit → Act → World → Prop} {S : World → Prop} {d : Nat} {listed : Array Bool} {a : Act} {w : World} (hr : Region.ready md ops listed = []) (h : Q .normal a w) (fuel : Nat) : wpAnyE P md ops Q S d fuel listed a w := by
 cases fuel with
 | zero => exact ⟨hr, h⟩
 | succ n => exact ⟨fun _ => h, fun i hi => absurd hi (by rw [hr]; exact List.not_mem_nil)⟩
/-- The same, the operation laid out. -/
theorem wpAnyE_takeC {P : Program} {md : Region.Mode} {ops : Array Oper} {Q : Exit → Act → World → Prop} {S : World → Prop} {d i fuel : Nat} {t : Tmp} {op : Op} {ty : TypeId} {pos : String} {after : Array Edge} {guard : Option (Nat × Bool)} {v : Value} {listed : Array Bool} {a : Act} {w : World} (hi : ops[i]? = some ⟨some t, op, ty, pos, after, guard⟩)
 (hs : Region.noSelect ops = true) (hf : Region.free md ops listed i = true) (hr : (Region.ready md ops listed).contains i = true) (hw : ((ops[d]?).map fun o => o.after.any fun e => Region.binds md e && e.on == i) = some true) (hid : (i == d) = false)
 (hQ : ∀ c a w, Q (.panic c) (a.put (some t) v) w → Q (.panic c) a w) (hy : YieldsIf P ops S ⟨some t, op, ty, pos, after, guard⟩ v a) (hS : S w)
 (h : wpAnyE P md ops Q S d fuel (listed.setIfInBounds i true) (a.put (some t) v) w) : wpAnyE P md ops Q S d (fuel + 1) listed a w :=
 wpAnyE_take hi hs hf hr hw hid hQ hy hS h
theorem wpAnyE_oneC {P : Program} {md : Region.Mode} {ops : Array Oper} {Q : Exit → Act → World → Prop} {S : World → Prop} {d i fuel : Nat} {dst : Option Tmp} {op : Op} {ty : TypeId} {pos : String} {after : Array Edge} {guard : Option (Nat × Bool)} {listed : Array Bool} {a : Act} {w : World} (ho : ops[i]? = some ⟨dst, op, ty, pos, after, guard⟩) (hr : Region.ready md ops listed = [i])
 (h : ∀ K : Act → World → Prop, Shut (∀ a w, (i ≠ d → S w) → wpAnyE P md ops Q S d fuel (listed.setIfInBounds i true) a w → K a w) → if Region.wanted ⟨dst, op, ty, pos, after, guard⟩ (yielded ops a.tmps) = true then Oper.wp P ⟨dst, op, ty, pos, after, guard⟩ a w K Q else K (a.put dst undef) w) :
 wpAnyE P md ops Q S d (fuel + 1) listed a w :=
 wpAnyE_one ho hr h
theorem wp_region_E {P : Program} {ops : Array Oper} {Q : Exit → Act → World → Prop} (S : World → Prop) (d : Nat) {id : Nat} {a : Act} {w : World} (hm : P.follows .mixedOrders = true) (h : wpAnyE P .any ops Q S d ops.size (Array.replicate ops.size false) a w.drew) : (Code.region id ops true).wp P Q a w :=
 wp_region_any hm (wpAny_of_E _ _ _ _ h)

end Go.Proofs.YtfmhkicncgccjaaGreat

