/- What the specification's ClaimWantOk answers. -/
import Derived.Test.YtfmhkicncgccjaaGreatUsesS
namespace Go.Proofs.YtfmhkicncgccjaaGreat
open Go.RowKit Go.Sort

/-- A want's value, its lists where they lie. -/
def wantW (x : Want) (a2 a3 a4 a5 : Option Addr) (c2 c3 c4 c5 : Nat) : Value :=
  .agg #[.int .i64 x.number, .int .i64 x.kind, .slice a2 x.stuffs.length c2, .slice a3 x.uses.length c3, .slice a4 x.opens.length c4, .slice a5 x.shuts.length c5]

/-- The lists of a want lie in memory, and are lists that can be. -/
structure WantIn (w : World) (x : Want) (a2 a3 a4 a5 : Option Addr) : Prop where
  stuffs : StrsAt w a2 x.stuffs
  uses : UsesAt w a3 x.uses
  opens : StrsAt w a4 x.opens
  shuts : StrsAt w a5 x.shuts

structure WantFit (x : Want) : Prop where
  stuffs : Fit x.stuffs
  usesLen : x.uses.length ≤ maxLen
  usesNames : ∀ u ∈ x.uses, u.name.size ≤ maxLen
  opens : Fit x.opens
  shuts : Fit x.shuts

theorem WantIn.later {w w' : World} {x : Want} {a2 a3 a4 a5 : Option Addr} (h : WantIn w x a2 a3 a4 a5) (hb : Below w.heap.size w w') : WantIn w' x a2 a3 a4 a5 :=
  ⟨h.stuffs.later hb, h.uses.later hb, h.opens.later hb, h.shuts.later hb⟩

theorem namesB_len {ss : List ByteArray} {m : Int} (h : namesB ss m = true) : (ss.length : Int) ≤ m := by
  unfold namesB at h
  rw [Bool.and_eq_true] at h
  exact of_decide_eq_true h.1
theorem usesS_len {k : Int} {us : List Use} (h : usesS k us = true) : (us.length : Int) ≤ 8 := by
  unfold usesS at h
  rw [Bool.and_eq_true] at h
  exact of_decide_eq_true h.1

/-- A want is ok, as the specification asks. -/
def wantB (x : Want) : Bool :=
  inB x.number 1 1000000 && inB x.kind 1 3 && usesS x.kind x.uses && namesB x.opens 12 && namesB x.shuts 12 && !shareB x.opens x.shuts &&
    !(decide (x.uses.length + x.opens.length + x.shuts.length = 0)) && !(!(x.kind == 1) && decide (0 < x.opens.length)) && namesB x.stuffs 8 && ((x.kind == 1) == decide (0 < x.stuffs.length))

theorem wantB_last (x : Want) (h1 : inB x.number 1 1000000 = true) (h2 : inB x.kind 1 3 = true) (h3 : usesS x.kind x.uses = true) (h4 : namesB x.opens 12 = true) (h5 : namesB x.shuts 12 = true) (h6 : shareB x.opens x.shuts = false)
    (h7 : decide (x.uses.length + x.opens.length + x.shuts.length = 0) = false) (h8 : (!(x.kind == 1) && decide (0 < x.opens.length)) = false) (h9 : namesB x.stuffs 8 = true) :
    wantB x = ((x.kind == 1) == decide (0 < x.stuffs.length)) := by
  unfold wantB
  rw [h1, h2, h3, h4, h5, h6, h7, h8, h9]
  rfl

set_option maxHeartbeats 2000000 in
theorem specWantOk_any (x : Want) (a2 a3 a4 a5 : Option Addr) (c2 c3 c4 c5 : Nat) (w : World) (hin : WantIn w x a2 a3 a4 a5) (hf : WantFit x) :
    Calls Tryz.prog 127 #[wantW x a2 a3 a4 a5 c2 c3 c4 c5] w fun e w' => e = .returned (.bool (wantB x)) ∧ Below w.heap.size w w' := by
  unfold wantW
  have HB0 : Below (w.alloc (.cells #[.int .i64 x.number, .int .i64 x.kind, .slice a2 x.stuffs.length c2, .slice a3 x.uses.length c3, .slice a4 x.opens.length c4, .slice a5 x.shuts.length c5] 38)).heap.size (w.alloc (.cells #[.int .i64 x.number, .int .i64 x.kind, .slice a2 x.stuffs.length c2, .slice a3 x.uses.length c3, .slice a4 x.opens.length c4, .slice a5 x.shuts.length c5] 38)) (w.alloc (.cells #[.int .i64 x.number, .int .i64 x.kind, .slice a2 x.stuffs.length c2, .slice a3 x.uses.length c3, .slice a4 x.opens.length c4, .slice a5 x.shuts.length c5] 38)) := Below.refl _ _
  have hq1 : inB x.number 1 1000000 = false ∨ inB x.number 1 1000000 = true := by cases inB x.number 1 1000000 <;> simp
  rcases hq1 with hq1 | hq1
  · go_enter Tryz.func127, Tryz.ntmps127
    go_wp2_with (go_at_call 45; refine (l1In_any _ _ _ _).mono ?_; rintro e w' ⟨rfl, rfl⟩; rw [hq1])
    go_ret
    exact ⟨ret_bool (by simp [wantB, hq1]), below_over HB0⟩
  cases hq2 : inB x.kind 1 3 with
  | false =>
    go_enter Tryz.func127, Tryz.ntmps127
    go_wp2_with (go_at_call 45; refine (l1In_any _ _ _ _).mono ?_; rintro e w' ⟨rfl, rfl⟩; first | rw [hq1] | rw [hq2])
    go_ret
    exact ⟨ret_bool (by simp [wantB, hq2]), below_over HB0⟩
  | true =>
    go_enter Tryz.func127, Tryz.ntmps127
    go_wp2_with (go_at_call 45; refine (l1In_any _ _ _ _).mono ?_; rintro e w' ⟨rfl, rfl⟩; first | rw [hq1] | rw [hq2])
    have hin1 := hin.later (below_over HB0)
    have hk : x.kind = 1 ∨ x.kind = 2 ∨ x.kind = 3 := by
      unfold inB at hq2; simp at hq2; omega
    refine (l1UsesOk_any x.number x.kind a2 a3 a4 a5 x.stuffs.length c2 c3 x.opens.length c4 x.shuts.length c5 x.uses _ hin1.uses hf.usesLen hf.usesNames).mono ?_
    rintro e w1 ⟨rfl, hb⟩
    have HB1 := HB0.trans (hb.mono HB0.size)
    have hin2 := hin.later (below_over HB1)
    obtain ⟨y0, y1, y2, y3, y4, y5, hz⟩ := box6 HB1
    clear hb HB0 hin1
    cases hq3 : usesS x.kind x.uses with
    | false =>
      go_wp2
      go_ret
      exact ⟨ret_bool (by simp [wantB, hq3]), below_over HB1⟩
    | true =>
    have hl3 := usesS_len hq3
    go_wp2_with fail
    refine (l1NamesOk_any a4 c4 x.opens 12 _ hin2.opens hf.opens).mono ?_
    rintro e w2 ⟨rfl, hb⟩
    have HB2 := HB1.trans (hb.mono HB1.size)
    have hin3 := hin.later (below_over HB2)
    clear y0 y1 y2 y3 y4 y5 hz
    obtain ⟨y0, y1, y2, y3, y4, y5, hz⟩ := box6 HB2
    clear hb HB1 hin2
    cases hq4 : namesB x.opens 12 with
    | false =>
      go_wp2
      go_ret
      exact ⟨ret_bool (by simp [wantB, hq4]), below_over HB2⟩
    | true =>
    have hl4 := namesB_len hq4
    go_wp2_with fail
    refine (l1NamesOk_any a5 c5 x.shuts 12 _ hin3.shuts hf.shuts).mono ?_
    rintro e w3 ⟨rfl, hb⟩
    have HB3 := HB2.trans (hb.mono HB2.size)
    have hin4 := hin.later (below_over HB3)
    clear y0 y1 y2 y3 y4 y5 hz
    obtain ⟨y0, y1, y2, y3, y4, y5, hz⟩ := box6 HB3
    clear hb HB2 hin3
    cases hq5 : namesB x.shuts 12 with
    | false =>
      go_wp2
      go_ret
      exact ⟨ret_bool (by simp [wantB, hq5]), below_over HB3⟩
    | true =>
    have hl5 := namesB_len hq5
    go_wp2_with fail
    refine (l1Share_any a4 a5 c4 c5 x.opens x.shuts _ hin4.opens hin4.shuts hf.opens.1 hf.shuts.1).mono ?_
    rintro e w4 ⟨rfl, rfl⟩
    cases hq6 : shareB x.opens x.shuts with
    | true =>
      go_wp2
      go_ret
      exact ⟨ret_bool (by simp [wantB, hq6]), below_over HB3⟩
    | false =>
    by_cases h7 : x.uses.length + x.opens.length + x.shuts.length = 0
    · have h7' : (((x.uses.length : Int) + x.opens.length + x.shuts.length) == 0) = true := by simp; omega
      go_wp2
      go_ret
      exact ⟨ret_bool (by simp [wantB, h7]), below_over HB3⟩
    have h7' : (((x.uses.length : Int) + x.opens.length + x.shuts.length) == 0) = false := by simp; omega
    have hd7 : decide (x.uses.length + x.opens.length + x.shuts.length = 0) = false := decide_eq_false h7
    have HD7 : Hid (decide (x.uses.length + x.opens.length + x.shuts.length = 0) = false) := hd7
    clear hd7
    by_cases h8 : x.kind = 1
    · have h8' : (x.kind != 1) = false := by simp [h8]
      have h8'' : (x.kind == 1) = true := by simp [h8]
      have HK : Hid (x.kind = 1) := h8
      clear h8 h7 hk
      go_wp2_with fail
      refine (l1NamesOk_any a2 c2 x.stuffs 8 _ hin4.stuffs hf.stuffs).mono ?_
      rintro e w5 ⟨rfl, hb⟩
      have HB4 := HB3.trans (hb.mono HB3.size)
      clear y0 y1 y2 y3 y4 y5 hz
      obtain ⟨y0, y1, y2, y3, y4, y5, hz⟩ := box6 HB4
      clear hb HB3 hin4
      cases hq9 : namesB x.stuffs 8 with
      | false =>
        go_wp2
        go_ret
        exact ⟨ret_bool (by simp [wantB, hq9]), below_over HB4⟩
      | true =>
        go_wp2
        go_ret
        refine ⟨ret_bool ?_, below_over HB4⟩
        rw [wantB_last x hq1 hq2 hq3 hq4 hq5 hq6 HD7.out (by rw [h8'']; rfl) hq9, h8'', Bool.eq_iff_iff]
        simp
    · have h8' : (x.kind != 1) = true := by simp [h8]
      have h8'' : (x.kind == 1) = false := by simp [h8]
      have HK : Hid (¬ x.kind = 1) := h8
      clear h8 h7 hk
      by_cases h10 : 0 < x.opens.length
      · go_wp2
        go_ret
        exact ⟨ret_bool (by simp [wantB, HK.out, h10]), below_over HB3⟩
      · have h10' : x.opens.length = 0 := by omega
        have HO : Hid (x.opens.length = 0) := h10'
        clear h10'
        go_wp2_with fail
        refine (l1NamesOk_any a2 c2 x.stuffs 8 _ hin4.stuffs hf.stuffs).mono ?_
        rintro e w5 ⟨rfl, hb⟩
        have HB4 := HB3.trans (hb.mono HB3.size)
        clear y0 y1 y2 y3 y4 y5 hz
        obtain ⟨y0, y1, y2, y3, y4, y5, hz⟩ := box6 HB4
        clear hb HB3 hin4
        cases hq9 : namesB x.stuffs 8 with
        | false =>
          go_wp2
          go_ret
          exact ⟨ret_bool (by simp [wantB, hq9]), below_over HB4⟩
        | true =>
          go_wp2
          go_ret
          refine ⟨ret_bool ?_, below_over HB4⟩
          rw [wantB_last x hq1 hq2 hq3 hq4 hq5 hq6 HD7.out (by rw [HO.out]; simp) hq9, h8'', Bool.eq_iff_iff]
          simp

end Go.Proofs.YtfmhkicncgccjaaGreat
