/- Joined: UsesS, WantS, WantI. -/
import Derived.Test.YtfmhkicncgccjaaGreatDoorPc02
/- What the specification's l1UsesOk answers. -/
namespace Go.Proofs.YtfmhkicncgccjaaGreatDoor
open Go.RowKit Go.Sort

def amtS (kind : Int) (u : Use) : Bool := if u.role == 3 then u.amount == 0 else kind == 1 && inB u.amount 1 1000
def useAtS (kind : Int) (us : List Use) (k : Nat) : Bool := nameB (gu us k).name && (k == 0 || ltS (gu us (k - 1)).name (gu us k).name) && inB (gu us k).role 1 3 && amtS kind (gu us k)
def usesS (kind : Int) (us : List Use) : Bool := decide ((us.length : Int) ≤ 8) && allTo us.length (useAtS kind us)

theorem usesS_many {kind : Int} {us : List Use} (h : 8 < (us.length : Int)) : usesS kind us = false := by
  unfold usesS; rw [decide_eq_false (by omega)]; rfl
theorem usesS_bad {kind : Int} {us : List Use} (k : Nat) (hk : k < us.length) (h : useAtS kind us k = false) : usesS kind us = false := by
  unfold usesS; rw [allTo_false k hk h, Bool.and_false]
theorem usesS_good {kind : Int} {us : List Use} (h : ¬ 8 < (us.length : Int)) (ha : allTo us.length (useAtS kind us) = true) : usesS kind us = true := by
  unfold usesS; rw [ha, decide_eq_true (by omega)]; rfl

set_option maxHeartbeats 2000000 in
theorem l1UsesOk_any (n kind : Int) (a2 a a4 a5 : Option Addr) (n2 c2 cap n4 c4 n5 c5 : Nat) (us : List Use) (w : World) (hm : UsesAt w a us) (hl : us.length ≤ maxLen) (hs : ∀ u ∈ us, u.name.size ≤ maxLen) :
    Calls Tryz.prog 67 #[wantV n kind (.slice a2 n2 c2) (.slice a us.length cap) (.slice a4 n4 c4) (.slice a5 n5 c5)] w fun e w' => e = .returned (.bool (usesS kind us)) ∧ Below w.heap.size w w' := by
  have hl' := hl
  unfold maxLen at hl
  unfold wantV
  by_cases hmany : 8 < (us.length : Int)
  · go_enter Tryz.func67, Tryz.ntmps67
    go_wp2
    go_ret
    exact ⟨ret_bool (usesS_many hmany).symm, (Below.refl _ _).alloc (Nat.le_refl _) _⟩
  · go_enter Tryz.func67, Tryz.ntmps67
    go_wp2
    go_loopw [3] (fun i wr => ∃ (k : Nat), k ≤ us.length ∧ i = .int .i64 k ∧ allTo k (useAtS kind us) = true ∧ Below (w.alloc (.cells #[.int .i64 n, .int .i64 kind, .slice a2 n2 c2, .slice a us.length cap, .slice a4 n4 c4, .slice a5 n5 c5] 42)).heap.size (w.alloc (.cells #[.int .i64 n, .int .i64 kind, .slice a2 n2 c2, .slice a us.length cap, .slice a4 n4 c4, .slice a5 n5 c5] 42)) wr) (fun i _ => us.length - (intOf i).toNat)
    case atStart => exact ⟨0, Nat.zero_le _, rfl, rfl, Below.refl _ _⟩
    case round wr =>
      obtain ⟨k, hk, rfl, hall, hbel⟩ := hrel
      obtain ⟨-, y1, -, y3, -, -, hz⟩ := box6 hbel
      have hbw := below_over hbel
      by_cases hlt : k < us.length
      · obtain ⟨b, o, ha, hb, hc0, hc1, hc2⟩ := (hm.later hbw).at hlt
        have hsz : (gu us k).name.size ≤ maxLen := hs _ (gu_mem hlt)
        have hbf : ∀ nd, Below (w.alloc (.cells #[.int .i64 n, .int .i64 kind, .slice a2 n2 c2, .slice a us.length cap, .slice a4 n4 c4, .slice a5 n5 c5] 42)).heap.size (w.alloc (.cells #[.int .i64 n, .int .i64 kind, .slice a2 n2 c2, .slice a us.length cap, .slice a4 n4 c4, .slice a5 n5 c5] 42)) ((wr.alloc (.cells #[.string (gu us k).name, .int .i64 (gu us k).role, .int .i64 (gu us k).amount] 101)).drewN nd) := fun nd => below_drewN (hbel.alloc hbel.size _) nd
        have hcall1 := fun nd => quietSame (w := wr.alloc (.cells #[.string (gu us k).name, .int .i64 (gu us k).role, .int .i64 (gu us k).amount] 101)) (n := nd) (l1NameOk_any (gu us k).name _ hsz)
        have hcall2 := fun nd => quietSame (w := wr.alloc (.cells #[.string (gu us k).name, .int .i64 (gu us k).role, .int .i64 (gu us k).amount] 101)) (n := nd) (l1In_any (gu us k).role 1 3 _)
        clear hs
        cases hq : nameB (gu us k).name with
        | false =>
          rw [hq] at hcall1
          subst ha
          go_wp2
          go_quiet (exact hcall1 _)
          go_wp2
          go_ret
          exact ⟨ret_bool (usesS_bad k hlt (by unfold useAtS; rw [hq]; rfl)).symm, below_over (hbf _)⟩
        | true =>
          rw [hq] at hcall1
          by_cases hk0 : k = 0
          · subst hk0
            have hasc : True := trivial
            subst ha
            simp only [Nat.zero_mul, Nat.add_zero] at hc0 hc1 hc2
            cases hr : inB (gu us 0).role 1 3 with
            | false =>
              rw [hr] at hcall2
              go_wp2
              go_quiet (first | exact hcall1 _ | exact hcall2 _)
              go_wp2
              go_ret
              exact ⟨ret_bool (usesS_bad 0 hlt (by unfold useAtS; rw [hr]; simp)).symm, below_over (hbf _)⟩
            | true =>
              rw [hr] at hcall2
              have hpre : useAtS kind us 0 = amtS kind (gu us 0) := by unfold useAtS; simp [hq, hr]
              have HP : Hid (useAtS kind us 0 = amtS kind (gu us 0)) := hpre
              clear hpre
              go_wp2
              go_quiet (first | exact hcall1 _ | exact hcall2 _)
              clear hcall1 hcall2
              by_cases h3 : (gu us 0).role = 3
              · have h3' : ((gu us 0).role == 3) = true := by simp [h3]
                have h3n : ((gu us 0).role != 3) = false := by simp [h3]
                by_cases h0 : (gu us 0).amount = 0
                · have h0' : ((gu us 0).amount != 0) = false := by simp [h0]
                  have hgood : useAtS kind us 0 = true := by rw [HP.out]; simp [amtS, h3, h0]
                  have HG : Hid (useAtS kind us 0 = true) := hgood
                  clear h3 h0 hgood
                  go_wp2
                  go_roundw
                  case rel => exact ⟨0 + 1, by omega, by first | rfl | go_num, allTo_succ hall HG.out, hbf _⟩
                  case measure => simp [intOf]; omega
                · have h0' : ((gu us 0).amount != 0) = true := by simp [h0]
                  have hbad : useAtS kind us 0 = false := by rw [HP.out]; simp [amtS, h3, h0]
                  have HG : Hid (useAtS kind us 0 = false) := hbad
                  clear h3 h0 hbad
                  go_wp2
                  go_ret
                  exact ⟨ret_bool (usesS_bad 0 hlt HG.out).symm, below_over (hbf _)⟩
              · have h3' : ((gu us 0).role == 3) = false := by simp [h3]
                have h3n : ((gu us 0).role != 3) = true := by simp [h3]
                by_cases h1 : kind = 1
                · have h1' : (kind != 1) = false := by simp [h1]
                  cases hi : inB (gu us 0).amount 1 1000 with
                  | true =>
                    have hgood : useAtS kind us 0 = true := by rw [HP.out]; simp [amtS, h3, h1, hi]
                    have HG : Hid (useAtS kind us 0 = true) := hgood
                    clear h3 h1 hgood
                    go_wp2_with (go_at_call 46; refine (l1In_any _ _ _ _).mono ?_; rintro e w' ⟨rfl, rfl⟩; rw [hi])
                    go_roundw
                    case rel => exact ⟨0 + 1, by omega, by first | rfl | go_num, allTo_succ hall HG.out, hbf _⟩
                    case measure => simp [intOf]; omega
                  | false =>
                    have hbad : useAtS kind us 0 = false := by rw [HP.out]; simp [amtS, h3, h1, hi]
                    have HG : Hid (useAtS kind us 0 = false) := hbad
                    clear h3 h1 hbad
                    go_wp2_with (go_at_call 46; refine (l1In_any _ _ _ _).mono ?_; rintro e w' ⟨rfl, rfl⟩; rw [hi])
                    go_ret
                    exact ⟨ret_bool (usesS_bad 0 hlt HG.out).symm, below_over (hbf _)⟩
                · have h1' : (kind != 1) = true := by simp [h1]
                  have hbad : useAtS kind us 0 = false := by rw [HP.out]; simp [amtS, h3, h1]
                  have HG : Hid (useAtS kind us 0 = false) := hbad
                  clear h3 h1 hbad
                  go_wp2
                  go_ret
                  exact ⟨ret_bool (usesS_bad 0 hlt HG.out).symm, below_over (hbf _)⟩
          · cases hasc : ltS (gu us (k - 1)).name (gu us k).name with
            | false =>
              obtain ⟨j, rfl⟩ : ∃ j, k = j + 1 := ⟨k - 1, by omega⟩
              obtain ⟨b', o', ha', hb', hd0, -, -⟩ := (hm.later hbw).at (k := j) (by omega)
              subst ha
              simp only [Option.some.injEq, Addr.mk.injEq, and_true] at ha'
              obtain ⟨rfl, rfl⟩ := ha'
              simp only [Nat.add_sub_cancel] at hasc
              have hasc' : Op.bytesLess (gu us j).name.toList (gu us (j + 1)).name.toList = false := hasc
              go_wp2
              go_quiet (first | exact hcall1 _ | exact hcall2 _)
              go_wp2
              go_ret
              exact ⟨ret_bool (usesS_bad (j + 1) hlt (by unfold useAtS; simp [hasc])).symm, below_over (hbf _)⟩
            | true =>
              obtain ⟨j, rfl⟩ : ∃ j, k = j + 1 := ⟨k - 1, by omega⟩
              obtain ⟨b', o', ha', hb', hd0, -, -⟩ := (hm.later hbw).at (k := j) (by omega)
              subst ha
              simp only [Option.some.injEq, Addr.mk.injEq, and_true] at ha'
              obtain ⟨rfl, rfl⟩ := ha'
              simp only [Nat.add_sub_cancel] at hasc
              have hasc' : Op.bytesLess (gu us j).name.toList (gu us (j + 1)).name.toList = true := hasc
              cases hr : inB (gu us (j + 1)).role 1 3 with
              | false =>
                rw [hr] at hcall2
                go_wp2
                go_quiet (first | exact hcall1 _ | exact hcall2 _)
                go_wp2
                go_ret
                exact ⟨ret_bool (usesS_bad (j + 1) hlt (by unfold useAtS; rw [hr]; simp)).symm, below_over (hbf _)⟩
              | true =>
                rw [hr] at hcall2
                have hpre : useAtS kind us (j + 1) = amtS kind (gu us (j + 1)) := by unfold useAtS; simp [hq, hr, hasc]
                have HP : Hid (useAtS kind us (j + 1) = amtS kind (gu us (j + 1))) := hpre
                clear hpre
                go_wp2
                go_quiet (first | exact hcall1 _ | exact hcall2 _)
                clear hcall1 hcall2
                by_cases h3 : (gu us (j + 1)).role = 3
                · have h3' : ((gu us (j + 1)).role == 3) = true := by simp [h3]
                  have h3n : ((gu us (j + 1)).role != 3) = false := by simp [h3]
                  by_cases h0 : (gu us (j + 1)).amount = 0
                  · have h0' : ((gu us (j + 1)).amount != 0) = false := by simp [h0]
                    have hgood : useAtS kind us (j + 1) = true := by rw [HP.out]; simp [amtS, h3, h0]
                    have HG : Hid (useAtS kind us (j + 1) = true) := hgood
                    clear h3 h0 hgood
                    go_wp2
                    go_roundw
                    case rel => exact ⟨(j + 1) + 1, by omega, by first | rfl | go_num, allTo_succ hall HG.out, hbf _⟩
                    case measure => simp [intOf]; omega
                  · have h0' : ((gu us (j + 1)).amount != 0) = true := by simp [h0]
                    have hbad : useAtS kind us (j + 1) = false := by rw [HP.out]; simp [amtS, h3, h0]
                    have HG : Hid (useAtS kind us (j + 1) = false) := hbad
                    clear h3 h0 hbad
                    go_wp2
                    go_ret
                    exact ⟨ret_bool (usesS_bad (j + 1) hlt HG.out).symm, below_over (hbf _)⟩
                · have h3' : ((gu us (j + 1)).role == 3) = false := by simp [h3]
                  have h3n : ((gu us (j + 1)).role != 3) = true := by simp [h3]
                  by_cases h1 : kind = 1
                  · have h1' : (kind != 1) = false := by simp [h1]
                    cases hi : inB (gu us (j + 1)).amount 1 1000 with
                    | true =>
                      have hgood : useAtS kind us (j + 1) = true := by rw [HP.out]; simp [amtS, h3, h1, hi]
                      have HG : Hid (useAtS kind us (j + 1) = true) := hgood
                      clear h3 h1 hgood
                      go_wp2_with (go_at_call 46; refine (l1In_any _ _ _ _).mono ?_; rintro e w' ⟨rfl, rfl⟩; rw [hi])
                      go_roundw
                      case rel => exact ⟨(j + 1) + 1, by omega, by first | rfl | go_num, allTo_succ hall HG.out, hbf _⟩
                      case measure => simp [intOf]; omega
                    | false =>
                      have hbad : useAtS kind us (j + 1) = false := by rw [HP.out]; simp [amtS, h3, h1, hi]
                      have HG : Hid (useAtS kind us (j + 1) = false) := hbad
                      clear h3 h1 hbad
                      go_wp2_with (go_at_call 46; refine (l1In_any _ _ _ _).mono ?_; rintro e w' ⟨rfl, rfl⟩; rw [hi])
                      go_ret
                      exact ⟨ret_bool (usesS_bad (j + 1) hlt HG.out).symm, below_over (hbf _)⟩
                  · have h1' : (kind != 1) = true := by simp [h1]
                    have hbad : useAtS kind us (j + 1) = false := by rw [HP.out]; simp [amtS, h3, h1]
                    have HG : Hid (useAtS kind us (j + 1) = false) := hbad
                    clear h3 h1 hbad
                    go_wp2
                    go_ret
                    exact ⟨ret_bool (usesS_bad (j + 1) hlt HG.out).symm, below_over (hbf _)⟩
      · have : k = us.length := by omega
        subst this
        go_wp2
        go_ret
        exact ⟨ret_bool (usesS_good (by omega) hall).symm, hbw⟩

end Go.Proofs.YtfmhkicncgccjaaGreatDoor

/- What the specification's ClaimWantOk answers. -/
namespace Go.Proofs.YtfmhkicncgccjaaGreatDoor
open Go.RowKit Go.Sort

/-- A want's value, its lists where they lie. -/
def wantW (x : Want) (a2 a3 a4 a5 : Option Addr) (c2 c3 c4 c5 : Nat) : Value :=
  .agg #[.int .i64 x.number, .int .i64 x.kind, .slice a2 x.stuffs.length c2, .slice a3 x.uses.length c3, .slice a4 x.opens.length c4, .slice a5 x.shuts.length c5]

/-- The lists of a want lie in memory, and are lists that can be. -/
structure WantIn (w : World) (x : Want) (a2 a3 a4 a5 : Option Addr) : Prop where
  stuffs : StrsAt w a2 x.stuffs
  uses : UsesAt w a3 x.uses
  opens : StrsAt w a4 x.opens
  shuts : StrsAt w a5 x.shuts

structure WantFit (x : Want) : Prop where
  stuffs : Fit x.stuffs
  usesLen : x.uses.length ≤ maxLen
  usesNames : ∀ u ∈ x.uses, u.name.size ≤ maxLen
  opens : Fit x.opens
  shuts : Fit x.shuts

theorem WantIn.later {w w' : World} {x : Want} {a2 a3 a4 a5 : Option Addr} (h : WantIn w x a2 a3 a4 a5) (hb : Below w.heap.size w w') : WantIn w' x a2 a3 a4 a5 :=
  ⟨h.stuffs.later hb, h.uses.later hb, h.opens.later hb, h.shuts.later hb⟩

theorem namesB_len {ss : List ByteArray} {m : Int} (h : namesB ss m = true) : (ss.length : Int) ≤ m := by
  unfold namesB at h
  rw [Bool.and_eq_true] at h
  exact of_decide_eq_true h.1
theorem usesS_len {k : Int} {us : List Use} (h : usesS k us = true) : (us.length : Int) ≤ 8 := by
  unfold usesS at h
  rw [Bool.and_eq_true] at h
  exact of_decide_eq_true h.1

/-- A want is ok, as the specification asks. -/
def wantB (x : Want) : Bool :=
  inB x.number 1 1000000 && inB x.kind 1 3 && usesS x.kind x.uses && namesB x.opens 12 && namesB x.shuts 12 && !shareB x.opens x.shuts &&
    !(decide (x.uses.length + x.opens.length + x.shuts.length = 0)) && !(!(x.kind == 1) && decide (0 < x.opens.length)) && namesB x.stuffs 8 && ((x.kind == 1) == decide (0 < x.stuffs.length))

theorem wantB_last (x : Want) (h1 : inB x.number 1 1000000 = true) (h2 : inB x.kind 1 3 = true) (h3 : usesS x.kind x.uses = true) (h4 : namesB x.opens 12 = true) (h5 : namesB x.shuts 12 = true) (h6 : shareB x.opens x.shuts = false)
    (h7 : decide (x.uses.length + x.opens.length + x.shuts.length = 0) = false) (h8 : (!(x.kind == 1) && decide (0 < x.opens.length)) = false) (h9 : namesB x.stuffs 8 = true) :
    wantB x = ((x.kind == 1) == decide (0 < x.stuffs.length)) := by
  unfold wantB
  rw [h1, h2, h3, h4, h5, h6, h7, h8, h9]
  rfl

set_option maxHeartbeats 2000000 in
theorem specWantOk_any (x : Want) (a2 a3 a4 a5 : Option Addr) (c2 c3 c4 c5 : Nat) (w : World) (hin : WantIn w x a2 a3 a4 a5) (hf : WantFit x) :
    Calls Tryz.prog 24 #[wantW x a2 a3 a4 a5 c2 c3 c4 c5] w fun e w' => e = .returned (.bool (wantB x)) ∧ Below w.heap.size w w' := by
  unfold wantW
  have HB0 : Below (w.alloc (.cells #[.int .i64 x.number, .int .i64 x.kind, .slice a2 x.stuffs.length c2, .slice a3 x.uses.length c3, .slice a4 x.opens.length c4, .slice a5 x.shuts.length c5] 42)).heap.size (w.alloc (.cells #[.int .i64 x.number, .int .i64 x.kind, .slice a2 x.stuffs.length c2, .slice a3 x.uses.length c3, .slice a4 x.opens.length c4, .slice a5 x.shuts.length c5] 42)) (w.alloc (.cells #[.int .i64 x.number, .int .i64 x.kind, .slice a2 x.stuffs.length c2, .slice a3 x.uses.length c3, .slice a4 x.opens.length c4, .slice a5 x.shuts.length c5] 42)) := Below.refl _ _
  have hq1 : inB x.number 1 1000000 = false ∨ inB x.number 1 1000000 = true := by cases inB x.number 1 1000000 <;> simp
  rcases hq1 with hq1 | hq1
  · go_enter Tryz.func24, Tryz.ntmps24
    go_wp2_with (go_at_call 46; refine (l1In_any _ _ _ _).mono ?_; rintro e w' ⟨rfl, rfl⟩; rw [hq1])
    go_ret
    exact ⟨ret_bool (by simp [wantB, hq1]), below_over HB0⟩
  cases hq2 : inB x.kind 1 3 with
  | false =>
    go_enter Tryz.func24, Tryz.ntmps24
    go_wp2_with (go_at_call 46; refine (l1In_any _ _ _ _).mono ?_; rintro e w' ⟨rfl, rfl⟩; first | rw [hq1] | rw [hq2])
    go_ret
    exact ⟨ret_bool (by simp [wantB, hq2]), below_over HB0⟩
  | true =>
    go_enter Tryz.func24, Tryz.ntmps24
    go_wp2_with (go_at_call 46; refine (l1In_any _ _ _ _).mono ?_; rintro e w' ⟨rfl, rfl⟩; first | rw [hq1] | rw [hq2])
    have hin1 := hin.later (below_over HB0)
    have hk : x.kind = 1 ∨ x.kind = 2 ∨ x.kind = 3 := by
      unfold inB at hq2; simp at hq2; omega
    refine (l1UsesOk_any x.number x.kind a2 a3 a4 a5 x.stuffs.length c2 c3 x.opens.length c4 x.shuts.length c5 x.uses _ hin1.uses hf.usesLen hf.usesNames).mono ?_
    rintro e w1 ⟨rfl, hb⟩
    have HB1 := HB0.trans (hb.mono HB0.size)
    have hin2 := hin.later (below_over HB1)
    obtain ⟨y0, y1, y2, y3, y4, y5, hz⟩ := box6 HB1
    clear hb HB0 hin1
    cases hq3 : usesS x.kind x.uses with
    | false =>
      go_wp2
      go_ret
      exact ⟨ret_bool (by simp [wantB, hq3]), below_over HB1⟩
    | true =>
    have hl3 := usesS_len hq3
    go_wp2_with fail
    refine (l1NamesOk_any a4 c4 x.opens 12 _ hin2.opens hf.opens).mono ?_
    rintro e w2 ⟨rfl, hb⟩
    have HB2 := HB1.trans (hb.mono HB1.size)
    have hin3 := hin.later (below_over HB2)
    clear y0 y1 y2 y3 y4 y5 hz
    obtain ⟨y0, y1, y2, y3, y4, y5, hz⟩ := box6 HB2
    clear hb HB1 hin2
    cases hq4 : namesB x.opens 12 with
    | false =>
      go_wp2
      go_ret
      exact ⟨ret_bool (by simp [wantB, hq4]), below_over HB2⟩
    | true =>
    have hl4 := namesB_len hq4
    go_wp2_with fail
    refine (l1NamesOk_any a5 c5 x.shuts 12 _ hin3.shuts hf.shuts).mono ?_
    rintro e w3 ⟨rfl, hb⟩
    have HB3 := HB2.trans (hb.mono HB2.size)
    have hin4 := hin.later (below_over HB3)
    clear y0 y1 y2 y3 y4 y5 hz
    obtain ⟨y0, y1, y2, y3, y4, y5, hz⟩ := box6 HB3
    clear hb HB2 hin3
    cases hq5 : namesB x.shuts 12 with
    | false =>
      go_wp2
      go_ret
      exact ⟨ret_bool (by simp [wantB, hq5]), below_over HB3⟩
    | true =>
    have hl5 := namesB_len hq5
    go_wp2_with fail
    refine (l1Share_any a4 a5 c4 c5 x.opens x.shuts _ hin4.opens hin4.shuts hf.opens.1 hf.shuts.1).mono ?_
    rintro e w4 ⟨rfl, rfl⟩
    cases hq6 : shareB x.opens x.shuts with
    | true =>
      go_wp2
      go_ret
      exact ⟨ret_bool (by simp [wantB, hq6]), below_over HB3⟩
    | false =>
    by_cases h7 : x.uses.length + x.opens.length + x.shuts.length = 0
    · have h7' : (((x.uses.length : Int) + x.opens.length + x.shuts.length) == 0) = true := by simp; omega
      go_wp2
      go_ret
      exact ⟨ret_bool (by simp [wantB, h7]), below_over HB3⟩
    have h7' : (((x.uses.length : Int) + x.opens.length + x.shuts.length) == 0) = false := by simp; omega
    have hd7 : decide (x.uses.length + x.opens.length + x.shuts.length = 0) = false := decide_eq_false h7
    have HD7 : Hid (decide (x.uses.length + x.opens.length + x.shuts.length = 0) = false) := hd7
    clear hd7
    by_cases h8 : x.kind = 1
    · have h8' : (x.kind != 1) = false := by simp [h8]
      have h8'' : (x.kind == 1) = true := by simp [h8]
      have HK : Hid (x.kind = 1) := h8
      clear h8 h7 hk
      go_wp2_with fail
      refine (l1NamesOk_any a2 c2 x.stuffs 8 _ hin4.stuffs hf.stuffs).mono ?_
      rintro e w5 ⟨rfl, hb⟩
      have HB4 := HB3.trans (hb.mono HB3.size)
      clear y0 y1 y2 y3 y4 y5 hz
      obtain ⟨y0, y1, y2, y3, y4, y5, hz⟩ := box6 HB4
      clear hb HB3 hin4
      cases hq9 : namesB x.stuffs 8 with
      | false =>
        go_wp2
        go_ret
        exact ⟨ret_bool (by simp [wantB, hq9]), below_over HB4⟩
      | true =>
        go_wp2
        go_ret
        refine ⟨ret_bool ?_, below_over HB4⟩
        rw [wantB_last x hq1 hq2 hq3 hq4 hq5 hq6 HD7.out (by rw [h8'']; rfl) hq9, h8'', Bool.eq_iff_iff]
        simp
    · have h8' : (x.kind != 1) = true := by simp [h8]
      have h8'' : (x.kind == 1) = false := by simp [h8]
      have HK : Hid (¬ x.kind = 1) := h8
      clear h8 h7 hk
      by_cases h10 : 0 < x.opens.length
      · go_wp2
        go_ret
        exact ⟨ret_bool (by simp [wantB, HK.out, h10]), below_over HB3⟩
      · have h10' : x.opens.length = 0 := by omega
        have HO : Hid (x.opens.length = 0) := h10'
        clear h10'
        go_wp2_with fail
        refine (l1NamesOk_any a2 c2 x.stuffs 8 _ hin4.stuffs hf.stuffs).mono ?_
        rintro e w5 ⟨rfl, hb⟩
        have HB4 := HB3.trans (hb.mono HB3.size)
        clear y0 y1 y2 y3 y4 y5 hz
        obtain ⟨y0, y1, y2, y3, y4, y5, hz⟩ := box6 HB4
        clear hb HB3 hin4
        cases hq9 : namesB x.stuffs 8 with
        | false =>
          go_wp2
          go_ret
          exact ⟨ret_bool (by simp [wantB, hq9]), below_over HB4⟩
        | true =>
          go_wp2
          go_ret
          refine ⟨ret_bool ?_, below_over HB4⟩
          rw [wantB_last x hq1 hq2 hq3 hq4 hq5 hq6 HD7.out (by rw [HO.out]; simp) hq9, h8'', Bool.eq_iff_iff]
          simp

end Go.Proofs.YtfmhkicncgccjaaGreatDoor

/- What the program's ClaimWantOk answers: the same as the specification's. -/
namespace Go.Proofs.YtfmhkicncgccjaaGreatDoor
open Go.RowKit Go.Sort

/-- A want is ok, as the program asks. -/
def wantI (x : Want) : Bool :=
  inB x.number 1 1000000 && listsB x.kind x.stuffs.length x.opens.length && namesB x.stuffs 8 && usesB (roleB x.kind) x.uses && namesB x.opens 12 && namesB x.shuts 12 && !shareB x.opens x.shuts &&
    decide (0 < x.uses.length + x.opens.length + x.shuts.length)

theorem usesB_len {rb : Int → Bool} {us : List Use} (h : usesB rb us = true) : (us.length : Int) ≤ 8 := by
  unfold usesB at h
  simp only [Bool.and_eq_true] at h
  exact of_decide_eq_true h.1.1

theorem use_same (kind : Int) (hk : kind = 1 ∨ kind = 2 ∨ kind = 3) (u : Use) : (roleB kind u.role && amountB u) = (inB u.role 1 3 && amtS kind u) := by
  rw [Bool.eq_iff_iff]
  unfold roleB amountB amtS inB
  by_cases h3 : u.role = 3
  · rcases hk with rfl | rfl | rfl <;> simp [h3]
  · rcases hk with rfl | rfl | rfl <;> simp [h3]

theorem uses_same (kind : Int) (hk : kind = 1 ∨ kind = 2 ∨ kind = 3) (us : List Use) : usesB (roleB kind) us = usesS kind us := by
  unfold usesB usesS ascUB
  rw [Bool.and_assoc]
  congr 1
  rw [Bool.eq_iff_iff, Bool.and_eq_true, allTo_iff, allTo_iff, allTo_iff]
  unfold useAtB useAtS
  constructor
  · rintro ⟨h1, h2⟩ i hi
    have := h1 i hi
    rw [Bool.and_assoc, use_same kind hk] at this
    have h2' := h2 i hi
    simp only [Bool.and_eq_true] at this ⊢
    exact ⟨⟨⟨this.1, h2'⟩, this.2.1⟩, this.2.2⟩
  · intro h
    refine ⟨fun i hi => ?_, fun i hi => ?_⟩
    · have := h i hi
      rw [Bool.and_assoc, use_same kind hk]
      simp only [Bool.and_eq_true] at this ⊢
      exact ⟨this.1.1.1, this.1.2, this.2⟩
    · have := h i hi
      simp only [Bool.and_eq_true] at this
      exact this.1.1.2

theorem shuffle1' : ∀ b1 u o h sh z s l p : Bool, (b1 && l && s && u && o && h && !sh && !z) = (b1 && true && u && o && h && !sh && !z && !(!true && p) && s && (true == l)) := by decide
theorem shuffle2 : ∀ b1 u o h sh z s l p : Bool, (b1 && (!l && !p) && s && u && o && h && !sh && !z) = (b1 && true && u && o && h && !sh && !z && !(!false && p) && s && (false == l)) := by decide

theorem pos_not (n : Nat) : decide (0 < n) = !decide (n = 0) := by
  cases n <;> simp

theorem want_same (x : Want) : wantI x = wantB x := by
  unfold wantI wantB
  by_cases hk : x.kind = 1 ∨ x.kind = 2 ∨ x.kind = 3
  · rw [uses_same x.kind hk, pos_not (x.uses.length + x.opens.length + x.shuts.length)]
    have hin : inB x.kind 1 3 = true := by unfold inB; rcases hk with h | h | h <;> rw [h] <;> rfl
    rw [hin]
    by_cases h1 : x.kind = 1
    · have hl : listsB x.kind x.stuffs.length x.opens.length = decide (0 < x.stuffs.length) := by unfold listsB; rw [if_pos (by simp [h1])]
      have he : (x.kind == 1) = true := by simp [h1]
      rw [hl, he]
      exact shuffle1' _ _ _ _ _ _ _ _ _
    · have hl : listsB x.kind x.stuffs.length x.opens.length = (!decide (0 < x.stuffs.length) && !decide (0 < x.opens.length)) := by
        unfold listsB
        rw [if_neg (by simp [h1]), if_pos (by simp; omega), pos_not, pos_not, Bool.not_not, Bool.not_not]
      have he : (x.kind == 1) = false := by simp [h1]
      rw [hl, he]
      exact shuffle2 _ _ _ _ _ _ _ _ _
  · have hin : inB x.kind 1 3 = false := by unfold inB; simp; omega
    have hl : listsB x.kind x.stuffs.length x.opens.length = false := by
      unfold listsB
      rw [if_neg (by simp; omega), if_neg (by simp; omega)]
    rw [hin, hl]
    simp

theorem listsB_kind {k : Int} {n2 n4 : Nat} (h : listsB k n2 n4 = true) : k = 1 ∨ k = 2 ∨ k = 3 := by
  unfold listsB at h
  by_cases h1 : k = 1
  · exact Or.inl h1
  · rw [if_neg (by simp [h1])] at h
    by_cases h2 : k = 2 ∨ k = 3
    · exact Or.inr h2
    · rw [if_neg (by simp; omega)] at h; cases h

set_option maxHeartbeats 2000000 in
theorem implWantOk_any (x : Want) (a2 a3 a4 a5 : Option Addr) (c2 c3 c4 c5 : Nat) (w : World) (hin : WantIn w x a2 a3 a4 a5) (hf : WantFit x) :
    Calls Tryz.prog 124 #[wantW x a2 a3 a4 a5 c2 c3 c4 c5] w fun e w' => e = .returned (.bool (wantB x)) ∧ Below w.heap.size w w' := by
  rw [← want_same]
  unfold wantW
  have HB0 : Below (w.alloc (.cells #[.int .i64 x.number, .int .i64 x.kind, .slice a2 x.stuffs.length c2, .slice a3 x.uses.length c3, .slice a4 x.opens.length c4, .slice a5 x.shuts.length c5] 42)).heap.size (w.alloc (.cells #[.int .i64 x.number, .int .i64 x.kind, .slice a2 x.stuffs.length c2, .slice a3 x.uses.length c3, .slice a4 x.opens.length c4, .slice a5 x.shuts.length c5] 42)) (w.alloc (.cells #[.int .i64 x.number, .int .i64 x.kind, .slice a2 x.stuffs.length c2, .slice a3 x.uses.length c3, .slice a4 x.opens.length c4, .slice a5 x.shuts.length c5] 42)) := Below.refl _ _
  go_enter Tryz.func124, Tryz.ntmps124
  go_wp2_with fail
  refine (kinded_any x.number x.kind (.slice a2 x.stuffs.length c2) (.slice a3 x.uses.length c3) (.slice a4 x.opens.length c4) (.slice a5 x.shuts.length c5) _ rfl rfl rfl rfl).mono ?_
  rintro e w1 ⟨rfl, hb⟩
  have HB1 := HB0.trans (hb.mono HB0.size)
  obtain ⟨y0, y1, y2, y3, y4, y5, hz⟩ := box6 HB1
  clear hb HB0
  generalize hkv : kindV x.kind #[.int .i64 x.number, .int .i64 x.kind, .slice a2 x.stuffs.length c2, .slice a3 x.uses.length c3, .slice a4 x.opens.length c4, .slice a5 x.shuts.length c5] = kv
  have HKV : Hid (kindV x.kind #[.int .i64 x.number, .int .i64 x.kind, .slice a2 x.stuffs.length c2, .slice a3 x.uses.length c3, .slice a4 x.opens.length c4, .slice a5 x.shuts.length c5] = kv) := hkv
  clear hkv
  go_wp2_with fail
  refine (within_any _ _ _ _).mono ?_
  rintro e w' ⟨rfl, rfl⟩
  cases hq1 : inB x.number 1 1000000 with
  | false =>
    go_wp2
    go_ret
    exact ⟨ret_bool (by simp [wantI, hq1]), below_over HB1⟩
  | true =>
  go_wp2_with fail
  rw [← HKV.out]
  refine (lists_any x.kind x.number x.kind a2 a3 a4 a5 _ _ _ _ c2 c3 c4 c5 _).mono ?_
  rintro e w2 ⟨rfl, hb⟩
  rw [HKV.out]
  have HB2 := HB1.trans (hb.mono HB1.size)
  clear y0 y1 y2 y3 y4 y5 hz
  obtain ⟨y0, y1, y2, y3, y4, y5, hz⟩ := box6 HB2
  clear hb HB1
  have hin2 := hin.later (below_over HB2)
  cases hq2 : listsB x.kind x.stuffs.length x.opens.length with
  | false =>
    go_wp2
    go_ret
    exact ⟨ret_bool (by simp [wantI, hq2]), below_over HB2⟩
  | true =>
  have hk := listsB_kind hq2
  have HK : Hid (x.kind = 1 ∨ x.kind = 2 ∨ x.kind = 3) := hk
  clear hk
  go_wp2_with fail
  refine (namesOk_any a2 c2 x.stuffs 8 _ hin2.stuffs hf.stuffs).mono ?_
  rintro e w3 ⟨rfl, hb⟩
  have HB3 := HB2.trans (hb.mono HB2.size)
  clear y0 y1 y2 y3 y4 y5 hz
  obtain ⟨y0, y1, y2, y3, y4, y5, hz⟩ := box6 HB3
  clear hb HB2 hin2
  have hin3 := hin.later (below_over HB3)
  cases hq3 : namesB x.stuffs 8 with
  | false =>
    go_wp2
    go_ret
    exact ⟨ret_bool (by simp [wantI, hq3]), below_over HB3⟩
  | true =>
  go_wp2_with fail
  rw [← HKV.out]
  refine (usesOk_any x.kind HK.out _ a3 c3 x.uses _ hin3.uses hf.usesLen hf.usesNames).mono ?_
  rintro e w4 ⟨rfl, hb⟩
  have HB4 := HB3.trans (hb.mono HB3.size)
  clear y0 y1 y2 y3 y4 y5 hz
  obtain ⟨y0, y1, y2, y3, y4, y5, hz⟩ := box6 HB4
  clear hb HB3 hin3
  have hin4 := hin.later (below_over HB4)
  cases hq4 : usesB (roleB x.kind) x.uses with
  | false =>
    go_wp2
    go_ret
    exact ⟨ret_bool (by simp [wantI, hq4]), below_over HB4⟩
  | true =>
  have hl4 := usesB_len hq4
  go_wp2_with fail
  refine (namesOk_any a4 c4 x.opens 12 _ hin4.opens hf.opens).mono ?_
  rintro e w5 ⟨rfl, hb⟩
  have HB5 := HB4.trans (hb.mono HB4.size)
  clear y0 y1 y2 y3 y4 y5 hz
  obtain ⟨y0, y1, y2, y3, y4, y5, hz⟩ := box6 HB5
  clear hb HB4 hin4
  have hin5 := hin.later (below_over HB5)
  cases hq5 : namesB x.opens 12 with
  | false =>
    go_wp2
    go_ret
    exact ⟨ret_bool (by simp [wantI, hq5]), below_over HB5⟩
  | true =>
  have hl5 := namesB_len hq5
  go_wp2_with fail
  refine (namesOk_any a5 c5 x.shuts 12 _ hin5.shuts hf.shuts).mono ?_
  rintro e w6 ⟨rfl, hb⟩
  have HB6 := HB5.trans (hb.mono HB5.size)
  clear y0 y1 y2 y3 y4 y5 hz
  obtain ⟨y0, y1, y2, y3, y4, y5, hz⟩ := box6 HB6
  clear hb HB5 hin5
  have hin6 := hin.later (below_over HB6)
  cases hq6 : namesB x.shuts 12 with
  | false =>
    go_wp2
    go_ret
    exact ⟨ret_bool (by simp [wantI, hq6]), below_over HB6⟩
  | true =>
  have hl6 := namesB_len hq6
  go_wp2_with fail
  refine (shareAny_any a4 a5 c4 c5 x.opens x.shuts _ hin6.opens hin6.shuts hf.opens.1 hf.shuts.1).mono ?_
  rintro e w7 ⟨rfl, rfl⟩
  cases hq7 : shareB x.opens x.shuts with
  | true =>
    go_wp2
    go_ret
    exact ⟨ret_bool (by simp [wantI, hq7]), below_over HB6⟩
  | false =>
    go_wp2
    go_ret
    refine ⟨ret_bool ?_, below_over HB6⟩
    unfold wantI
    rw [hq1, hq2, hq3, hq4, hq5, hq6, hq7, Bool.eq_iff_iff]
    simp
    omega

end Go.Proofs.YtfmhkicncgccjaaGreatDoor
