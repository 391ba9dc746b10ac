/- Joined: CdS1. -/
import Derived.Test.YtfmhkicncgccjaaGreatFm20
/- What the specification's l2Part, l1Alike, l1Same, l2Clashes and l3Union answer. -/
namespace Go.Proofs.YtfmhkicncgccjaaGreat
open Go.RowKit Go.Sort
set_option linter.unusedSimpArgs false
set_option linter.unusedVariables false

theorem ret_int {a b : Int} (h : a = b) : Ending.returned (.int .i64 a) = .returned (.int .i64 b) := by rw [h]

set_option maxHeartbeats 1000000 in
theorem l2Part_any (x : Book) (af ap av aq : Option Addr) (cf cp cv cq : Nat) (s : Int) (w : World) (hm : PartsAt w aq x.parts) (hl : x.parts.length ≤ maxLen) :
 Calls Tryz.prog 36 #[bookV x af ap av aq cf cp cv cq, .int .i64 s] w fun e w' => e = .returned (.int .i64 (partI x.parts s)) ∧ Below w.heap.size w w' := by
 unfold maxLen at hl
 unfold bookV
 go_enter Tryz.func36, Tryz.ntmps36
 go_wp2
 go_loop [5] (fun i => ∃ (k : Nat), k ≤ x.parts.length ∧ i = .int .i64 k ∧ allTo k (fun i => !((gq x.parts i).want.number == s)) = true) (fun i => x.parts.length - (intOf i).toNat)
 case atStart => exact ⟨0, Nat.zero_le _, rfl, rfl⟩
 case round =>
  obtain ⟨k, hk, rfl, hall⟩ := hrel
  by_cases hlt : k < x.parts.length
  · obtain ⟨b, o, a2, a3, a4, a5, c2, c3, c4, c5, ha, hb, hc0, -⟩ := hm.at hlt
    subst ha
    have hne : b ≠ w.heap.size := by omega
    cases hq : ((gq x.parts k).want.number == s) with
    | true =>
     have hq' : ((gq x.parts k).want.number == s) = true := hq
     go_wp2
     go_ret
     exact ⟨ret_int (partI_hit hlt hall hq).symm, (Below.refl _ _).alloc (Nat.le_refl _) _⟩
    | false =>
     have hq' : ((gq x.parts k).want.number == s) = false := hq
     go_wp2
     go_round
     case rel => exact ⟨k + 1, by omega, by go_num, allTo_succ hall (by simp [hq])⟩
     case measure => simp [intOf]; omega
  · go_wp2
    go_ret
    have : k = x.parts.length := by omega
    subst this
    exact ⟨ret_int (partI_none hall).symm, (Below.refl _ _).alloc (Nat.le_refl _) _⟩

set_option maxHeartbeats 400000 in
theorem l1Alike_any (a b : Option Addr) (ca cb : Nat) (xs ys : List ByteArray) (w : World) (hx : StrsAt w a xs) (hy : StrsAt w b ys) (lx : xs.length ≤ maxLen) :
 Calls Tryz.prog 175 #[.slice a xs.length ca, .slice b ys.length cb] w fun e w' => e = .returned (.bool (eqSS xs ys)) ∧ Below w.heap.size w w' := by
 unfold maxLen at lx
 by_cases hlen : xs.length = ys.length
 · have hl1 : ((xs.length : Int) != (ys.length : Int)) = false := by simp [hlen]
   go_enter Tryz.func175, Tryz.ntmps175
   go_wp2
   go_loopw [5] (fun i wr => ∃ (k : Nat), k ≤ xs.length ∧ i = .int .i64 k ∧ allTo k (fun i => eqS (gs xs i) (gs ys i)) = true ∧ Below w.heap.size w wr) (fun i _ => xs.length - (intOf i).toNat)
   case atStart => exact ⟨0, Nat.zero_le _, rfl, rfl, Below.refl _ _⟩
   case round =>
    obtain ⟨k, hk, rfl, hall, hbel⟩ := hrel
    clear hl1
    by_cases hlt : k < xs.length
    · obtain ⟨b1, o1, ha1, hb1, hc1⟩ := (hx.later hbel).at hlt
      obtain ⟨b2, o2, ha2, hb2, hc2⟩ := (hy.later hbel).at (k := k) (by omega)
      subst ha1 ha2
      have hlt2 : (k : Int) < ys.length := by omega
      have HL : Hid (xs.length = ys.length) := hlen
      clear hlen
      cases hq : eqS (gs xs k) (gs ys k) with
      | true =>
       have hq' : ((gs xs k).toList == (gs ys k).toList) = true := hq
       go_wp2
       go_quiet (fail)
       go_wp2
       go_roundw
       case rel => exact ⟨k + 1, by omega, by go_num, allTo_succ hall hq, below_drewN hbel _⟩
       case measure => simp [intOf]; omega
      | false =>
       have hq' : ((gs xs k).toList == (gs ys k).toList) = false := hq
       go_wp2
       go_quiet (fail)
       go_wp2
       go_ret
       exact ⟨ret_bool (by unfold eqSS; rw [allTo_false k hlt hq, Bool.and_false]), below_drewN hbel _⟩
    · go_wp2
      go_ret
      have : k = xs.length := by omega
      subst this
      exact ⟨ret_bool (by unfold eqSS; rw [hall]; simp [hlen]), hbel⟩
 · have hl1 : ((xs.length : Int) != (ys.length : Int)) = true := by simp; omega
   go_enter Tryz.func175, Tryz.ntmps175
   go_wp2
   go_ret
   exact ⟨ret_bool (by unfold eqSS; simp [hlen]), Below.refl _ _⟩

set_option maxHeartbeats 1000000 in
theorem l2Clashes_any (x : Book) (af ap av aq : Option Addr) (cf cp cv cq : Nat) (a b : Option Addr) (ca cb : Nat) (xs ys : List ByteArray) (w : World) (hm : FoesAt w af x.foes) (hl : x.foes.length ≤ maxLen) (hx : StrsAt w a xs) (hy : StrsAt w b ys) (lx : xs.length ≤ maxLen) (ly : ys.length ≤ maxLen) :
 Calls Tryz.prog 176 #[bookV x af ap av aq cf cp cv cq, .slice a xs.length ca, .slice b ys.length cb] w fun e w' => e = .returned (.bool (clashesB x.foes xs ys)) ∧ Below w.heap.size w w' := by
 have lx' := lx
 unfold maxLen at lx'
 unfold bookV
 go_enter Tryz.func176, Tryz.ntmps176
 go_wp2
 go_loopw [7] (fun i wr => ∃ (k : Nat), k ≤ xs.length ∧ i = .int .i64 k ∧ allTo k (fun i => !clashB x.foes (gs xs i) ys) = true ∧ Below (w.alloc (.cells (bookL x af ap av aq cf cp cv cq).toArray 28)).heap.size (w.alloc (.cells (bookL x af ap av aq cf cp cv cq).toArray 28)) wr) (fun i _ => xs.length - (intOf i).toNat)
 case atStart => exact ⟨0, Nat.zero_le _, rfl, rfl, Below.refl _ _⟩
 case round wr =>
  obtain ⟨k, hk, rfl, hall, hbel⟩ := hrel
  have hbw := below_over hbel
  by_cases hlt : k < xs.length
  · obtain ⟨b1, o, ha, hb, hc⟩ := (hx.later hbw).at hlt
    subst ha
    have row := bookRow hbel
    have r0 := cell_regrown (row.cell 0 rfl)
    have r1 := cell_regrown (row.cell 1 rfl)
    have r2 := cell_regrown (row.cell 2 rfl)
    have r3 := cell_regrown (row.cell 3 rfl)
    have r4 := cell_regrown (row.cell 4 rfl)
    have rc := cell_regrown hc
    have hcall := fun d os => Calls.regrown_of (w := wr) (l2Clash_any x af ap av aq cf cp cv cq (gs xs k) b cb ys (grow (redrawn wr d) os) (hm.later (hbw.trans ((below_regrown wr d os).mono hbw.size))) hl (hy.later (hbw.trans ((below_regrown wr d os).mono hbw.size))) ly)
    unfold bookV at hcall
    have hlt2 : (k : Int) < xs.length := by omega
    clear hc row
    go_wp2
    refine wp_region_quiet_below (by kernel_rfl) (by kernel_rfl) ?_
    repeat (quiet_step (exact hcall _ _))
    refine wpQuiet_nil ?_
    intro w1 hw'
    obtain ⟨⟨dq, osq⟩, hw''⟩ := hw'
    have hbel1 := hbel.trans ((hw'' ▸ below_regrown wr dq osq).mono hbel.size)
    clear hw'' hcall r0 r1 r2 r3 r4 rc
    cases hq : clashB x.foes (gs xs k) ys with
    | true =>
     go_wp2
     go_ret
     exact ⟨ret_bool (anyTo_true k hlt hq).symm, below_over hbel1⟩
    | false =>
     go_wp2
     go_roundw
     case rel => exact ⟨k + 1, by omega, by go_num, allTo_succ hall (by simp [hq]), hbel1⟩
     case measure => simp [intOf]; omega
  · go_wp2
    go_ret
    have : k = xs.length := by omega
    subst this
    exact ⟨ret_bool (anyTo_none hall).symm, hbw⟩

set_option maxHeartbeats 1000000 in
theorem l3Union_any (a b : Option Addr) (ca cb : Nat) (xs ys : List ByteArray) (w : World) (hx : StrsAt w a xs) (hy : StrsAt w b ys) (lx : xs.length ≤ 1000000) (ly : ys.length ≤ 1000000) :
 Calls Tryz.prog 177 #[.slice a xs.length ca, .slice b ys.length cb] w fun e w' => e = .returned (.int .i64 (unionN xs ys)) ∧ Below w.heap.size w w' := by
 have lm : xs.length ≤ maxLen := by unfold maxLen; omega
 go_enter Tryz.func177, Tryz.ntmps177
 go_wp2
 go_loopw [5, 6] (fun n i wr => ∃ (k c : Nat), k ≤ ys.length ∧ n = .int .i64 c ∧ i = .int .i64 k ∧ c = xs.length + countTo k (fun i => !hasB xs (gs ys i)) ∧ Below w.heap.size w wr) (fun _ i _ => ys.length - (intOf i).toNat)
 case atStart => exact ⟨0, xs.length, Nat.zero_le _, rfl, rfl, rfl, Below.refl _ _⟩
 case round wr =>
  obtain ⟨k, c, hk, rfl, rfl, hcnt, hbw⟩ := hrel
  have HC : Hid (c = xs.length + countTo k (fun i => !hasB xs (gs ys i))) := hcnt
  have hcb : c ≤ 2000000 := by have := countTo_le (fun i => !hasB xs (gs ys i)) k; omega
  clear hcnt
  by_cases hlt : k < ys.length
  · obtain ⟨b1, o, ha, hb, hc⟩ := (hy.later hbw).at hlt
    subst ha
    have hlt2 : (k : Int) < ys.length := by omega
    go_wp2_with fail
    refine (l1Has_any a ca xs (gs ys k) _ (hx.later hbw) lm).mono ?_
    rintro e w1 ⟨rfl, rfl⟩
    have hbel1 := hbw
    cases hq : hasB xs (gs ys k) with
    | true =>
     go_wp2
     go_roundw
     case rel => exact ⟨k + 1, c, by omega, rfl, by go_num, by have := HC.out; simp [countTo, hq]; exact this, hbel1⟩
     case measure => simp [intOf]; omega
    | false =>
     go_wp2
     go_roundw
     case rel => exact ⟨k + 1, c + 1, by omega, by go_num, by go_num, by have := HC.out; simp [countTo, hq]; omega, hbel1⟩
     case measure => simp [intOf]; omega
  · go_wp2
    go_ret
    have : k = ys.length := by omega
    subst this
    exact ⟨ret_int (by rw [HC.out]; rfl), hbw⟩

end Go.Proofs.YtfmhkicncgccjaaGreat

