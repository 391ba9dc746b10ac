/- What the functions answer that hold neighbours against each other. -/
import Derived.Test.YtfmhkicncgccjaaGreatNames
namespace Go.Proofs.YtfmhkicncgccjaaGreat
open Go.RowKit Go.Sort

def ascB (ss : List ByteArray) : Bool := allTo ss.length (fun k => k == 0 || ltS (gs ss (k - 1)) (gs ss k))
def ascUB (us : List Use) : Bool := allTo us.length (fun k => k == 0 || ltS (gu us (k - 1)).name (gu us k).name)

set_option maxHeartbeats 400000 in
theorem ascending_any (a : Option Addr) (cap : Nat) (ss : List ByteArray) (w : World) (hm : StrsAt w a ss) (hl : ss.length ≤ maxLen) :
    Calls Tryz.prog 136 #[.slice a ss.length cap, .func (.func 137) #[] #[]] w fun e w' => e = .returned (.bool (ascB ss)) ∧ Below w.heap.size w w' := by
  unfold maxLen at hl
  go_enter Tryz.func136, Tryz.ntmps136
  go_wp2
  go_loopw [5] (fun i wr => ∃ (k : Nat), (k ≤ ss.length ∨ k = 1) ∧ 1 ≤ k ∧ i = .int .i64 k ∧ allTo k (fun k => k == 0 || ltS (gs ss (k - 1)) (gs ss k)) = true ∧ Below w.heap.size w wr) (fun i _ => ss.length - (intOf i).toNat)
  case atStart => exact ⟨1, Or.inr rfl, Nat.le_refl _, rfl, rfl, Below.refl _ _⟩
  case round wr =>
    obtain ⟨k, hk, hk1, rfl, hall, hbel⟩ := hrel
    by_cases hlt : k < ss.length
    · obtain ⟨j, rfl⟩ : ∃ j, k = j + 1 := ⟨k - 1, by omega⟩
      obtain ⟨b, o, ha, hb, hc⟩ := (hm.later hbel).at hlt
      obtain ⟨b', o', ha', hb', hc'⟩ := (hm.later hbel).at (k := j) (by omega)
      subst ha
      simp only [Option.some.injEq, Addr.mk.injEq, and_true] at ha'
      obtain ⟨rfl, rfl⟩ := ha'
      have hcall := fun n => quietSame (w := wr) (n := n) (namesOk1_any (gs ss j) (gs ss (j + 1)) _)
      cases hq : ltS (gs ss j) (gs ss (j + 1)) with
      | true =>
        rw [hq] at hcall
        go_wp2
        go_quiet (exact hcall _)
        go_wp2
        go_roundw
        case rel => exact ⟨j + 1 + 1, by omega, by omega, by go_num, allTo_succ hall (by simp [hq]), below_drewN hbel _⟩
        case measure => simp [intOf]; omega
      | false =>
        rw [hq] at hcall
        go_wp2
        go_quiet (exact hcall _)
        go_wp2
        go_ret
        exact ⟨ret_bool (allTo_false (j + 1) hlt (by simp [hq])).symm, below_drewN hbel _⟩
    · go_wp2
      go_ret
      refine ⟨ret_bool ?_, hbel⟩
      refine (allTo_iff.2 fun i hi => ?_).symm
      exact allTo_iff.1 hall i (by omega)

set_option maxHeartbeats 400000 in
theorem ascendingU_any (a : Option Addr) (cap : Nat) (us : List Use) (w : World) (hm : UsesAt w a us) (hl : us.length ≤ maxLen) :
    Calls Tryz.prog 159 #[.slice a us.length cap, .func (.func 160) #[] #[]] w fun e w' => e = .returned (.bool (ascUB us)) ∧ Below w.heap.size w w' := by
  unfold maxLen at hl
  go_enter Tryz.func159, Tryz.ntmps159
  go_wp2
  go_loopw [5] (fun i wr => ∃ (k : Nat), (k ≤ us.length ∨ k = 1) ∧ 1 ≤ k ∧ i = .int .i64 k ∧ allTo k (fun k => k == 0 || ltS (gu us (k - 1)).name (gu us k).name) = true ∧ Below w.heap.size w wr) (fun i _ => us.length - (intOf i).toNat)
  case atStart => exact ⟨1, Or.inr rfl, Nat.le_refl _, rfl, rfl, Below.refl _ _⟩
  case round wr =>
    obtain ⟨k, hk, hk1, rfl, hall, hbel⟩ := hrel
    by_cases hlt : k < us.length
    · obtain ⟨j, rfl⟩ : ∃ j, k = j + 1 := ⟨k - 1, by omega⟩
      obtain ⟨b, o, ha, hb, hc10, hc11, hc12⟩ := (hm.later hbel).at hlt
      obtain ⟨b', o', ha', hb', hc20, hc21, hc22⟩ := (hm.later hbel).at (k := j) (by omega)
      subst ha
      simp only [Option.some.injEq, Addr.mk.injEq, and_true] at ha'
      obtain ⟨rfl, rfl⟩ := ha'
      have r10 := cell_regrown hc10
      have r11 := cell_regrown hc11
      have r12 := cell_regrown hc12
      have r20 := cell_regrown hc20
      have r21 := cell_regrown hc21
      have r22 := cell_regrown hc22
      have hcall := fun d os => Calls.regrown_of (w := wr) (usesOk1_any (gu us j) (gu us (j + 1)) (grow (redrawn wr d) os))
      unfold useV at hcall
      have hwrap : IntKind.i64.wrap (j : Int) = j := by rw [IntKind.wrap_i64]; omega
      have hj1 : (j : Int) < us.length := by omega
      have hj2 : (j : Int) + 1 < us.length := by omega
      have hj3 : (0 : Int) ≤ (j : Int) + 1 := by omega
      have hj4 : ((j : Int) + 1).toNat = j + 1 := by omega
      go_wp2
      refine wp_region_quiet_below (by kernel_rfl) (by kernel_rfl) ?_
      repeat (quiet_step (exact hcall _ _))
      refine wpQuiet_nil ?_
      intro w1 hw'
      obtain ⟨⟨dq, osq⟩, hw''⟩ := hw'
      have hbel1 : Below w.heap.size w w1 := hbel.trans ((hw'' ▸ below_regrown wr dq osq).mono hbel.size)
      clear hw'' hcall r10 r11 r12 r20 r21 r22
      cases hq : ltS (gu us j).name (gu us (j + 1)).name with
      | true =>
        go_wp2
        go_roundw
        case rel => exact ⟨j + 1 + 1, by omega, by omega, by go_num, allTo_succ hall (by simp [hq]), hbel1⟩
        case measure => simp [intOf]; omega
      | false =>
        go_wp2
        go_ret
        exact ⟨ret_bool (allTo_false (j + 1) hlt (by simp [hq])).symm, hbel1⟩
    · go_wp2
      go_ret
      refine ⟨ret_bool ?_, hbel⟩
      refine (allTo_iff.2 fun i hi => ?_).symm
      exact allTo_iff.1 hall i (by omega)

end Go.Proofs.YtfmhkicncgccjaaGreat
