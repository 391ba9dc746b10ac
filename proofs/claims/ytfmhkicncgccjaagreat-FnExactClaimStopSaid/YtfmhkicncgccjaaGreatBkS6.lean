/- What the specification's l2UseOk answers. -/
import Derived.Test.YtfmhkicncgccjaaGreatBkS5
namespace Go.Proofs.YtfmhkicncgccjaaGreat
open Go.RowKit Go.Sort
set_option linter.unusedSimpArgs false
set_option linter.unusedVariables false

/-- What was granted of a place is in its spot. -/
def useOkB (s : Spot) (y : Want) (u : Use) : Bool :=
  !(y.kind == 2 && decide (0 < s.most) || (y.kind == 1 && !(u.role == 2)) && !allB s.may y.stuffs || (y.kind == 1 && !(u.role == 1)) && !allB y.stuffs s.may) && decide (s.least + u.amount ≤ s.most)

set_option maxRecDepth 100000 in
set_option maxHeartbeats 2000000 in
theorem l2UseOk_any (s : Spot) (m : Option Addr) (c : Nat) (y : Want) (a2 a3 a4 a5 : Option Addr) (c2 c3 c4 c5 : Nat) (u : Use) (w : World) (hs : StrsAt w m s.may) (hy : StrsAt w a2 y.stuffs) (ls : s.may.length ≤ maxLen) (ly : y.stuffs.length ≤ maxLen)
    (g1 : 0 ≤ s.least) (g2 : s.least ≤ 1000) (g3 : 0 ≤ u.amount) (g4 : u.amount ≤ 1000) :
    Calls Tryz.prog 129 #[spotV s m c, wantW y a2 a3 a4 a5 c2 c3 c4 c5, useV u] w fun e w' => e = .returned (.bool (useOkB s y u)) ∧ Below w.heap.size w w' := by
  unfold spotV wantW useV
  have b0 : Below w.heap.size w (((w.alloc (.cells #[.string s.name, .int .i64 s.cap, .int .i64 s.least, .int .i64 s.most, .slice m s.may.length c] 72)).alloc (.cells #[.int .i64 y.number, .int .i64 y.kind, .slice a2 y.stuffs.length c2, .slice a3 y.uses.length c3, .slice a4 y.opens.length c4, .slice a5 y.shuts.length c5] 38)).alloc (.cells #[.string u.name, .int .i64 u.role, .int .i64 u.amount] 101)) :=
    (((Below.refl _ _).alloc (Nat.le_refl _) _).alloc (by simp) _).alloc (by simp; omega) _
  have hs0 := hs.later b0
  have hy0 := hy.later b0
  by_cases k2 : y.kind = 2
  · have e2 : (y.kind == 2) = true := by simp [k2]
    have e1 : (y.kind == 1) = false := by simp [k2]
    have HK : Hid (y.kind = 2) := k2
    clear k2
    by_cases hm0 : 0 < s.most
    · go_enter Tryz.func129, Tryz.ntmps129
      go_wp2
      go_ret
      exact ⟨ret_bool (by simp [useOkB, HK.out, hm0]), b0⟩
    · go_enter Tryz.func129, Tryz.ntmps129
      go_wp2
      go_ret
      exact ⟨ret_bool (by simp [useOkB, HK.out, hm0]), b0⟩
  have e2 : (y.kind == 2) = false := by simp [k2]
  have HK2 : Hid (¬ y.kind = 2) := k2
  clear k2
  by_cases k1 : y.kind = 1
  case neg =>
    have e1 : (y.kind == 1) = false := by simp [k1]
    go_enter Tryz.func129, Tryz.ntmps129
    go_wp2
    go_ret
    exact ⟨ret_bool (by simp [useOkB, k1, HK2.out]), b0⟩
  have e1 : (y.kind == 1) = true := by simp [k1]
  have HK1 : Hid (y.kind = 1) := k1
  clear k1
  by_cases r2 : u.role = 2
  · have f2 : (u.role != 2) = false := by simp [r2]
    have f1 : (u.role != 1) = true := by simp [r2]
    have HR : Hid (u.role = 2) := r2
    clear r2
    go_enter Tryz.func129, Tryz.ntmps129
    go_wp2_with fail
    refine (l1All_any a2 m c2 c y.stuffs s.may _ hy0 hs0 ly ls).mono ?_
    rintro e w1 ⟨rfl, rfl⟩
    cases hq : allB y.stuffs s.may with
    | false =>
      go_wp2
      go_ret
      exact ⟨ret_bool (by simp [useOkB, HK1.out, HR.out, hq]), b0⟩
    | true =>
      go_wp2
      go_ret
      exact ⟨ret_bool (by simp [useOkB, HK1.out, HR.out, hq]), b0⟩
  have f2 : (u.role != 2) = true := by simp [r2]
  have HR2 : Hid (¬ u.role = 2) := r2
  clear r2
  by_cases r1 : u.role = 1
  · have f1 : (u.role != 1) = false := by simp [r1]
    have HR : Hid (u.role = 1) := r1
    clear r1
    go_enter Tryz.func129, Tryz.ntmps129
    go_wp2_with fail
    refine (l1All_any m a2 c c2 s.may y.stuffs _ hs0 hy0 ls ly).mono ?_
    rintro e w1 ⟨rfl, rfl⟩
    cases hq : allB s.may y.stuffs with
    | false =>
      go_wp2
      go_ret
      exact ⟨ret_bool (by simp [useOkB, HK1.out, HR.out, hq]), b0⟩
    | true =>
      go_wp2
      go_ret
      exact ⟨ret_bool (by simp [useOkB, HK1.out, HR.out, hq]), b0⟩
  have f1 : (u.role != 1) = true := by simp [r1]
  have HR1 : Hid (¬ u.role = 1) := r1
  clear r1
  go_enter Tryz.func129, Tryz.ntmps129
  go_wp2_with fail
  refine (l1All_any m a2 c c2 s.may y.stuffs _ hs0 hy0 ls ly).mono ?_
  rintro e w1 ⟨rfl, rfl⟩
  cases hq : allB s.may y.stuffs with
  | false =>
    go_wp2
    go_ret
    exact ⟨ret_bool (by simp [useOkB, HK1.out, HR2.out, hq]), b0⟩
  | true =>
  go_wp2_with fail
  refine (l1All_any a2 m c2 c y.stuffs s.may _ hy0 hs0 ly ls).mono ?_
  rintro e w1 ⟨rfl, rfl⟩
  cases hq2 : allB y.stuffs s.may with
  | false =>
    go_wp2
    go_ret
    exact ⟨ret_bool (by simp [useOkB, HK1.out, HR1.out, hq2]), b0⟩
  | true =>
    go_wp2
    go_ret
    exact ⟨ret_bool (by simp [useOkB, HK1.out, hq, hq2]), b0⟩

end Go.Proofs.YtfmhkicncgccjaaGreat
