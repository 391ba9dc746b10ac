/- What the small functions on one use answer. -/
import Derived.Test.YtfmhkicncgccjaaGreatLeaf
import Derived.Lib.QuietBelow
namespace Go.Proofs.YtfmhkicncgccjaaGreat
open Go.RowKit

/-- A use, as a value. -/
def useV (u : Use) : Value := .agg #[.string u.name, .int .i64 u.role, .int .i64 u.amount]

def eqU (u v : Use) : Bool := eqS u.name v.name && u.role == v.role && u.amount == v.amount
def amountB (u : Use) : Bool := if u.role == 3 then u.amount == 0 else inB u.amount 1 1000

set_option maxHeartbeats 400000 in
theorem szClaimUse_any (u : Use) (left : Int) (w : World) (hs : u.name.size ≤ maxLen) (h0 : -1 ≤ left) (h1 : left ≤ 1048576) :
    Calls Tryz.prog 168 #[useV u, .int .i64 left] w fun e w' => (∃ r : Int, e = .returned (.int .i64 r) ∧ -1 ≤ r ∧ r ≤ left) ∧ Below w.heap.size w w' := by
  unfold maxLen at hs
  unfold useV
  go_enter Tryz.func168, Tryz.ntmps168
  go_wp2
  all_goals go_ret
  all_goals exact ⟨⟨_, rfl, by omega, by omega⟩, (Below.refl _ _).alloc (Nat.le_refl _) _⟩

set_option maxHeartbeats 400000 in
theorem toClaimUse_any (u : Use) (w : World) :
    Calls Tryz.prog 169 #[useV u] w fun e w' => e = .returned (useV u) ∧ Below w.heap.size w w' := by
  unfold useV
  go_enter Tryz.func169, Tryz.ntmps169
  go_wp2
  exact bodyPost_ret (v := .agg #[.string u.name, .int .i64 u.role, .int .i64 u.amount]) (by simp [results, Tryz.results169, go_sem]) rfl ⟨rfl, (((Below.refl _ _).alloc (Nat.le_refl _) _).alloc (by simp) _).alloc (by simp; omega) _⟩

set_option maxHeartbeats 400000 in
theorem eqClaimUse_any (u v : Use) (w : World) :
    Calls Tryz.prog 171 #[useV u, useV v] w fun e w' => e = .returned (.bool (eqU u v)) ∧ Below w.heap.size w w' := by
  unfold useV
  go_enter Tryz.func171, Tryz.ntmps171
  go_wp2
  all_goals go_ret
  all_goals refine ⟨ret_bool ?_, ((Below.refl _ _).alloc (Nat.le_refl _) _).alloc (by simp) _⟩
  all_goals (unfold eqU eqS; simp_all)

set_option maxHeartbeats 400000 in
theorem usesOk1_any (u v : Use) (w : World) :
    Calls Tryz.prog 160 #[useV u, useV v] w fun e w' => e = .returned (.bool (ltS u.name v.name)) ∧ Below w.heap.size w w' := by
  unfold useV
  go_enter Tryz.func160, Tryz.ntmps160
  go_wp2
  go_ret
  exact ⟨rfl, ((Below.refl _ _).alloc (Nat.le_refl _) _).alloc (by simp) _⟩

set_option maxHeartbeats 400000 in
theorem amountOk_any (u : Use) (w : World) :
    Calls Tryz.prog 158 #[useV u] w fun e w' => e = .returned (.bool (amountB u)) ∧ Below w.heap.size w w' := by
  unfold useV
  go_enter Tryz.func158, Tryz.ntmps158
  go_wp2_with (go_at_call 100; refine (within_any _ _ _ _).mono ?_; rintro e w' ⟨rfl, rfl⟩)
  all_goals go_ret
  all_goals refine ⟨ret_bool ?_, (Below.refl _ _).alloc (Nat.le_refl _) _⟩
  all_goals (unfold amountB; simp_all)


/-- Which kind a want is of, by the wrapper's type; none is nil. -/
def roleB (kind role : Int) : Bool := if kind == 1 then inB role 1 3 else role == 3

theorem takes_move (c : Array Value) (role : Int) (w : World) :
    Calls Tryz.prog 194 #[.agg c, .int .i64 role] w fun e w' => e = .returned (.bool (inB role 1 3)) ∧ Below w.heap.size w w' := by
  go_enter Tryz.func194, Tryz.ntmps194
  go_wp2_with (go_at_call 100; refine (within_any _ _ _ _).mono ?_; rintro e w' ⟨rfl, rfl⟩)
  go_ret
  exact ⟨rfl, (Below.refl _ _).alloc (Nat.le_refl _) _⟩

theorem takes_clean (c : Array Value) (role : Int) (w : World) :
    Calls Tryz.prog 193 #[.agg c, .int .i64 role] w fun e w' => e = .returned (.bool (role == 3)) ∧ Below w.heap.size w w' := by
  go_enter Tryz.func193, Tryz.ntmps193
  go_wp2
  go_ret
  exact ⟨rfl, (Below.refl _ _).alloc (Nat.le_refl _) _⟩

theorem takes_permit (c : Array Value) (role : Int) (w : World) :
    Calls Tryz.prog 195 #[.agg c, .int .i64 role] w fun e w' => e = .returned (.bool (role == 3)) ∧ Below w.heap.size w w' := by
  go_enter Tryz.func195, Tryz.ntmps195
  go_wp2
  go_ret
  exact ⟨rfl, (Below.refl _ _).alloc (Nat.le_refl _) _⟩

end Go.Proofs.YtfmhkicncgccjaaGreat
