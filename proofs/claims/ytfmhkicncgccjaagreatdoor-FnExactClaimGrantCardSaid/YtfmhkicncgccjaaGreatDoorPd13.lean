/- Joined: CdQ. -/
import Derived.Test.YtfmhkicncgccjaaGreatDoorPd09
/- What the program's codeOf answers. -/
namespace Go.Proofs.YtfmhkicncgccjaaGreatDoor
open Go.RowKit
set_option linter.unusedSimpArgs false
set_option linter.unusedVariables false

set_option maxHeartbeats 4000000 in
theorem codeOf_nil (w : World) : Calls Tryz.prog 38 #[.nilIface] w fun e w' => e = .returned (.int .i64 0) ∧ Below w.heap.size w w' := by
  go_enter Tryz.func38, Tryz.ntmps38
  go_wp2_with fail
  refine (as_nil _ _).mono ?_
  rintro e w1 ⟨rfl, rfl⟩
  go_wp2
  go_ret
  exact ⟨rfl, (Below.refl _ _).alloc (Nat.le_refl _) _⟩

set_option maxHeartbeats 4000000 in
theorem codeOf_of (t : TypeId) (v : Value) (c : Int) (w : World) (hg : ErrType w)
    (hcall : ∀ (b : Nat) (old : Value) (p : Nat) (W : World), W.cell? ⟨p, 0, none⟩ = some (.pointer (some ⟨b, 0, none⟩)) → W.cell? ⟨b, 0, none⟩ = some old → W.frozen? ⟨b, 0, none⟩ = false →
      Calls Tryz.prog 104 #[.iface t v, .iface 113 (.pointer (some ⟨b, 0, none⟩)), targetV p, rtypeV 111] W fun e w' => e = .returned (.bool true) ∧ AsHit b c W w') :
    Calls Tryz.prog 38 #[.iface t v] w fun e w' => e = .returned (.int .i64 c) ∧ Below w.heap.size w w' := by
  have b0 : Below w.heap.size w (w.alloc (.cells #[.int .i64 0] 111)) := (Below.refl _ _).alloc (Nat.le_refl _) _
  have hA := as_of t v c w.heap.size (.int .i64 0) (w.alloc (.cells #[.int .i64 0] 111)) (hg.later b0) (by rw [World.cell?_alloc_new]; rfl) ((Row.new w 111 [.int .i64 0]).frozen 0) (hcall w.heap.size (.int .i64 0))
  clear hcall
  go_enter Tryz.func38, Tryz.ntmps38
  go_wp2_with fail
  refine hA.mono ?_
  rintro e w1 ⟨rfl, hc, hb⟩
  go_wp2
  go_ret
  exact ⟨rfl, b0.trans hb⟩

theorem codeOf_1 (c : Int) (s : ByteArray) (w : World) (hg : ErrType w) : Calls Tryz.prog 38 #[aboutV s (reasonV c)] w fun e w' => e = .returned (.int .i64 c) ∧ Below w.heap.size w w' :=
  codeOf_of 149 (.agg #[.string s, reasonV c]) c w hg fun b old p W h1 h2 h3 => as2_any c s b p old W h1 h2 h3
theorem codeOf_2 (c : Int) (r s : ByteArray) (w : World) (hg : ErrType w) : Calls Tryz.prog 38 #[aboutV r (aboutV s (reasonV c))] w fun e w' => e = .returned (.int .i64 c) ∧ Below w.heap.size w w' :=
  codeOf_of 149 (.agg #[.string r, aboutV s (reasonV c)]) c w hg fun b old p W h1 h2 h3 => as3_any c r s b p old W h1 h2 h3

end Go.Proofs.YtfmhkicncgccjaaGreatDoor
