/- What the specification's l2Clash, l2FoesOk and l2SpotOk answer. -/
import Derived.Test.YtfmhkicncgccjaaGreatBkS1
namespace Go.Proofs.YtfmhkicncgccjaaGreat
open Go.RowKit Go.Sort
set_option linter.unusedSimpArgs false
set_option linter.unusedVariables false

/-- The cells of a book. -/
def bookL (x : Book) (af ap av aq : Option Addr) (cf cp cv cq : Nat) : List Value :=
  [.slice af x.foes.length cf, .slice ap x.spots.length cp, .slice av x.valves.length cv, .slice aq x.parts.length cq, .int .i64 x.seen]

theorem bookRow {w wr : World} {x : Book} {af ap av aq : Option Addr} {cf cp cv cq : Nat} {t : TypeId}
    (h : Below (w.alloc (.cells (bookL x af ap av aq cf cp cv cq).toArray t)).heap.size (w.alloc (.cells (bookL x af ap av aq cf cp cv cq).toArray t)) wr) : Row wr w.heap.size t (bookL x af ap av aq cf cp cv cq) := (Row.new w t _).later h

set_option maxHeartbeats 1000000 in
theorem l2Clash_any (x : Book) (af ap av aq : Option Addr) (cf cp cv cq : Nat) (s : ByteArray) (a : Option Addr) (cap : Nat) (may : List ByteArray) (w : World) (hm : FoesAt w af x.foes) (hl : x.foes.length ≤ maxLen) (hs : StrsAt w a may) (hls : may.length ≤ maxLen) :
    Calls Tryz.prog 84 #[bookV x af ap av aq cf cp cv cq, .string s, .slice a may.length cap] w fun e w' => e = .returned (.bool (clashB x.foes s may)) ∧ Below w.heap.size w w' := by
  have hls' := hls
  unfold maxLen at hls'
  unfold bookV
  go_enter Tryz.func84, Tryz.ntmps84
  go_wp2
  go_loopw [7] (fun i wr => ∃ (k : Nat), k ≤ may.length ∧ i = .int .i64 k ∧ allTo k (fun i => !foesB x.foes s (gs may i)) = true ∧ Below (w.alloc (.cells (bookL x af ap av aq cf cp cv cq).toArray 28)).heap.size (w.alloc (.cells (bookL x af ap av aq cf cp cv cq).toArray 28)) wr) (fun i _ => may.length - (intOf i).toNat)
  case atStart => exact ⟨0, Nat.zero_le _, rfl, rfl, Below.refl _ _⟩
  case round wr =>
    obtain ⟨k, hk, rfl, hall, hbel⟩ := hrel
    have hbw := below_over hbel
    by_cases hlt : k < may.length
    · obtain ⟨b, o, ha, hb, hc⟩ := (hs.later hbw).at hlt
      subst ha
      have row := bookRow hbel
      have r0 := cell_regrown (row.cell 0 rfl)
      have r1 := cell_regrown (row.cell 1 rfl)
      have r2 := cell_regrown (row.cell 2 rfl)
      have r3 := cell_regrown (row.cell 3 rfl)
      have r4 := cell_regrown (row.cell 4 rfl)
      have rc := cell_regrown hc
      have hcall := fun d os => Calls.regrown_of (w := wr) (l2Foes_any x af ap av aq cf cp cv cq s (gs may k) (grow (redrawn wr d) os) (hm.later (hbw.trans ((below_regrown wr d os).mono hbw.size))) hl)
      unfold bookV at hcall
      have hlt2 : (k : Int) < may.length := by omega
      clear hc row
      go_wp2
      refine wp_region_quiet_below (by kernel_rfl) (by kernel_rfl) ?_
      repeat (quiet_step (exact hcall _ _))
      refine wpQuiet_nil ?_
      intro w1 hw'
      obtain ⟨⟨dq, osq⟩, hw''⟩ := hw'
      have hbel1 := hbel.trans ((hw'' ▸ below_regrown wr dq osq).mono hbel.size)
      clear hw'' hcall r0 r1 r2 r3 r4 rc
      cases hq : foesB x.foes s (gs may k) with
      | true =>
        go_wp2
        go_ret
        exact ⟨ret_bool (anyTo_true k hlt hq).symm, below_over hbel1⟩
      | false =>
        go_wp2
        go_roundw
        case rel => exact ⟨k + 1, by omega, by go_num, allTo_succ hall (by simp [hq]), hbel1⟩
        case measure => simp [intOf]; omega
    · go_wp2
      go_ret
      have : k = may.length := by omega
      subst this
      exact ⟨ret_bool (anyTo_none hall).symm, hbw⟩

end Go.Proofs.YtfmhkicncgccjaaGreat
