/- What the functions on lists of texts answer. -/
import Derived.Test.YtfmhkicncgccjaaGreatUses
namespace Go.Proofs.YtfmhkicncgccjaaGreat
open Go.RowKit

set_option maxHeartbeats 400000 in
theorem szStringS_any (a : Option Addr) (cap : Nat) (ss : List ByteArray) (left : Int) (w : World) (hm : StrsAt w a ss) (hf : Fit ss) (h0 : -1 ≤ left) (h1 : left ≤ 1048576) :
    Calls Tryz.prog 41 #[.slice a ss.length cap, .int .i64 left] w fun e w' => (∃ r : Int, e = .returned (.int .i64 r) ∧ -1 ≤ r ∧ r ≤ left ∧ (0 ≤ r → ss.length ≤ 1048576)) ∧ w = w' := by
  obtain ⟨hl, hs⟩ := hf
  unfold maxLen at hl hs
  by_cases hneg : left - ss.length < 0
  · go_enter Tryz.func41, Tryz.ntmps41
    go_wp2
    go_ret
    exact ⟨⟨-1, rfl, by omega, by omega, by omega⟩, rfl⟩
  · go_enter Tryz.func41, Tryz.ntmps41
    go_wp2
    go_loop [1, 5] (fun t i => ∃ (k : Nat) (l : Int), k ≤ ss.length ∧ i = .int .i64 k ∧ t = .int .i64 l ∧ 0 ≤ l ∧ l ≤ left) (fun _ i => ss.length - (intOf i).toNat)
    case atStart => exact ⟨0, _, Nat.zero_le _, rfl, rfl, by omega, by omega⟩
    case round =>
      obtain ⟨k, l, hk, rfl, rfl, hl0, hl1⟩ := hrel
      by_cases hlt : k < ss.length
      · obtain ⟨b, o, ha, hb, hc⟩ := hm.at hlt
        have hsz : (gs ss k).size ≤ 2 ^ 63 - 1 := hs _ (gs_mem hlt)
        clear hs
        generalize gs ss k = s at hc hsz
        subst ha
        go_wp2
        · go_ret
          exact ⟨⟨-1, rfl, by omega, by omega, by omega⟩, rfl⟩
        · go_round
          case rel => exact ⟨k + 1, l - s.size, by omega, by go_num, rfl, by omega, by omega⟩
          case measure => simp [intOf]; omega
      · go_wp2
        go_ret
        exact ⟨⟨l, rfl, by omega, by omega, by omega⟩, rfl⟩

theorem info9 : (Tryz.prog.info? 9).map (fun i => (i.zero, i.size, i.bytes)) = some (some (.string .empty), 1, 16) := by kernel_rfl

set_option maxHeartbeats 400000 in
theorem toStringS_any (a : Option Addr) (cap : Nat) (ss : List ByteArray) (w : World) (hm : StrsAt w a ss) (hroom : ss.length ≤ 1048576) :
    Calls Tryz.prog 50 #[.slice a ss.length cap] w fun e w' => (∃ b, e = .returned (.slice (some ⟨b, 0, none⟩) ss.length ss.length) ∧ w.heap.size ≤ b ∧ StrsAt w' (some ⟨b, 0, none⟩) ss) ∧ Below w.heap.size w w' := by
  have hmk := run_make_row' (P := Tryz.prog) 25 9 (.string .empty) 16 Tryz.underlying25 info9 rfl .i64 .i64 ss.length (by omega) (by omega)
  go_enter Tryz.func50, Tryz.ntmps50
  go_wp2
  go_loopw [4] (fun i wr => ∃ (k : Nat), k ≤ ss.length ∧ i = .int .i64 k ∧ wr.rowIs w.heap.size 9 ss.length (fun j => if j < k then .string (gs ss j) else .string .empty) ∧ Below w.heap.size w wr) (fun i _ => ss.length - (intOf i).toNat)
  case atStart =>
    exact ⟨0, Nat.zero_le _, rfl, (World.rowIs_made w _ _ _).congr (fun i _ => by simp), (Below.refl _ _).alloc (Nat.le_refl _) _⟩
  case round =>
    obtain ⟨k, hk, rfl, hrow, hbel⟩ := hrel
    clear hmk
    by_cases hlt : k < ss.length
    · obtain ⟨b, o, ha, hb, hc⟩ := (hm.later hbel).at hlt
      have hc1 := hrow.cell hlt
      have hfz := hrow.frozen k
      subst ha
      go_wp2
      go_roundw
      case rel =>
        refine ⟨k + 1, by omega, by go_num, (hrow.set k _).congr (fun i _ => ?_), hbel.setCell (Nat.le_refl _) _⟩
        by_cases e : i = k
        · subst e; simp
        · simp only [e, if_false]
          by_cases h : i < k
          · rw [if_pos h, if_pos (by omega)]
          · rw [if_neg h, if_neg (by omega)]
      case measure => simp [intOf]; omega
    · have : k = ss.length := by omega
      subst this
      go_wp2
      go_ret
      refine ⟨⟨w.heap.size, rfl, Nat.le_refl _, fun k hk => ⟨w.heap.size, 0, rfl, hrow.lt, fun j hj => ?_⟩⟩, hbel⟩
      have hj0 : j = 0 := by omega
      subst hj0
      have := hrow.cell hk
      rw [if_pos hk] at this
      simpa using this

end Go.Proofs.YtfmhkicncgccjaaGreat
