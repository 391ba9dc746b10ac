/- What the functions answer that look at lists of names. -/
import Derived.Test.YtfmhkicncgccjaaGreatListsB
namespace Go.Proofs.YtfmhkicncgccjaaGreat
open Go.RowKit Go.Sort

/-- A name at its place: a name, and behind the one ahead of it. -/
def nameAtB (ss : List ByteArray) (k : Nat) : Bool := nameB (gs ss k) && (k == 0 || ltS (gs ss (k - 1)) (gs ss k))
def namesB (ss : List ByteArray) (most : Int) : Bool := decide ((ss.length : Int) ≤ most) && allTo ss.length (nameAtB ss)

theorem namesB_many {ss : List ByteArray} {most : Int} (h : most < ss.length) : namesB ss most = false := by
  unfold namesB; rw [decide_eq_false (by omega)]; rfl
theorem namesB_bad {ss : List ByteArray} {most : Int} (k : Nat) (hk : k < ss.length) (h : nameAtB ss k = false) : namesB ss most = false := by
  unfold namesB; rw [allTo_false k hk h, Bool.and_false]
theorem namesB_good {ss : List ByteArray} {most : Int} (h : (ss.length : Int) ≤ most) (ha : allTo ss.length (nameAtB ss) = true) : namesB ss most = true := by
  unfold namesB; rw [ha, decide_eq_true h]; rfl

set_option maxHeartbeats 400000 in
theorem l1NamesOk_any (a : Option Addr) (cap : Nat) (ss : List ByteArray) (most : Int) (w : World) (hm : StrsAt w a ss) (hf : Fit ss) :
    Calls Tryz.prog 44 #[.slice a ss.length cap, .int .i64 most] w fun e w' => e = .returned (.bool (namesB ss most)) ∧ Below w.heap.size w w' := by
  obtain ⟨hl, hs⟩ := hf
  unfold maxLen at hl
  by_cases hmany : most < (ss.length : Int)
  · go_enter Tryz.func44, Tryz.ntmps44
    go_wp2
    go_ret
    exact ⟨ret_bool (namesB_many hmany).symm, Below.refl _ _⟩
  · go_enter Tryz.func44, Tryz.ntmps44
    go_wp2
    go_loopw [5] (fun i wr => ∃ (k : Nat), k ≤ ss.length ∧ i = .int .i64 k ∧ allTo k (nameAtB ss) = true ∧ Below w.heap.size w wr) (fun i _ => ss.length - (intOf i).toNat)
    case atStart => exact ⟨0, Nat.zero_le _, rfl, rfl, Below.refl _ _⟩
    case round wr =>
      obtain ⟨k, hk, rfl, hall, hbel⟩ := hrel
      by_cases hlt : k < ss.length
      · obtain ⟨b, o, ha, hb, hc⟩ := (hm.later hbel).at hlt
        have hsz : (gs ss k).size ≤ maxLen := hs _ (gs_mem hlt)
        have hcall := fun n => quietSame (w := wr) (n := n) (l1NameOk_any (gs ss k) _ hsz)
        clear hs
        cases hq : nameB (gs ss k) with
        | false =>
          rw [hq] at hcall
          subst ha
          go_wp2
          go_quiet (exact hcall _)
          go_wp2
          go_ret
          exact ⟨ret_bool (namesB_bad k hlt (by unfold nameAtB; rw [hq]; rfl)).symm, below_drewN hbel _⟩
        | true =>
          rw [hq] at hcall
          by_cases hk0 : k = 0
          · subst hk0
            subst ha
            simp only [Nat.add_zero] at hc
            go_wp2
            go_quiet (exact hcall _)
            go_wp2
            go_roundw
            case rel => exact ⟨1, by omega, rfl, by simp [allTo, nameAtB, hq], below_drewN hbel _⟩
            case measure => simp [intOf]; omega
          · obtain ⟨j, rfl⟩ : ∃ j, k = j + 1 := ⟨k - 1, by omega⟩
            obtain ⟨b', o', ha', hb', hc'⟩ := (hm.later hbel).at (k := j) (by omega)
            subst ha
            simp only [Option.some.injEq, Addr.mk.injEq, and_true] at ha'
            obtain ⟨rfl, rfl⟩ := ha'
            have hc'' : wr.cell? ⟨b, o + (j + 1), none⟩ = some (.string (gs ss (j + 1))) := hc
            have hat : nameAtB ss (j + 1) = ltS (gs ss j) (gs ss (j + 1)) := by simp [nameAtB, hq]
            cases hq2 : ltS (gs ss j) (gs ss (j + 1)) with
            | true =>
              have hq3 : Op.bytesLess (gs ss j).toList (gs ss (j + 1)).toList = true := hq2
              rw [hq2] at hat
              go_wp2
              go_quiet (exact hcall _)
              go_wp2
              go_roundw
              case rel => exact ⟨j + 1 + 1, by omega, by go_num, allTo_succ hall hat, below_drewN hbel _⟩
              case measure => simp [intOf]; omega
            | false =>
              have hq3 : Op.bytesLess (gs ss j).toList (gs ss (j + 1)).toList = false := hq2
              rw [hq2] at hat
              go_wp2
              go_quiet (exact hcall _)
              go_wp2
              go_ret
              exact ⟨ret_bool (namesB_bad (j + 1) hlt hat).symm, below_drewN hbel _⟩
      · go_wp2
        go_ret
        have : k = ss.length := by omega
        subst this
        exact ⟨ret_bool (namesB_good (by omega) hall).symm, hbel⟩

end Go.Proofs.YtfmhkicncgccjaaGreat
