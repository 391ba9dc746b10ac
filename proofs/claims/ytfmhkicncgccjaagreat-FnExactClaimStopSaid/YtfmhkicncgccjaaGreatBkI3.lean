/- What the program's everyPair and mayOk answer. -/
import Derived.Test.YtfmhkicncgccjaaGreatBkI2
namespace Go.Proofs.YtfmhkicncgccjaaGreat
open Go.RowKit Go.Sort
set_option linter.unusedSimpArgs false
set_option linter.unusedVariables false

/-- No two of a list are foes, the earlier one first. -/
def pairsB (fs : List Foe) (ss : List ByteArray) : Bool := allTo ss.length (fun i => allTo (ss.length - (i + 1)) (fun j => !foesB fs (gs ss i) (gs ss (i + 1 + j))))

theorem StrsAt.drop {w : World} {b o : Nat} {ss : List ByteArray} (h : StrsAt w (some ⟨b, o, none⟩) ss) {k j : Nat} (hj : k + j < ss.length) :
    b < w.heap.size ∧ w.cell? ⟨b, o + k + j, none⟩ = some (.string (gs ss (k + j))) := by
  obtain ⟨b', o', ha, hb, hc⟩ := h.at hj
  simp only [Option.some.injEq, Addr.mk.injEq, and_true] at ha
  obtain ⟨rfl, rfl⟩ := ha
  exact ⟨hb, by rw [Nat.add_assoc]; exact hc⟩

set_option maxHeartbeats 1000000 in
theorem everyPair_any (bb : Nat) (af : Option Addr) (cf : Nat) (fs : List Foe) (a : Option Addr) (cap : Nat) (ss : List ByteArray) (w : World) (hcell : w.cell? ⟨bb, 0, none⟩ = some (.slice af fs.length cf)) (hm : FoesAt w af fs) (hl : fs.length ≤ maxLen)
    (hs : StrsAt w a ss) (hls : ss.length ≤ maxLen) (hcap : ss.length ≤ cap) :
    Calls Tryz.prog 133 #[.slice a ss.length cap, .func (.func 134) #[] #[.pointer (some ⟨bb, 0, none⟩)]] w fun e w' => e = .returned (.bool (pairsB fs ss)) ∧ Below w.heap.size w w' := by
  have hls' := hls
  unfold maxLen at hls'
  go_enter Tryz.func133, Tryz.ntmps133
  go_wp2
  go_loopw [5, 6, 8, 11] (fun _ _ _ i wr => ∃ (k : Nat), k ≤ ss.length ∧ i = .int .i64 k ∧ allTo k (fun i => allTo (ss.length - (i + 1)) (fun j => !foesB fs (gs ss i) (gs ss (i + 1 + j)))) = true ∧ Below w.heap.size w wr) (fun _ _ _ i _ => ss.length - (intOf i).toNat)
  case atStart => exact ⟨0, Nat.zero_le _, rfl, rfl, Below.refl _ _⟩
  case round wr =>
    obtain ⟨k, hk, rfl, hall, hbel⟩ := hrel
    by_cases hlt : k < ss.length
    · obtain ⟨b, o, ha, hb, hc⟩ := (hs.later hbel).at hlt
      subst ha
      go_wp2
      all_goals try (have hce : cap = k + 1 := (by assumption); subst hce)
      all_goals
        go_loopw [8, 21] (fun _ i wv => ∃ (j : Nat) (w2 : World), w2 = wv ∧ j ≤ ss.length - (k + 1) ∧ i = .int .i64 j ∧ allTo j (fun j => !foesB fs (gs ss k) (gs ss (k + 1 + j))) = true ∧ Below wr.heap.size wr w2) (fun _ i _ => (ss.length - (k + 1)) - (intOf i).toNat)
        case atStart => exact ⟨0, _, rfl, Nat.zero_le _, rfl, rfl, Below.refl _ _⟩
        case round =>
          obtain ⟨j, w2, rfl, hj, rfl, hallj, hb2⟩ := hrel
          have hbw2 := hbel.trans (hb2.mono hbel.size)
          by_cases hj2 : j < ss.length - (k + 1)
          · first
              | (exfalso; omega)
              | (obtain ⟨hbj, hcj⟩ := (hs.later hbw2).drop (k := k + 1) (j := j) (by omega)
                 have hpc := cell_later hbw2 hcell
                 have hj3 : (j : Int) < ((ss.length - (k + 1) : Nat) : Int) := by omega
                 go_wp2_with fail
                 refine (mayOk1_any bb af cf fs (gs ss k) (gs ss (k + 1 + j)) _ hpc (hm.later hbw2) hl).mono ?_
                 rintro e w3 ⟨rfl, hb3⟩
                 have hb4 := hb2.trans (hb3.mono hb2.size)
                 cases hq : foesB fs (gs ss k) (gs ss (k + 1 + j)) with
                 | true =>
                   go_wp2
                   go_ret
                   refine ⟨ret_bool ?_, hbel.trans (hb4.mono hbel.size)⟩
                   exact (allTo_false k hlt (allTo_false j hj2 (by rw [hq]; rfl))).symm
                 | false =>
                   go_wp2
                   go_roundw
                   case rel => exact ⟨j + 1, _, rfl, by omega, by go_num, allTo_succ hallj (by rw [hq]; rfl), hb4⟩
                   case measure => simp [intOf]; omega)
          · have hjj : j = ss.length - (k + 1) := by omega
            have hin : allTo (ss.length - (k + 1)) (fun j => !foesB fs (gs ss k) (gs ss (k + 1 + j))) = true := by rw [← hjj]; exact hallj
            have HI : Hid (allTo (ss.length - (k + 1)) (fun j => !foesB fs (gs ss k) (gs ss (k + 1 + j))) = true) := hin
            clear hin hjj
            go_wp2
            go_roundw
            case rel => exact ⟨k + 1, by omega, by go_num, allTo_succ hall HI.out, hbw2⟩
            case measure => simp [intOf]; omega
    · go_wp2
      go_ret
      have : k = ss.length := by omega
      subst this
      exact ⟨ret_bool hall.symm, hbel⟩

set_option maxHeartbeats 1000000 in
theorem mayOk_any (af : Option Addr) (cf : Nat) (fs : List Foe) (a : Option Addr) (cap : Nat) (ss : List ByteArray) (w : World) (hm : FoesAt w af fs) (hl : fs.length ≤ maxLen) (hs : StrsAt w a ss) (hf : Fit ss) (hcap : ss.length ≤ cap) :
    Calls Tryz.prog 96 #[.slice af fs.length cf, .slice a ss.length cap] w fun e w' => e = .returned (.bool (namesB ss 8 && pairsB fs ss)) ∧ Below w.heap.size w w' := by
  have b0 : Below w.heap.size w (w.alloc (.cells #[.slice af fs.length cf] 23)) := (Below.refl _ _).alloc (Nat.le_refl _) _
  have i0 := Row.new w 23 [.slice af fs.length cf]
  go_enter Tryz.func96, Tryz.ntmps96
  go_wp2_with fail
  refine (namesOk_any a cap ss 8 _ (hs.later b0) hf).mono ?_
  rintro e w1 ⟨rfl, hb⟩
  have b1 := b0.trans (hb.mono b0.size)
  have i1 := i0.later hb
  cases h1 : namesB ss 8 with
  | false =>
    go_wp2
    go_ret
    exact ⟨ret_bool (by rw [h1]; rfl), b1⟩
  | true =>
  go_wp2_with fail
  refine (everyPair_any w.heap.size af cf fs a cap ss _ (i1.cell 0 rfl) (hm.later b1) hl (hs.later b1) hf.1 hcap).mono ?_
  rintro e w2 ⟨rfl, hb2⟩
  go_wp2
  go_ret
  exact ⟨ret_bool (by simp [h1]), b1.trans (hb2.mono b1.size)⟩

end Go.Proofs.YtfmhkicncgccjaaGreat
