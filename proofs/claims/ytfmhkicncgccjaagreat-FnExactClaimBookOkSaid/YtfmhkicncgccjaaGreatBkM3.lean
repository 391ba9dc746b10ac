/- A want uses a place that is used already: looks into the map. -/
import Derived.Test.YtfmhkicncgccjaaGreatBkM2
namespace Go.Proofs.YtfmhkicncgccjaaGreat
open Go.RowKit Go.Sort Go.Maps
set_option linter.unusedSimpArgs false
set_option linter.unusedVariables false
set_option maxRecDepth 100000

theorem UsedIn.lt {w : World} {b n : Nat} {f : Int → ByteArray → Nat} (h : UsedIn w b n f) : b < w.heap.size := by
  obtain ⟨D, hD, _⟩ := h
  exact hD.lt
theorem UsedIn.later {w w' : World} {b n : Nat} {f : Int → ByteArray → Nat} (h : UsedIn w b n f) (hb : Below w.heap.size w w') : UsedIn w' b n f := h.kept (hb.block _ h.lt)

set_option maxHeartbeats 2000000 in
theorem usesPlaceOf_any (bm n : Nat) (f : Int → ByteArray → Nat) (y : Want) (a2 a3 a4 a5 : Option Addr) (c2 c3 c4 c5 : Nat) (w : World) (hu : UsedIn w bm n f) (hy : WantIn w y a2 a3 a4 a5) (fy : WantFit y) :
    Calls Tryz.prog 105 #[.map (some bm), wantW y a2 a3 a4 a5 c2 c3 c4 c5] w fun e w' => e = .returned (.bool (anyTo y.uses.length (fun i => decide (0 < f 0 (gu y.uses i).name)))) ∧ Below w.heap.size w w' := by
  have hl3 := fy.usesLen
  unfold maxLen at hl3
  unfold wantW
  have b0 : Below w.heap.size w (w.alloc (.cells (wantL y a2 a3 a4 a5 c2 c3 c4 c5).toArray 38)) := (Below.refl _ _).alloc (Nat.le_refl _) _
  go_enter Tryz.func105, Tryz.ntmps105
  go_wp2
  go_loopw [6, 10] (fun _ i wr => ∃ (k : Nat), k ≤ y.uses.length ∧ i = .int .i64 k ∧ allTo k (fun i => !decide (0 < f 0 (gu y.uses i).name)) = true ∧ Below (w.alloc (.cells (wantL y a2 a3 a4 a5 c2 c3 c4 c5).toArray 38)).heap.size (w.alloc (.cells (wantL y a2 a3 a4 a5 c2 c3 c4 c5).toArray 38)) wr) (fun _ i _ => y.uses.length - (intOf i).toNat)
  case atStart => exact ⟨0, Nat.zero_le _, rfl, rfl, Below.refl _ _⟩
  case round wr =>
    obtain ⟨k, hk, rfl, hall, hbel⟩ := hrel
    have hbw := b0.trans (hbel.mono b0.size)
    by_cases hlt : k < y.uses.length
    · obtain ⟨b, o, ha, hb, hc0, hc1, hc2⟩ := (hy.later hbw).uses.at hlt
      have hsz : (gu y.uses k).name.size ≤ maxLen := fy.usesNames _ (by rw [gu_lt hlt]; exact List.getElem_mem hlt)
      have hba : Below wr.heap.size wr (wr.alloc (.cells #[.string (gu y.uses k).name, .int .i64 (gu y.uses k).role, .int .i64 (gu y.uses k).amount] 101)) := (Below.refl _ _).alloc (Nat.le_refl _) _
      have hrun := ((hu.later hbw).later hba).look 0 (by decide) (gu y.uses k).name hsz
      unfold usedV at hrun
      have hbel1 := hbel.trans (hba.mono hbel.size)
      subst ha
      generalize hf0 : f 0 (gu y.uses k).name = c at hrun
      have HF : Hid (f 0 (gu y.uses k).name = c) := hf0
      clear hf0 hba hsz
      by_cases hq : 0 < c
      · have hq' : (0 : Int) < c := by omega
        go_wp2
        go_ret
        exact ⟨ret_bool (anyTo_iff.2 ⟨k, hlt, by rw [HF.out]; exact decide_eq_true hq⟩).symm, b0.trans (hbel1.mono b0.size)⟩
      · have hq' : ¬ (0 : Int) < c := by omega
        go_wp2
        go_roundw
        case rel => exact ⟨k + 1, by omega, by go_num, allTo_succ hall (by rw [HF.out, decide_eq_false hq]; rfl), hbel1⟩
        case measure => simp [intOf]; omega
    · go_wp2
      go_ret
      have : k = y.uses.length := by omega
      subst this
      exact ⟨ret_bool (by unfold anyTo; rw [hall]; rfl), hbw⟩

/-- A want's valves cross what the map holds. -/
def crossI (f : Int → ByteArray → Nat) (y : Want) : Bool := anyTo y.opens.length (fun i => decide (0 < f 1 (gs y.opens i)) || decide (0 < f 2 (gs y.opens i))) || anyTo y.shuts.length (fun i => decide (0 < f 1 (gs y.shuts i)))

set_option maxHeartbeats 2000000 in
theorem crosses_any (bm n : Nat) (f : Int → ByteArray → Nat) (y : Want) (a2 a3 a4 a5 : Option Addr) (c2 c3 c4 c5 : Nat) (w : World) (hu : UsedIn w bm n f) (hy : WantIn w y a2 a3 a4 a5) (fy : WantFit y) :
    Calls Tryz.prog 106 #[.map (some bm), wantW y a2 a3 a4 a5 c2 c3 c4 c5] w fun e w' => e = .returned (.bool (crossI f y)) ∧ Below w.heap.size w w' := by
  have hl4 := fy.opens.1
  have hl5 := fy.shuts.1
  unfold maxLen at hl4 hl5
  unfold wantW
  have b0 : Below w.heap.size w (w.alloc (.cells #[.int .i64 y.number, .int .i64 y.kind, .slice a2 y.stuffs.length c2, .slice a3 y.uses.length c3, .slice a4 y.opens.length c4, .slice a5 y.shuts.length c5] 38)) := (Below.refl _ _).alloc (Nat.le_refl _) _
  have hy0 := hy.later b0
  have hu0 := hu.later b0
  go_enter Tryz.func106, Tryz.ntmps106
  go_wp2
  go_loop [6, 12] (fun _ i => ∃ (k : Nat), k ≤ y.opens.length ∧ i = .int .i64 k ∧ allTo k (fun i => !(decide (0 < f 1 (gs y.opens i)) || decide (0 < f 2 (gs y.opens i)))) = true) (fun _ i => y.opens.length - (intOf i).toNat)
  case atStart => exact ⟨0, Nat.zero_le _, rfl, rfl⟩
  case round =>
    obtain ⟨k, hk, rfl, hall⟩ := hrel
    by_cases hlt : k < y.opens.length
    · obtain ⟨b, o, ha, hb, hc⟩ := hy0.opens.at hlt
      have hsz : (gs y.opens k).size ≤ maxLen := fy.opens.2 _ (by rw [gs_lt hlt]; exact List.getElem_mem hlt)
      have hrun1 := hu0.look 1 (by decide) (gs y.opens k) hsz
      have hrun2 := hu0.look 2 (by decide) (gs y.opens k) hsz
      unfold usedV at hrun1 hrun2
      subst ha
      generalize hf1 : f 1 (gs y.opens k) = c at hrun1
      have HF1 : Hid (f 1 (gs y.opens k) = c) := hf1
      generalize hf2 : f 2 (gs y.opens k) = d at hrun2
      have HF2 : Hid (f 2 (gs y.opens k) = d) := hf2
      clear hf1 hf2 hsz
      by_cases hq : 0 < c
      · have hq' : (0 : Int) < c := by omega
        go_wp2
        go_ret
        exact ⟨ret_bool (by unfold crossI; rw [anyTo_iff.2 ⟨k, hlt, by rw [HF1.out, decide_eq_true hq]; rfl⟩]; rfl), b0⟩
      · have hq' : ¬ (0 : Int) < c := by omega
        by_cases hp : 0 < d
        · have hp' : (0 : Int) < d := by omega
          go_wp2
          go_ret
          exact ⟨ret_bool (by unfold crossI; rw [anyTo_iff.2 ⟨k, hlt, by rw [HF2.out, decide_eq_true hp, Bool.or_true]⟩]; rfl), b0⟩
        · have hp' : ¬ (0 : Int) < d := by omega
          go_wp2
          go_round
          case rel => exact ⟨k + 1, by omega, by go_num, allTo_succ hall (by rw [HF1.out, HF2.out, decide_eq_false hq, decide_eq_false hp]; rfl)⟩
          case measure => simp [intOf]; omega
    · have hkk : k = y.opens.length := by omega
      have HA1 : Hid (anyTo y.opens.length (fun i => decide (0 < f 1 (gs y.opens i)) || decide (0 < f 2 (gs y.opens i))) = false) := by rw [← hkk]; unfold anyTo Hid; rw [hall]; rfl
      clear hall
      go_wp2
      go_loop [8, 32] (fun _ i => ∃ (k : Nat), k ≤ y.shuts.length ∧ i = .int .i64 k ∧ allTo k (fun i => !decide (0 < f 1 (gs y.shuts i))) = true) (fun _ i => y.shuts.length - (intOf i).toNat)
      case atStart => exact ⟨0, Nat.zero_le _, rfl, rfl⟩
      case round =>
        obtain ⟨k2, hk2, rfl, hall⟩ := hrel
        by_cases hlt2 : k2 < y.shuts.length
        · obtain ⟨b, o, ha, hb, hc⟩ := hy0.shuts.at hlt2
          have hsz : (gs y.shuts k2).size ≤ maxLen := fy.shuts.2 _ (by rw [gs_lt hlt2]; exact List.getElem_mem hlt2)
          have hrun1 := hu0.look 1 (by decide) (gs y.shuts k2) hsz
          unfold usedV at hrun1
          subst ha
          generalize hf1 : f 1 (gs y.shuts k2) = c at hrun1
          have HF1 : Hid (f 1 (gs y.shuts k2) = c) := hf1
          clear hf1 hsz
          by_cases hq : 0 < c
          · have hq' : (0 : Int) < c := by omega
            go_wp2
            go_ret
            exact ⟨ret_bool (by unfold crossI; rw [HA1.out, anyTo_iff.2 ⟨k2, hlt2, by rw [HF1.out, decide_eq_true hq]⟩]; rfl), b0⟩
          · have hq' : ¬ (0 : Int) < c := by omega
            go_wp2
            go_round
            case rel => exact ⟨k2 + 1, by omega, by go_num, allTo_succ hall (by rw [HF1.out, decide_eq_false hq]; rfl)⟩
            case measure => simp [intOf]; omega
        · go_wp2
          go_ret
          have : k2 = y.shuts.length := by omega
          subst this
          exact ⟨ret_bool (by unfold crossI; rw [HA1.out]; unfold anyTo; rw [hall]; rfl), b0⟩

end Go.Proofs.YtfmhkicncgccjaaGreat
