/- What namesOk, shareAny, l1Share answer. -/
import Derived.Test.YtfmhkicncgccjaaGreatAsc
namespace Go.Proofs.YtfmhkicncgccjaaGreat
open Go.RowKit Go.Sort

theorem names_both (ss : List ByteArray) : (allTo ss.length (fun i => nameB (gs ss i)) && ascB ss) = allTo ss.length (nameAtB ss) := by
  rw [Bool.eq_iff_iff, Bool.and_eq_true]
  unfold ascB
  rw [allTo_iff, allTo_iff, allTo_iff]
  unfold nameAtB
  constructor
  · rintro ⟨h1, h2⟩ i hi
    rw [h1 i hi, h2 i hi]; rfl
  · intro h
    exact ⟨fun i hi => (Bool.and_eq_true _ _ ▸ h i hi).1, fun i hi => (Bool.and_eq_true _ _ ▸ h i hi).2⟩

set_option maxHeartbeats 400000 in
theorem namesOk_any (a : Option Addr) (cap : Nat) (ss : List ByteArray) (most : Int) (w : World) (hm : StrsAt w a ss) (hf : Fit ss) :
    Calls Tryz.prog 99 #[.slice a ss.length cap, .int .i64 most] w fun e w' => e = .returned (.bool (namesB ss most)) ∧ Below w.heap.size w w' := by
  obtain ⟨hl, hs⟩ := hf
  have hl' := hl
  unfold maxLen at hl
  by_cases hmany : most < (ss.length : Int)
  · go_enter Tryz.func99, Tryz.ntmps99
    go_wp2
    go_ret
    exact ⟨ret_bool (namesB_many hmany).symm, Below.refl _ _⟩
  · go_enter Tryz.func99, Tryz.ntmps99
    go_wp2
    go_loopw [6, 13] (fun _ i wr => ∃ (k : Nat), k ≤ ss.length ∧ i = .int .i64 k ∧ allTo k (fun i => nameB (gs ss i)) = true ∧ Below w.heap.size w wr) (fun _ i _ => ss.length - (intOf i).toNat)
    case atStart => exact ⟨0, Nat.zero_le _, rfl, rfl, Below.refl _ _⟩
    case round wr =>
      obtain ⟨k, hk, rfl, hall, hbel⟩ := hrel
      by_cases hlt : k < ss.length
      · obtain ⟨b, o, ha, hb, hc⟩ := (hm.later hbel).at hlt
        have hsz : (gs ss k).size ≤ maxLen := hs _ (gs_mem hlt)
        clear hs
        subst ha
        cases hq : nameB (gs ss k) with
        | false =>
          go_wp2_with (go_at_call 92; refine (nameOk_any (gs ss k) _ hsz).mono ?_; rintro e w1 ⟨rfl, hb1⟩; rw [hq])
          go_ret
          exact ⟨ret_bool (namesB_bad k hlt (by unfold nameAtB; rw [hq]; rfl)).symm, hbel.trans (hb1.mono hbel.size)⟩
        | true =>
          go_wp2_with (go_at_call 92; refine (nameOk_any (gs ss k) _ hsz).mono ?_; rintro e w1 ⟨rfl, hb1⟩; rw [hq])
          go_roundw
          case rel => exact ⟨k + 1, by omega, by go_num, allTo_succ hall hq, hbel.trans (hb1.mono hbel.size)⟩
          case measure => simp [intOf]; omega
      · have : k = ss.length := by omega
        subst this
        have hm' := hm.later hbel
        go_wp2_with (go_at_call 136; refine (ascending_any a cap ss _ hm' hl').mono ?_; rintro e w1 ⟨rfl, hb1⟩)
        go_ret
        refine ⟨ret_bool ?_, hbel.trans (hb1.mono hbel.size)⟩
        unfold namesB
        rw [← names_both, hall, decide_eq_true (by omega)]; rfl

set_option maxHeartbeats 400000 in
theorem shareAny_any (a b : Option Addr) (ca cb : Nat) (xs ys : List ByteArray) (w : World) (hx : StrsAt w a xs) (hy : StrsAt w b ys) (lx : xs.length ≤ maxLen) (ly : ys.length ≤ maxLen) :
    Calls Tryz.prog 141 #[.slice a xs.length ca, .slice b ys.length cb] w fun e w' => e = .returned (.bool (shareB xs ys)) ∧ w = w' := by
  have lx' := lx
  unfold maxLen at lx'
  go_enter Tryz.func141, Tryz.ntmps141
  go_wp2
  go_loop [6, 9] (fun _ i => ∃ (k : Nat), k ≤ xs.length ∧ i = .int .i64 k ∧ allTo k (fun i => !hasB ys (gs xs i)) = true) (fun _ i => xs.length - (intOf i).toNat)
  case atStart => exact ⟨0, Nat.zero_le _, rfl, rfl⟩
  case round =>
    obtain ⟨k, hk, rfl, hall⟩ := hrel
    by_cases hlt : k < xs.length
    · obtain ⟨b1, o1, ha, hb, hc⟩ := hx.at hlt
      subst ha
      cases hq : hasB ys (gs xs k) with
      | true =>
        go_wp2_with (go_at_call 28; refine (contains_any b cb ys (gs xs k) _ hy ly).mono ?_; rintro e w1 ⟨rfl, rfl⟩; rw [hq])
        go_ret
        exact ⟨ret_bool (anyTo_true k hlt hq).symm, rfl⟩
      | false =>
        go_wp2_with (go_at_call 28; refine (contains_any b cb ys (gs xs k) _ hy ly).mono ?_; rintro e w1 ⟨rfl, rfl⟩; rw [hq])
        go_round
        case rel => exact ⟨k + 1, by omega, by go_num, allTo_succ hall (by simp [hq])⟩
        case measure => simp [intOf]; omega
    · go_wp2
      go_ret
      have : k = xs.length := by omega
      subst this
      exact ⟨ret_bool (anyTo_none hall).symm, rfl⟩

set_option maxHeartbeats 400000 in
theorem l1Share_any (a b : Option Addr) (ca cb : Nat) (xs ys : List ByteArray) (w : World) (hx : StrsAt w a xs) (hy : StrsAt w b ys) (lx : xs.length ≤ maxLen) (ly : ys.length ≤ maxLen) :
    Calls Tryz.prog 86 #[.slice a xs.length ca, .slice b ys.length cb] w fun e w' => e = .returned (.bool (shareB xs ys)) ∧ w = w' := by
  have lx' := lx
  unfold maxLen at lx'
  go_enter Tryz.func86, Tryz.ntmps86
  go_wp2
  go_loop [5] (fun i => ∃ (k : Nat), k ≤ xs.length ∧ i = .int .i64 k ∧ allTo k (fun i => !hasB ys (gs xs i)) = true) (fun i => xs.length - (intOf i).toNat)
  case atStart => exact ⟨0, Nat.zero_le _, rfl, rfl⟩
  case round =>
    obtain ⟨k, hk, rfl, hall⟩ := hrel
    by_cases hlt : k < xs.length
    · obtain ⟨b1, o1, ha, hb, hc⟩ := hx.at hlt
      subst ha
      cases hq : hasB ys (gs xs k) with
      | true =>
        go_wp2_with (go_at_call 29; refine (l1Has_any b cb ys (gs xs k) _ hy ly).mono ?_; rintro e w1 ⟨rfl, rfl⟩; rw [hq])
        go_ret
        exact ⟨ret_bool (anyTo_true k hlt hq).symm, rfl⟩
      | false =>
        go_wp2_with (go_at_call 29; refine (l1Has_any b cb ys (gs xs k) _ hy ly).mono ?_; rintro e w1 ⟨rfl, rfl⟩; rw [hq])
        go_round
        case rel => exact ⟨k + 1, by omega, by go_num, allTo_succ hall (by simp [hq])⟩
        case measure => simp [intOf]; omega
    · go_wp2
      go_ret
      have : k = xs.length := by omega
      subst this
      exact ⟨ret_bool (anyTo_none hall).symm, rfl⟩

end Go.Proofs.YtfmhkicncgccjaaGreat
