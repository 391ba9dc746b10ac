/- The leaves: what the small functions answer. -/
import Derived.Test.YtfmhkicncgccjaaGreatMem
namespace Go.Proofs.YtfmhkicncgccjaaGreat
open Go.RowKit

theorem l1In_any (n lo hi : Int) (w : World) :
    Calls Tryz.prog 45 #[.int .i64 n, .int .i64 lo, .int .i64 hi] w fun e w' => e = .returned (.bool (inB n lo hi)) ∧ w = w' := by
  unfold inB
  go_enter Tryz.func45, Tryz.ntmps45
  go_wp2
  all_goals go_ret
  all_goals refine ⟨ret_bool ?_, rfl⟩
  all_goals simp [*]
  all_goals omega

theorem within_any (n lo hi : Int) (w : World) :
    Calls Tryz.prog 100 #[.int .i64 n, .int .i64 lo, .int .i64 hi] w fun e w' => e = .returned (.bool (inB n lo hi)) ∧ w = w' := by
  unfold inB
  go_enter Tryz.func100, Tryz.ntmps100
  go_wp2
  all_goals go_ret
  all_goals refine ⟨ret_bool ?_, rfl⟩
  all_goals simp [*]
  all_goals omega

theorem nameRune_any (r : Int) (w : World) :
    Calls Tryz.prog 132 #[.int .i32 r] w fun e w' => e = .returned (.bool (letterB r)) ∧ w = w' := by
  unfold letterB
  go_enter Tryz.func132, Tryz.ntmps132
  go_wp2
  all_goals go_ret
  all_goals refine ⟨ret_bool ?_, rfl⟩
  all_goals (first | rfl | (rw [Bool.eq_iff_iff]; simp; done) | (rw [Bool.eq_iff_iff]; simp; omega))

theorem namesOk1_any (s t : ByteArray) (w : World) :
    Calls Tryz.prog 137 #[.string s, .string t] w fun e w' => e = .returned (.bool (ltS s t)) ∧ w = w' := by
  go_enter Tryz.func137, Tryz.ntmps137
  go_wp2
  go_ret
  exact ⟨rfl, rfl⟩

set_option maxHeartbeats 400000 in
theorem index_any (a : Option Addr) (cap : Nat) (ss : List ByteArray) (s : ByteArray) (w : World) (hm : StrsAt w a ss) (hl : ss.length ≤ maxLen) :
    Calls Tryz.prog 74 #[.slice a ss.length cap, .string s] w fun e w' => (∃ r : Int, e = .returned (.int .i64 r) ∧ decide (0 ≤ r) = hasB ss s) ∧ w = w' := by
  unfold maxLen at hl
  go_enter Tryz.func74, Tryz.ntmps74
  go_wp2
  go_loop [5, 8] (fun _ i => ∃ (k : Nat), k ≤ ss.length ∧ i = .int .i64 k ∧ allTo k (fun i => !(eqS (gs ss i) s)) = true) (fun _ i => ss.length - (intOf i).toNat)
  case atStart => exact ⟨0, Nat.zero_le _, rfl, rfl⟩
  case round =>
    obtain ⟨k, hk, rfl, hall⟩ := hrel
    by_cases hlt : k < ss.length
    · obtain ⟨b, o, ha, hb, hc⟩ := hm.at hlt
      subst ha
      have he := eqS_comm s (gs ss k)
      unfold eqS at he
      cases hq : eqS (gs ss k) s with
      | true =>
        have hq' : (s.toList == (gs ss k).toList) = true := by rw [he]; exact hq
        clear he
        go_wp2
        go_ret
        exact ⟨⟨k, rfl, by rw [show hasB ss s = true from anyTo_true k hlt hq]; simp⟩, rfl⟩
      | false =>
        have hq' : (s.toList == (gs ss k).toList) = false := by rw [he]; exact hq
        clear he
        go_wp2
        go_round
        case rel => exact ⟨k + 1, by omega, by go_num, allTo_succ hall (by simp [hq])⟩
        case measure => simp [intOf]; omega
    · go_wp2
      go_ret
      have : k = ss.length := by omega
      subst this
      exact ⟨⟨-1, rfl, by rw [show hasB ss s = false from anyTo_none hall]; rfl⟩, rfl⟩

theorem contains_any (a : Option Addr) (cap : Nat) (ss : List ByteArray) (s : ByteArray) (w : World) (hm : StrsAt w a ss) (hl : ss.length ≤ maxLen) :
    Calls Tryz.prog 28 #[.slice a ss.length cap, .string s] w fun e w' => e = .returned (.bool (hasB ss s)) ∧ w = w' := by
  go_enter Tryz.func28, Tryz.ntmps28
  go_wp2_with (go_at_call 74; refine (index_any a cap ss s _ hm hl).mono ?_; rintro e w' ⟨⟨r, rfl, hr⟩, rfl⟩)
  go_ret
  exact ⟨ret_bool rfl, rfl⟩

set_option maxHeartbeats 400000 in
theorem l1Has_any (a : Option Addr) (cap : Nat) (ss : List ByteArray) (s : ByteArray) (w : World) (hm : StrsAt w a ss) (hl : ss.length ≤ maxLen) :
    Calls Tryz.prog 29 #[.slice a ss.length cap, .string s] w fun e w' => e = .returned (.bool (hasB ss s)) ∧ w = w' := by
  unfold maxLen at hl
  go_enter Tryz.func29, Tryz.ntmps29
  go_wp2
  go_loop [5] (fun i => ∃ (k : Nat), k ≤ ss.length ∧ i = .int .i64 k ∧ allTo k (fun i => !(eqS (gs ss i) s)) = true) (fun i => ss.length - (intOf i).toNat)
  case atStart => exact ⟨0, Nat.zero_le _, rfl, rfl⟩
  case round =>
    obtain ⟨k, hk, rfl, hall⟩ := hrel
    by_cases hlt : k < ss.length
    · obtain ⟨b, o, ha, hb, hc⟩ := hm.at hlt
      subst ha
      cases hq : eqS (gs ss k) s with
      | true =>
        have hq' : ((gs ss k).toList == s.toList) = true := hq
        go_wp2
        go_ret
        exact ⟨ret_bool (anyTo_true k hlt hq).symm, rfl⟩
      | false =>
        have hq' : ((gs ss k).toList == s.toList) = false := hq
        go_wp2
        go_round
        case rel => exact ⟨k + 1, by omega, by go_num, allTo_succ hall (by simp [hq])⟩
        case measure => simp [intOf]; omega
    · go_wp2
      go_ret
      have : k = ss.length := by omega
      subst this
      exact ⟨ret_bool (anyTo_none hall).symm, rfl⟩

set_option maxHeartbeats 400000 in
theorem l1NameOk_any (s : ByteArray) (w : World) (hs : s.size ≤ maxLen) :
    Calls Tryz.prog 83 #[.string s] w fun e w' => e = .returned (.bool (nameB s)) ∧ w = w' := by
  unfold maxLen at hs
  cases hin : inB s.size 1 8 with
  | false =>
    go_enter Tryz.func83, Tryz.ntmps83
    go_wp2_with (go_at_call 45; refine (l1In_any _ _ _ _).mono ?_; rintro e w' ⟨rfl, rfl⟩; rw [hin])
    go_ret
    exact ⟨ret_bool (nameB_size hin).symm, rfl⟩
  | true =>
    go_enter Tryz.func83, Tryz.ntmps83
    go_wp2_with (go_at_call 45; refine (l1In_any _ _ _ _).mono ?_; rintro e w' ⟨rfl, rfl⟩; rw [hin])
    go_loop [3] (fun i => ∃ (k : Nat), k ≤ s.size ∧ i = .int .i64 k ∧ allTo k (fun i => letterB (byteAt s i)) = true) (fun i => s.size - (intOf i).toNat)
    case atStart => exact ⟨0, Nat.zero_le _, rfl, rfl⟩
    case round =>
      obtain ⟨k, hk, rfl, hall⟩ := hrel
      by_cases hlt : k < s.size
      · have hbt := byteAt_lt hlt
        have hbe : letterB (byteAt s k) = (decide (97 ≤ (s[k].toNat : Int)) && decide ((s[k].toNat : Int) ≤ 122) || decide (48 ≤ (s[k].toNat : Int)) && decide ((s[k].toNat : Int) ≤ 57) || (s[k].toNat : Int) == 45) := by rw [hbt]; rfl
        have HB := hbe
        clear hbe hbt
        have H1 : Hid (letterB (byteAt s k) = (decide (97 ≤ (s[k].toNat : Int)) && decide ((s[k].toNat : Int) ≤ 122) || decide (48 ≤ (s[k].toNat : Int)) && decide ((s[k].toNat : Int) ≤ 57) || (s[k].toNat : Int) == 45)) := HB
        clear HB
        go_wp2
        all_goals first
          | (go_ret; refine ⟨ret_bool (nameB_bad k hlt ?_).symm, rfl⟩; rw [H1.out]; clear H1; simp at *; omega)
          | (go_round
             case rel =>
               refine ⟨k + 1, by omega, by go_num, allTo_succ hall ?_⟩
               show letterB (byteAt s k) = true
               rw [H1.out]; clear H1; simp_all; try omega
             case measure => simp [intOf]; omega)
      · go_wp2
        go_ret
        have : k = s.size := by omega
        subst this
        exact ⟨ret_bool (nameB_good hin hall).symm, rfl⟩

set_option maxHeartbeats 400000 in
theorem nameOk_any (s : ByteArray) (w : World) (_hs : s.size ≤ maxLen) :
    Calls Tryz.prog 92 #[.string s] w fun e w' => e = .returned (.bool (nameB s)) ∧ Below w.heap.size w w' := by
  cases hin : inB s.size 1 8 with
  | false =>
    go_enter Tryz.func92, Tryz.ntmps92
    go_wp2_with (go_at_call 100; refine (within_any _ _ _ _).mono ?_; rintro e w' ⟨rfl, rfl⟩; rw [hin])
    go_ret
    exact ⟨ret_bool (nameB_size hin).symm, Below.refl _ _⟩
  | true =>
    go_enter Tryz.func92, Tryz.ntmps92
    go_wp2_with (go_at_call 100; refine (within_any _ _ _ _).mono ?_; rintro e w' ⟨rfl, rfl⟩; rw [hin])

    go_loopw [4] (fun _ w' => ∃ (k : Nat), k ≤ s.size ∧ w' = w.iter s k ∧ allTo k (fun i => letterB (byteAt s i)) = true) (fun _ w' => s.size - w'.iterPos w.heap.size)
    case atStart => exact ⟨0, Nat.zero_le _, rfl, rfl⟩
    case round =>
      obtain ⟨k, hk, rfl, hall⟩ := hrel
      by_cases hlt : k < s.size
      · have hbt := byteAt_lt hlt
        by_cases hhi : s[k].toNat < 128
        · have hnx : ∀ ty, (Instr.next (.pointer (some ⟨w.heap.size, 0, none⟩)) true ty).run Tryz.prog (w.iter s k) = _ := fun ty => run_next_ascii w s k ty hlt hhi
          cases hq : letterB (byteAt s k) with
          | false =>
            rw [hbt] at hq
            go_wp2_with (go_at_call 132; refine (nameRune_any _ _).mono ?_; rintro e w' ⟨rfl, rfl⟩; rw [hq])
            go_ret
            exact ⟨ret_bool (nameB_bad k hlt (by rw [hbt]; exact hq)).symm, (Below.refl _ _).alloc (Nat.le_refl _) _⟩
          | true =>
            rw [hbt] at hq
            go_wp2_with (go_at_call 132; refine (nameRune_any _ _).mono ?_; rintro e w' ⟨rfl, rfl⟩; rw [hq])
            go_roundw
            case rel => exact ⟨k + 1, by omega, rfl, allTo_succ hall (by rw [hbt]; exact hq)⟩
            case measure => simp; omega
        · have hnx : ∀ ty, (Instr.next (.pointer (some ⟨w.heap.size, 0, none⟩)) true ty).run Tryz.prog (w.iter s k) = _ := fun ty => run_next_any w s k ty hlt
          have hd := (decode_high s k hlt (by omega)).1
          have hq : letterB ((Utf8.decode s k).1 : Int) = false := letterB_high (by omega)
          clear hd
          go_wp2_with (go_at_call 132; refine (nameRune_any _ _).mono ?_; rintro e w' ⟨rfl, rfl⟩; rw [hq])
          go_ret
          exact ⟨ret_bool (nameB_bad k hlt (by rw [hbt]; exact letterB_high (by omega))).symm, (Below.refl _ _).alloc (Nat.le_refl _) _⟩
      · have hnx : ∀ ty, (Instr.next (.pointer (some ⟨w.heap.size, 0, none⟩)) true ty).run Tryz.prog (w.iter s k) = _ := fun ty => run_next_end w s k ty hlt
        go_wp2
        go_ret
        have : k = s.size := by omega
        subst this
        exact ⟨ret_bool (nameB_good hin hall).symm, (Below.refl _ _).alloc (Nat.le_refl _) _⟩
end Go.Proofs.YtfmhkicncgccjaaGreat
