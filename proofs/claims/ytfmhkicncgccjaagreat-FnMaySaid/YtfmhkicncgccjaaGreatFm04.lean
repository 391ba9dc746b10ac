/- Joined: UsesS. -/
import Derived.Test.YtfmhkicncgccjaaGreatFm03
/- What the specification's l1UsesOk answers. -/
namespace Go.Proofs.YtfmhkicncgccjaaGreat
open Go.RowKit Go.Sort

def amtS (kind : Int) (u : Use) : Bool := if u.role == 3 then u.amount == 0 else kind == 1 && inB u.amount 1 1000
def useAtS (kind : Int) (us : List Use) (k : Nat) : Bool := nameB (gu us k).name && (k == 0 || ltS (gu us (k - 1)).name (gu us k).name) && inB (gu us k).role 1 3 && amtS kind (gu us k)
def usesS (kind : Int) (us : List Use) : Bool := decide ((us.length : Int) ≤ 8) && allTo us.length (useAtS kind us)

theorem usesS_many {kind : Int} {us : List Use} (h : 8 < (us.length : Int)) : usesS kind us = false := by
 unfold usesS; rw [decide_eq_false (by omega)]; rfl
theorem usesS_bad {kind : Int} {us : List Use} (k : Nat) (hk : k < us.length) (h : useAtS kind us k = false) : usesS kind us = false := by
 unfold usesS; rw [allTo_false k hk h, Bool.and_false]
theorem usesS_good {kind : Int} {us : List Use} (h : ¬ 8 < (us.length : Int)) (ha : allTo us.length (useAtS kind us) = true) : usesS kind us = true := by
 unfold usesS; rw [ha, decide_eq_true (by omega)]; rfl

set_option maxHeartbeats 2000000 in
theorem l1UsesOk_any (n kind : Int) (a2 a a4 a5 : Option Addr) (n2 c2 cap n4 c4 n5 c5 : Nat) (us : List Use) (w : World) (hm : UsesAt w a us) (hl : us.length ≤ maxLen) (hs : ∀ u ∈ us, u.name.size ≤ maxLen) :
 Calls Tryz.prog 154 #[wantV n kind (.slice a2 n2 c2) (.slice a us.length cap) (.slice a4 n4 c4) (.slice a5 n5 c5)] w fun e w' => e = .returned (.bool (usesS kind us)) ∧ Below w.heap.size w w' := by
 have hl' := hl
 unfold maxLen at hl
 unfold wantV
 by_cases hmany : 8 < (us.length : Int)
 · go_enter Tryz.func154, Tryz.ntmps154
   go_wp2
   go_ret
   exact ⟨ret_bool (usesS_many hmany).symm, (Below.refl _ _).alloc (Nat.le_refl _) _⟩
 · go_enter Tryz.func154, Tryz.ntmps154
   go_wp2
   go_loopw [3] (fun i wr => ∃ (k : Nat), k ≤ us.length ∧ i = .int .i64 k ∧ allTo k (useAtS kind us) = true ∧ Below (w.alloc (.cells #[.int .i64 n, .int .i64 kind, .slice a2 n2 c2, .slice a us.length cap, .slice a4 n4 c4, .slice a5 n5 c5] 38)).heap.size (w.alloc (.cells #[.int .i64 n, .int .i64 kind, .slice a2 n2 c2, .slice a us.length cap, .slice a4 n4 c4, .slice a5 n5 c5] 38)) wr) (fun i _ => us.length - (intOf i).toNat)
   case atStart => exact ⟨0, Nat.zero_le _, rfl, rfl, Below.refl _ _⟩
   case round wr =>
    obtain ⟨k, hk, rfl, hall, hbel⟩ := hrel
    obtain ⟨-, y1, -, y3, -, -, hz⟩ := box6 hbel
    have hbw := below_over hbel
    by_cases hlt : k < us.length
    · obtain ⟨b, o, ha, hb, hc0, hc1, hc2⟩ := (hm.later hbw).at hlt
      have hsz : (gu us k).name.size ≤ maxLen := hs _ (gu_mem hlt)
      have hbf : ∀ nd, Below (w.alloc (.cells #[.int .i64 n, .int .i64 kind, .slice a2 n2 c2, .slice a us.length cap, .slice a4 n4 c4, .slice a5 n5 c5] 38)).heap.size (w.alloc (.cells #[.int .i64 n, .int .i64 kind, .slice a2 n2 c2, .slice a us.length cap, .slice a4 n4 c4, .slice a5 n5 c5] 38)) ((wr.alloc (.cells #[.string (gu us k).name, .int .i64 (gu us k).role, .int .i64 (gu us k).amount] 101)).drewN nd) := fun nd => below_drewN (hbel.alloc hbel.size _) nd
      have hcall1 := fun nd => quietSame (w := wr.alloc (.cells #[.string (gu us k).name, .int .i64 (gu us k).role, .int .i64 (gu us k).amount] 101)) (n := nd) (l1NameOk_any (gu us k).name _ hsz)
      have hcall2 := fun nd => quietSame (w := wr.alloc (.cells #[.string (gu us k).name, .int .i64 (gu us k).role, .int .i64 (gu us k).amount] 101)) (n := nd) (l1In_any (gu us k).role 1 3 _)
      clear hs
      cases hq : nameB (gu us k).name with
      | false =>
       rw [hq] at hcall1
       subst ha
       go_wp2
       go_quiet (exact hcall1 _)
       go_wp2
       go_ret
       exact ⟨ret_bool (usesS_bad k hlt (by unfold useAtS; rw [hq]; rfl)).symm, below_over (hbf _)⟩
      | true =>
       rw [hq] at hcall1
       by_cases hk0 : k = 0
       · subst hk0
         have hasc : True := trivial
         subst ha
         simp only [Nat.zero_mul, Nat.add_zero] at hc0 hc1 hc2
         cases hr : inB (gu us 0).role 1 3 with
         | false =>
          rw [hr] at hcall2
          go_wp2
          go_quiet (first | exact hcall1 _ | exact hcall2 _)
          go_wp2
          go_ret
          exact ⟨ret_bool (usesS_bad 0 hlt (by unfold useAtS; rw [hr]; simp)).symm, below_over (hbf _)⟩
         | true =>
          rw [hr] at hcall2
          have hpre : useAtS kind us 0 = amtS kind (gu us 0) := by unfold useAtS; simp [hq, hr]
          have HP : Hid (useAtS kind us 0 = amtS kind (gu us 0)) := hpre
          clear hpre
          go_wp2
          go_quiet (first | exact hcall1 _ | exact hcall2 _)
          clear hcall1 hcall2
          by_cases h3 : (gu us 0).role = 3
          · have h3' : ((gu us 0).role == 3) = true := by simp [h3]
            have h3n : ((gu us 0).role != 3) = false := by simp [h3]
            by_cases h0 : (gu us 0).amount = 0
            · have h0' : ((gu us 0).amount != 0) = false := by simp [h0]
              have hgood : useAtS kind us 0 = true := by rw [HP.out]; simp [amtS, h3, h0]
              have HG : Hid (useAtS kind us 0 = true) := hgood
              clear h3 h0 hgood
              go_wp2
              go_roundw
              case rel => exact ⟨0 + 1, by omega, by first | rfl | go_num, allTo_succ hall HG.out, hbf _⟩
              case measure => simp [intOf]; omega
            · have h0' : ((gu us 0).amount != 0) = true := by simp [h0]
              have hbad : useAtS kind us 0 = false := by rw [HP.out]; simp [amtS, h3, h0]
              have HG : Hid (useAtS kind us 0 = false) := hbad
              clear h3 h0 hbad
              go_wp2
              go_ret
              exact ⟨ret_bool (usesS_bad 0 hlt HG.out).symm, below_over (hbf _)⟩
          · have h3' : ((gu us 0).role == 3) = false := by simp [h3]
            have h3n : ((gu us 0).role != 3) = true := by simp [h3]
            by_cases h1 : kind = 1
            · have h1' : (kind != 1) = false := by simp [h1]
              cases hi : inB (gu us 0).amount 1 1000 with
              | true =>
               have hgood : useAtS kind us 0 = true := by rw [HP.out]; simp [amtS, h3, h1, hi]
               have HG : Hid (useAtS kind us 0 = true) := hgood
               clear h3 h1 hgood
               go_wp2_with (go_at_call 45; refine (l1In_any _ _ _ _).mono ?_; rintro e w' ⟨rfl, rfl⟩; rw [hi])
               go_roundw
               case rel => exact ⟨0 + 1, by omega, by first | rfl | go_num, allTo_succ hall HG.out, hbf _⟩
               case measure => simp [intOf]; omega
              | false =>
               have hbad : useAtS kind us 0 = false := by rw [HP.out]; simp [amtS, h3, h1, hi]
               have HG : Hid (useAtS kind us 0 = false) := hbad
               clear h3 h1 hbad
               go_wp2_with (go_at_call 45; refine (l1In_any _ _ _ _).mono ?_; rintro e w' ⟨rfl, rfl⟩; rw [hi])
               go_ret
               exact ⟨ret_bool (usesS_bad 0 hlt HG.out).symm, below_over (hbf _)⟩
            · have h1' : (kind != 1) = true := by simp [h1]
              have hbad : useAtS kind us 0 = false := by rw [HP.out]; simp [amtS, h3, h1]
              have HG : Hid (useAtS kind us 0 = false) := hbad
              clear h3 h1 hbad
              go_wp2
              go_ret
              exact ⟨ret_bool (usesS_bad 0 hlt HG.out).symm, below_over (hbf _)⟩
       · cases hasc : ltS (gu us (k - 1)).name (gu us k).name with
         | false =>
          obtain ⟨j, rfl⟩ : ∃ j, k = j + 1 := ⟨k - 1, by omega⟩
          obtain ⟨b', o', ha', hb', hd0, -, -⟩ := (hm.later hbw).at (k := j) (by omega)
          subst ha
          simp only [Option.some.injEq, Addr.mk.injEq, and_true] at ha'
          obtain ⟨rfl, rfl⟩ := ha'
          simp only [Nat.add_sub_cancel] at hasc
          have hasc' : Op.bytesLess (gu us j).name.toList (gu us (j + 1)).name.toList = false := hasc
          go_wp2
          go_quiet (first | exact hcall1 _ | exact hcall2 _)
          go_wp2
          go_ret
          exact ⟨ret_bool (usesS_bad (j + 1) hlt (by unfold useAtS; simp [hasc])).symm, below_over (hbf _)⟩
         | true =>
          obtain ⟨j, rfl⟩ : ∃ j, k = j + 1 := ⟨k - 1, by omega⟩
          obtain ⟨b', o', ha', hb', hd0, -, -⟩ := (hm.later hbw).at (k := j) (by omega)
          subst ha
          simp only [Option.some.injEq, Addr.mk.injEq, and_true] at ha'
          obtain ⟨rfl, rfl⟩ := ha'
          simp only [Nat.add_sub_cancel] at hasc
          have hasc' : Op.bytesLess (gu us j).name.toList (gu us (j + 1)).name.toList = true := hasc
          cases hr : inB (gu us (j + 1)).role 1 3 with
          | false =>
           rw [hr] at hcall2
           go_wp2
           go_quiet (first | exact hcall1 _ | exact hcall2 _)
           go_wp2
           go_ret
           exact ⟨ret_bool (usesS_bad (j + 1) hlt (by unfold useAtS; rw [hr]; simp)).symm, below_over (hbf _)⟩
          | true =>
           rw [hr] at hcall2
           have hpre : useAtS kind us (j + 1) = amtS kind (gu us (j + 1)) := by unfold useAtS; simp [hq, hr, hasc]
           have HP : Hid (useAtS kind us (j + 1) = amtS kind (gu us (j + 1))) := hpre
           clear hpre
           go_wp2
           go_quiet (first | exact hcall1 _ | exact hcall2 _)
           clear hcall1 hcall2
           by_cases h3 : (gu us (j + 1)).role = 3
           · have h3' : ((gu us (j + 1)).role == 3) = true := by simp [h3]
             have h3n : ((gu us (j + 1)).role != 3) = false := by simp [h3]
             by_cases h0 : (gu us (j + 1)).amount = 0
             · have h0' : ((gu us (j + 1)).amount != 0) = false := by simp [h0]
               have hgood : useAtS kind us (j + 1) = true := by rw [HP.out]; simp [amtS, h3, h0]
               have HG : Hid (useAtS kind us (j + 1) = true) := hgood
               clear h3 h0 hgood
               go_wp2
               go_roundw
               case rel => exact ⟨(j + 1) + 1, by omega, by first | rfl | go_num, allTo_succ hall HG.out, hbf _⟩
               case measure => simp [intOf]; omega
             · have h0' : ((gu us (j + 1)).amount != 0) = true := by simp [h0]
               have hbad : useAtS kind us (j + 1) = false := by rw [HP.out]; simp [amtS, h3, h0]
               have HG : Hid (useAtS kind us (j + 1) = false) := hbad
               clear h3 h0 hbad
               go_wp2
               go_ret
               exact ⟨ret_bool (usesS_bad (j + 1) hlt HG.out).symm, below_over (hbf _)⟩
           · have h3' : ((gu us (j + 1)).role == 3) = false := by simp [h3]
             have h3n : ((gu us (j + 1)).role != 3) = true := by simp [h3]
             by_cases h1 : kind = 1
             · have h1' : (kind != 1) = false := by simp [h1]
               cases hi : inB (gu us (j + 1)).amount 1 1000 with
               | true =>
                have hgood : useAtS kind us (j + 1) = true := by rw [HP.out]; simp [amtS, h3, h1, hi]
                have HG : Hid (useAtS kind us (j + 1) = true) := hgood
                clear h3 h1 hgood
                go_wp2_with (go_at_call 45; refine (l1In_any _ _ _ _).mono ?_; rintro e w' ⟨rfl, rfl⟩; rw [hi])
                go_roundw
                case rel => exact ⟨(j + 1) + 1, by omega, by first | rfl | go_num, allTo_succ hall HG.out, hbf _⟩
                case measure => simp [intOf]; omega
               | false =>
                have hbad : useAtS kind us (j + 1) = false := by rw [HP.out]; simp [amtS, h3, h1, hi]
                have HG : Hid (useAtS kind us (j + 1) = false) := hbad
                clear h3 h1 hbad
                go_wp2_with (go_at_call 45; refine (l1In_any _ _ _ _).mono ?_; rintro e w' ⟨rfl, rfl⟩; rw [hi])
                go_ret
                exact ⟨ret_bool (usesS_bad (j + 1) hlt HG.out).symm, below_over (hbf _)⟩
             · have h1' : (kind != 1) = true := by simp [h1]
               have hbad : useAtS kind us (j + 1) = false := by rw [HP.out]; simp [amtS, h3, h1]
               have HG : Hid (useAtS kind us (j + 1) = false) := hbad
               clear h3 h1 hbad
               go_wp2
               go_ret
               exact ⟨ret_bool (usesS_bad (j + 1) hlt HG.out).symm, below_over (hbf _)⟩
    · have : k = us.length := by omega
      subst this
      go_wp2
      go_ret
      exact ⟨ret_bool (usesS_good (by omega) hall).symm, hbw⟩

end Go.Proofs.YtfmhkicncgccjaaGreat

