/- Joined: OvB. -/
import Derived.Test.YtfmhkicncgccjaaGreatFm20
import Derived.Test.YtfmhkicncgccjaaGreatFm10
/- What the specification's l4Moved and l4Settle answer. -/
namespace Go.Proofs.YtfmhkicncgccjaaGreat
open Go.RowKit Go.Sort
set_option linter.unusedSimpArgs false
set_option linter.unusedVariables false

set_option maxRecDepth 100000 in
set_option maxHeartbeats 2000000 in
theorem l4Moved_any (y : Want) (a2 a3 a4 a5 : Option Addr) (c2 c3 c4 c5 : Nat) (moved : Int) (w : World) (hm : UsesAt w a3 y.uses) (hl : y.uses.length ≤ maxLen) :
 Calls Tryz.prog 162 #[wantW y a2 a3 a4 a5 c2 c3 c4 c5, .int .i64 moved] w fun e w' => e = .returned (.bool (movedB y moved)) ∧ Below w.heap.size w w' := by
 unfold maxLen at hl
 unfold wantW
 by_cases hneg : moved < 0
 · have e : movedB y moved = false := by unfold movedB; rw [decide_eq_false (by omega)]; rfl
   rw [e]
   go_enter Tryz.func162, Tryz.ntmps162
   go_wp2
   go_ret
   exact ⟨rfl, (Below.refl _ _).alloc (Nat.le_refl _) _⟩
 · obtain ⟨W0, hW0⟩ : ∃ W, W = w.alloc (.cells #[.int .i64 y.number, .int .i64 y.kind, .slice a2 y.stuffs.length c2, .slice a3 y.uses.length c3, .slice a4 y.opens.length c4, .slice a5 y.shuts.length c5] 38) := ⟨_, rfl⟩
   have b0 : Below w.heap.size w W0 := by rw [hW0]; exact (Below.refl _ _).alloc (Nat.le_refl _) _
   have n0 : Row W0 w.heap.size 38 [.int .i64 y.number, .int .i64 y.kind, .slice a2 y.stuffs.length c2, .slice a3 y.uses.length c3, .slice a4 y.opens.length c4, .slice a5 y.shuts.length c5] := by rw [hW0]; exact Row.new _ _ _
   have hm0 := hm.later b0
   have q3 := n0.cell 3 rfl
   have hG : ∀ k, k < y.uses.length → allTo k (fun i => (gu y.uses i).role == 3 || decide (moved ≤ (gu y.uses i).amount)) = true → (gu y.uses k).role ≠ 3 → (gu y.uses k).amount < moved → movedB y moved = false := fun k hk _ h1 h2 => by
    unfold movedB
    rw [allTo_false k hk (by simp [h1]; omega), Bool.and_false]
   have hT : allTo y.uses.length (fun i => (gu y.uses i).role == 3 || decide (moved ≤ (gu y.uses i).amount)) = true → movedB y moved = true := fun h => by
    unfold movedB
    rw [h, decide_eq_true (by omega)]; rfl
   generalize movedB y moved = r at hG hT ⊢
   go_enter Tryz.func162, Tryz.ntmps162
   go_wp2_with fail
   rw [← hW0]
   clear hW0
   go_loopw [5] (fun i wr => ∃ (k : Nat) (X : World), X = wr ∧ X = W0 ∧ k ≤ y.uses.length ∧ i = .int .i64 k ∧ allTo k (fun i => (gu y.uses i).role == 3 || decide (moved ≤ (gu y.uses i).amount)) = true) (fun i _ => y.uses.length - (intOf i).toNat)
   case atStart => exact ⟨0, _, rfl, rfl, Nat.zero_le _, rfl, rfl⟩
   case round =>
    obtain ⟨k, X, rfl, hX, hk, rfl, hall⟩ := hrel
    subst hX
    have HA : Hid (allTo k (fun i => (gu y.uses i).role == 3 || decide (moved ≤ (gu y.uses i).amount)) = true) := hall
    clear hall
    by_cases hlt : k < y.uses.length
    · obtain ⟨bu, ou, ha, hbu, hc0, hc1, hc2⟩ := hm0.at hlt
      subst ha
      have hlt2 : (k : Int) < y.uses.length := by omega
      have hk0 : (0 : Int) ≤ k := by omega
      by_cases e3 : (gu y.uses k).role = 3
      · have e3b : ((gu y.uses k).role != 3) = false := by simp [e3]
        have HN := allTo_succ HA.out (by simp [e3])
        have HN' : Hid _ := HN
        clear HN hT hG e3
        go_wp2
        go_roundw
        case rel => exact ⟨k + 1, _, rfl, rfl, by omega, by go_num, HN'.out⟩
        case measure => simp [intOf]; omega
      · have e3b : ((gu y.uses k).role != 3) = true := by simp [e3]
        by_cases hgt : (gu y.uses k).amount < moved
        · have HE : Hid (r = false) := hG k hlt HA.out e3 hgt
          clear hG hT e3
          go_wp2
          go_ret
          exact ⟨by rw [HE.out]; rfl, b0⟩
        · have HN := allTo_succ HA.out (by simp [e3]; omega)
          have HN' : Hid _ := HN
          clear HN hT hG e3
          go_wp2
          go_roundw
          case rel => exact ⟨k + 1, _, rfl, rfl, by omega, by go_num, HN'.out⟩
          case measure => simp [intOf]; omega
    · have hke : k = y.uses.length := by omega
      have hlt2 : ¬ (k : Int) < y.uses.length := by omega
      have HE : Hid (r = true) := hT (hke ▸ HA.out)
      clear hG hT
      go_wp2
      go_ret
      exact ⟨by rw [HE.out]; rfl, b0⟩

set_option maxRecDepth 100000 in
set_option maxHeartbeats 2000000 in
theorem l4Settle_own (s : Spot) (m : Option Addr) (c : Nat) (y : Want) (a2 a3 a4 a5 : Option Addr) (c2 c3 c4 c5 : Nat) (u : Use) (moved : Int) (done : Bool) (w : World) (ho : OwnL w 9 1 m s.may.length (strF s.may)) (hc : s.may.length ≤ c) (hl : Lv 100000 s) (ha : 0 ≤ u.amount ∧ u.amount ≤ 1000) (hv : 0 ≤ moved) (hu : u.role = 3 ∨ moved ≤ u.amount) :
 Calls Tryz.prog 163 #[spotV s m c, wantW y a2 a3 a4 a5 c2 c3 c4 c5, useV u, .int .i64 moved, .bool done] w fun e w' => (∃ m' c', e = .returned (spotV (settleS y.kind moved done s u) m' c') ∧ OwnL w' 9 1 m' (settleS y.kind moved done s u).may.length (strF (settleS y.kind moved done s u).may) ∧ (settleS y.kind moved done s u).may.length ≤ c' ∧ ∀ q, InSlot m' (settleS y.kind moved done s u).may.length q → InSlot m s.may.length q) ∧ Below w.heap.size w w' := by
 unfold Lv at hl
 have key : ∀ (ls ms : Int) (l : List ByteArray), settleS y.kind moved done s u = ⟨s.name, s.cap, ls, ms, l⟩ → True := fun _ _ _ _ => trivial
 have hw1 : u.role = 1 → wrap64 (s.least + u.amount) = s.least + u.amount ∧ wrap64 (s.least + u.amount - moved) = s.least + u.amount - moved ∧ wrap64 (s.most - moved) = s.most - moved := fun h => by
  have : moved ≤ u.amount := hu.elim (fun h' => by omega) id
  unfold wrap64; omega
 have hw2 : u.role = 2 → wrap64 (s.least + moved) = s.least + moved ∧ wrap64 (s.most - u.amount) = s.most - u.amount ∧ wrap64 (s.most - u.amount + moved) = s.most - u.amount + moved := fun h => by
  have : moved ≤ u.amount := hu.elim (fun h' => by omega) id
  unfold wrap64; omega
 clear hl ha hv hu key
 by_cases hk : y.kind = 2
 · cases done with
   | true =>
    by_cases e1 : u.role = 1
    · have hg : settleS y.kind moved true s u = ⟨s.name, s.cap, (s.least + u.amount - moved), (s.most - moved), []⟩ := by unfold settleS; simp [e1, hk]
      have e1b : (u.role == 1) = true := by simp [e1]
      have e2b : (u.role == 2) = false := by simp [e1]
      obtain ⟨g1, g2, g3⟩ := hw1 e1
      have ek : (y.kind == 2) = true := by simp [hk]
      rw [hg]
      dsimp only
      unfold spotV wantW useV
      have OW : Hid _ := And.intro ho hc
      clear hw1 hw2 hg e1 hk ho hc
      go_enter Tryz.func163, Tryz.ntmps163
      go_wp2
      refine bodyPost_ret (v := .agg #[.string s.name, .int .i64 s.cap, .int .i64 (s.least + u.amount - moved), .int .i64 (s.most - moved), .slice (some ⟨w.heap.size + 1 + 1 + 1 + 1, 0, none⟩) 0 0])
       (by simp [results, Tryz.results163, go_sem]) rfl ⟨⟨_, 0, rfl, Or.inl rfl, Nat.le_refl _, fun q hq => absurd rfl hq.1⟩, ?_⟩
      exact (((((Below.refl _ _).alloc (Nat.le_refl _) _).alloc (by simp) _).alloc (by simp; omega) _).alloc (by simp; omega) _).alloc (by simp; omega) _
    · by_cases e2 : u.role = 2
      · have hg : settleS y.kind moved true s u = ⟨s.name, s.cap, (s.least + moved), (s.most - u.amount + moved), []⟩ := by unfold settleS; simp [e1, e2, hk]
        have e1b : (u.role == 1) = false := by simp [e1]
        have e2b : (u.role == 2) = true := by simp [e2]
        obtain ⟨g1, g2, g3⟩ := hw2 e2
        have ek : (y.kind == 2) = true := by simp [hk]
        rw [hg]
        dsimp only
        unfold spotV wantW useV
        have OW : Hid _ := And.intro ho hc
        clear hw1 hw2 hg e1 hk ho hc e2
        go_enter Tryz.func163, Tryz.ntmps163
        go_wp2
        refine bodyPost_ret (v := .agg #[.string s.name, .int .i64 s.cap, .int .i64 (s.least + moved), .int .i64 (s.most - u.amount + moved), .slice (some ⟨w.heap.size + 1 + 1 + 1 + 1, 0, none⟩) 0 0])
         (by simp [results, Tryz.results163, go_sem]) rfl ⟨⟨_, 0, rfl, Or.inl rfl, Nat.le_refl _, fun q hq => absurd rfl hq.1⟩, ?_⟩
        exact (((((Below.refl _ _).alloc (Nat.le_refl _) _).alloc (by simp) _).alloc (by simp; omega) _).alloc (by simp; omega) _).alloc (by simp; omega) _
      · have hg : settleS y.kind moved true s u = ⟨s.name, s.cap, s.least, s.most, []⟩ := by unfold settleS; simp [e1, e2, hk]
        have e1b : (u.role == 1) = false := by simp [e1]
        have e2b : (u.role == 2) = false := by simp [e2]
        have ek : (y.kind == 2) = true := by simp [hk]
        rw [hg]
        dsimp only
        unfold spotV wantW useV
        have OW : Hid _ := And.intro ho hc
        clear hw1 hw2 hg e1 hk ho hc e2
        go_enter Tryz.func163, Tryz.ntmps163
        go_wp2
        refine bodyPost_ret (v := .agg #[.string s.name, .int .i64 s.cap, .int .i64 s.least, .int .i64 s.most, .slice (some ⟨w.heap.size + 1 + 1 + 1 + 1, 0, none⟩) 0 0])
         (by simp [results, Tryz.results163, go_sem]) rfl ⟨⟨_, 0, rfl, Or.inl rfl, Nat.le_refl _, fun q hq => absurd rfl hq.1⟩, ?_⟩
        exact (((((Below.refl _ _).alloc (Nat.le_refl _) _).alloc (by simp) _).alloc (by simp; omega) _).alloc (by simp; omega) _).alloc (by simp; omega) _
   | false =>
    by_cases e1 : u.role = 1
    · have hg : settleS y.kind moved false s u = ⟨s.name, s.cap, (s.least + u.amount - moved), (s.most - moved), s.may⟩ := by unfold settleS; simp [e1, hk]
      have e1b : (u.role == 1) = true := by simp [e1]
      have e2b : (u.role == 2) = false := by simp [e1]
      obtain ⟨g1, g2, g3⟩ := hw1 e1
      have ek : (y.kind == 2) = true := by simp [hk]
      rw [hg]
      dsimp only
      unfold spotV wantW useV
      have OW : Hid _ := And.intro ho hc
      clear hw1 hw2 hg e1 hk ho hc
      go_enter Tryz.func163, Tryz.ntmps163
      go_wp2
      refine bodyPost_ret (v := .agg #[.string s.name, .int .i64 s.cap, .int .i64 (s.least + u.amount - moved), .int .i64 (s.most - moved), .slice m s.may.length c])
       (by simp [results, Tryz.results163, go_sem]) rfl ⟨⟨m, c, rfl, OW.out.1.later ?_, OW.out.2, fun q hq => hq⟩, ?_⟩
      · exact ((((Below.refl _ _).alloc (Nat.le_refl _) _).alloc (by simp) _).alloc (by simp; omega) _).alloc (by simp; omega) _
      · exact ((((Below.refl _ _).alloc (Nat.le_refl _) _).alloc (by simp) _).alloc (by simp; omega) _).alloc (by simp; omega) _
    · by_cases e2 : u.role = 2
      · have hg : settleS y.kind moved false s u = ⟨s.name, s.cap, (s.least + moved), (s.most - u.amount + moved), s.may⟩ := by unfold settleS; simp [e1, e2, hk]
        have e1b : (u.role == 1) = false := by simp [e1]
        have e2b : (u.role == 2) = true := by simp [e2]
        obtain ⟨g1, g2, g3⟩ := hw2 e2
        have ek : (y.kind == 2) = true := by simp [hk]
        rw [hg]
        dsimp only
        unfold spotV wantW useV
        have OW : Hid _ := And.intro ho hc
        clear hw1 hw2 hg e1 hk ho hc e2
        go_enter Tryz.func163, Tryz.ntmps163
        go_wp2
        refine bodyPost_ret (v := .agg #[.string s.name, .int .i64 s.cap, .int .i64 (s.least + moved), .int .i64 (s.most - u.amount + moved), .slice m s.may.length c])
         (by simp [results, Tryz.results163, go_sem]) rfl ⟨⟨m, c, rfl, OW.out.1.later ?_, OW.out.2, fun q hq => hq⟩, ?_⟩
        · exact ((((Below.refl _ _).alloc (Nat.le_refl _) _).alloc (by simp) _).alloc (by simp; omega) _).alloc (by simp; omega) _
        · exact ((((Below.refl _ _).alloc (Nat.le_refl _) _).alloc (by simp) _).alloc (by simp; omega) _).alloc (by simp; omega) _
      · have hg : settleS y.kind moved false s u = ⟨s.name, s.cap, s.least, s.most, s.may⟩ := by unfold settleS; simp [e1, e2, hk]
        have e1b : (u.role == 1) = false := by simp [e1]
        have e2b : (u.role == 2) = false := by simp [e2]
        have ek : (y.kind == 2) = true := by simp [hk]
        rw [hg]
        dsimp only
        unfold spotV wantW useV
        have OW : Hid _ := And.intro ho hc
        clear hw1 hw2 hg e1 hk ho hc e2
        go_enter Tryz.func163, Tryz.ntmps163
        go_wp2
        refine bodyPost_ret (v := .agg #[.string s.name, .int .i64 s.cap, .int .i64 s.least, .int .i64 s.most, .slice m s.may.length c])
         (by simp [results, Tryz.results163, go_sem]) rfl ⟨⟨m, c, rfl, OW.out.1.later ?_, OW.out.2, fun q hq => hq⟩, ?_⟩
        · exact ((((Below.refl _ _).alloc (Nat.le_refl _) _).alloc (by simp) _).alloc (by simp; omega) _).alloc (by simp; omega) _
        · exact ((((Below.refl _ _).alloc (Nat.le_refl _) _).alloc (by simp) _).alloc (by simp; omega) _).alloc (by simp; omega) _
 · by_cases e1 : u.role = 1
   · have hg : settleS y.kind moved done s u = ⟨s.name, s.cap, (s.least + u.amount - moved), (s.most - moved), s.may⟩ := by unfold settleS; simp [e1, hk]
     have e1b : (u.role == 1) = true := by simp [e1]
     have e2b : (u.role == 2) = false := by simp [e1]
     obtain ⟨g1, g2, g3⟩ := hw1 e1
     have ek : (y.kind == 2) = false := by simp [hk]
     rw [hg]
     dsimp only
     unfold spotV wantW useV
     have OW : Hid _ := And.intro ho hc
     clear hw1 hw2 hg e1 hk ho hc
     go_enter Tryz.func163, Tryz.ntmps163
     cases done <;> go_wp2
     all_goals
      refine bodyPost_ret (v := .agg #[.string s.name, .int .i64 s.cap, .int .i64 (s.least + u.amount - moved), .int .i64 (s.most - moved), .slice m s.may.length c])
       (by simp [results, Tryz.results163, go_sem]) rfl ⟨⟨m, c, rfl, OW.out.1.later ?_, OW.out.2, fun q hq => hq⟩, ?_⟩
      · exact ((((Below.refl _ _).alloc (Nat.le_refl _) _).alloc (by simp) _).alloc (by simp; omega) _).alloc (by simp; omega) _
      · exact ((((Below.refl _ _).alloc (Nat.le_refl _) _).alloc (by simp) _).alloc (by simp; omega) _).alloc (by simp; omega) _
   · by_cases e2 : u.role = 2
     · have hg : settleS y.kind moved done s u = ⟨s.name, s.cap, (s.least + moved), (s.most - u.amount + moved), s.may⟩ := by unfold settleS; simp [e1, e2, hk]
       have e1b : (u.role == 1) = false := by simp [e1]
       have e2b : (u.role == 2) = true := by simp [e2]
       obtain ⟨g1, g2, g3⟩ := hw2 e2
       have ek : (y.kind == 2) = false := by simp [hk]
       rw [hg]
       dsimp only
       unfold spotV wantW useV
       have OW : Hid _ := And.intro ho hc
       clear hw1 hw2 hg e1 hk ho hc e2
       go_enter Tryz.func163, Tryz.ntmps163
       cases done <;> go_wp2
       all_goals
        refine bodyPost_ret (v := .agg #[.string s.name, .int .i64 s.cap, .int .i64 (s.least + moved), .int .i64 (s.most - u.amount + moved), .slice m s.may.length c])
         (by simp [results, Tryz.results163, go_sem]) rfl ⟨⟨m, c, rfl, OW.out.1.later ?_, OW.out.2, fun q hq => hq⟩, ?_⟩
        · exact ((((Below.refl _ _).alloc (Nat.le_refl _) _).alloc (by simp) _).alloc (by simp; omega) _).alloc (by simp; omega) _
        · exact ((((Below.refl _ _).alloc (Nat.le_refl _) _).alloc (by simp) _).alloc (by simp; omega) _).alloc (by simp; omega) _
     · have hg : settleS y.kind moved done s u = ⟨s.name, s.cap, s.least, s.most, s.may⟩ := by unfold settleS; simp [e1, e2, hk]
       have e1b : (u.role == 1) = false := by simp [e1]
       have e2b : (u.role == 2) = false := by simp [e2]
       have ek : (y.kind == 2) = false := by simp [hk]
       rw [hg]
       dsimp only
       unfold spotV wantW useV
       have OW : Hid _ := And.intro ho hc
       clear hw1 hw2 hg e1 hk ho hc e2
       go_enter Tryz.func163, Tryz.ntmps163
       cases done <;> go_wp2
       all_goals
        refine bodyPost_ret (v := .agg #[.string s.name, .int .i64 s.cap, .int .i64 s.least, .int .i64 s.most, .slice m s.may.length c])
         (by simp [results, Tryz.results163, go_sem]) rfl ⟨⟨m, c, rfl, OW.out.1.later ?_, OW.out.2, fun q hq => hq⟩, ?_⟩
        · exact ((((Below.refl _ _).alloc (Nat.le_refl _) _).alloc (by simp) _).alloc (by simp; omega) _).alloc (by simp; omega) _
        · exact ((((Below.refl _ _).alloc (Nat.le_refl _) _).alloc (by simp) _).alloc (by simp; omega) _).alloc (by simp; omega) _

end Go.Proofs.YtfmhkicncgccjaaGreat

