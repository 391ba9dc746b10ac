/- Joined: CdI0, StC. -/
import Derived.Test.YtfmhkicncgccjaaGreatFm24
import Derived.Test.YtfmhkicncgccjaaGreatFm39
import Derived.Deep.RegionHeld3
import Derived.Test.YtfmhkicncgccjaaGreatFm20
import Derived.Test.YtfmhkicncgccjaaGreatFm51
import Derived.Test.YtfmhkicncgccjaaGreatFm42
/- What the program's partAt answers. -/
namespace Go.Proofs.YtfmhkicncgccjaaGreat
open Go.RowKit Go.Sort
set_option linter.unusedSimpArgs false
set_option linter.unusedVariables false

set_option maxHeartbeats 400000 in
theorem partAt1_any (p : Part) (a2 a3 a4 a5 : Option Addr) (c2 c3 c4 c5 : Nat) (bb : Nat) (n : Int) (w : World) (hc : w.cell? ⟨bb, 0, none⟩ = some (.int .i64 n)) (hbb : bb < w.heap.size) :
 Calls Tryz.prog 77 #[partV p a2 a3 a4 a5 c2 c3 c4 c5, .pointer (some ⟨bb, 0, none⟩)] w fun e w' => e = .returned (.bool (p.want.number == n)) ∧ Below w.heap.size w w' := by
 unfold partV
 have hne : bb ≠ w.heap.size := by omega
 go_enter Tryz.func77, Tryz.ntmps77
 go_wp2
 go_ret
 exact ⟨rfl, (Below.refl _ _).alloc (Nat.le_refl _) _⟩

set_option maxHeartbeats 1000000 in
theorem indexFuncP_any (a : Option Addr) (cap : Nat) (ps : List Part) (bb : Nat) (n : Int) (w : World) (hc : w.cell? ⟨bb, 0, none⟩ = some (.int .i64 n)) (hbb : bb < w.heap.size) (hm : PartsAt w a ps) (hl : ps.length ≤ maxLen) :
 Calls Tryz.prog 76 #[.slice a ps.length cap, .func (.func 77) #[] #[.pointer (some ⟨bb, 0, none⟩)]] w fun e w' => e = .returned (.int .i64 (partI ps n)) ∧ Below w.heap.size w w' := by
 unfold maxLen at hl
 go_enter Tryz.func76, Tryz.ntmps76
 go_wp2
 go_loopw [5, 8] (fun _ i wr => ∃ (k : Nat), k ≤ ps.length ∧ i = .int .i64 k ∧ allTo k (fun i => !((gq ps i).want.number == n)) = true ∧ Below w.heap.size w wr) (fun _ i _ => ps.length - (intOf i).toNat)
 case atStart => exact ⟨0, Nat.zero_le _, rfl, rfl, Below.refl _ _⟩
 case round wr =>
  obtain ⟨k, hk, rfl, hall, hbel⟩ := hrel
  by_cases hlt : k < ps.length
  · obtain ⟨b, o, a2, a3, a4, a5, c2, c3, c4, c5, ha, hb, hc0, hc1, hc2, hc3, hc4, hc5, hc6, -⟩ := (hm.later hbel).at hlt
    subst ha
    have hpc := cell_later hbel hc
    have hbb2 := Nat.lt_of_lt_of_le hbb hbel.size
    go_wp2_with fail
    refine (partAt1_any (gq ps k) a2 a3 a4 a5 c2 c3 c4 c5 bb n _ hpc hbb2).mono ?_
    rintro e w1 ⟨rfl, hb1⟩
    have hb2 := hbel.trans (hb1.mono hbel.size)
    clear hc0 hc1 hc2 hc3 hc4 hc5 hc6
    cases hq : (gq ps k).want.number == n with
    | true =>
     go_wp2
     go_ret
     exact ⟨ret_int (partI_hit hlt hall hq).symm, hb2⟩
    | false =>
     go_wp2
     go_roundw
     case rel => exact ⟨k + 1, by omega, by go_num, allTo_succ hall (by simp [hq]), hb2⟩
     case measure => simp [intOf]; omega
  · go_wp2
    go_ret
    have : k = ps.length := by omega
    subst this
    exact ⟨ret_int (partI_none hall).symm, hbel⟩

set_option maxHeartbeats 1000000 in
theorem partAt_any (a : Option Addr) (cap : Nat) (ps : List Part) (n : Int) (w : World) (hm : PartsAt w a ps) (hl : ps.length ≤ maxLen) :
 Calls Tryz.prog 34 #[.slice a ps.length cap, .int .i64 n] w fun e w' => e = .returned (.int .i64 (partI ps n)) ∧ Below w.heap.size w w' := by
 have b0 : Below w.heap.size w (w.alloc (.cells #[.int .i64 n] 3)) := (Below.refl _ _).alloc (Nat.le_refl _) _
 have i0 := Row.new w 3 [.int .i64 n]
 go_enter Tryz.func34, Tryz.ntmps34
 go_wp2_with fail
 refine (indexFuncP_any a cap ps w.heap.size n _ (i0.cell 0 rfl) i0.lt (hm.later b0) hl).mono ?_
 rintro e w1 ⟨rfl, hb⟩
 go_wp2
 go_ret
 exact ⟨rfl, b0.trans (hb.mono b0.size)⟩

end Go.Proofs.YtfmhkicncgccjaaGreat

/- What the program's stopCode, ClaimStop's change and behind answer. -/
namespace Go.Proofs.YtfmhkicncgccjaaGreat
open Go.RowKit Go.Sort
set_option linter.unusedSimpArgs false
set_option linter.unusedVariables false

set_option maxHeartbeats 2000000 in
theorem stopCode_any (x : Book) (af ap av aq : Option Addr) (cf cp cv cq : Nat) (n : Int) (w : World) (hin : BookIn w x af ap av aq) (fx : BookFit x) :
 Calls Tryz.prog 32 #[bookV x af ap av aq cf cp cv cq, .int .i64 n] w fun e w' => e = .returned (.int .i64 (stopC x n)) ∧ Below w.heap.size w w' := by
 unfold bookV
 have b0 : Below w.heap.size w (w.alloc (.cells #[.slice af x.foes.length cf, .slice ap x.spots.length cp, .slice av x.valves.length cv, .slice aq x.parts.length cq, .int .i64 x.seen] 28)) := (Below.refl _ _).alloc (Nat.le_refl _) _
 have i0 := Row.new w 28 [.slice af x.foes.length cf, .slice ap x.spots.length cp, .slice av x.valves.length cv, .slice aq x.parts.length cq, .int .i64 x.seen]
 go_enter Tryz.func32, Tryz.ntmps32
 go_wp2_with fail
 refine (implBookOk_any x af ap av aq cf cp cv cq _ (hin.later b0) fx).mono ?_
 rintro e w1 ⟨rfl, hb⟩
 have b1 := b0.trans (hb.mono b0.size)
 have i1 := i0.later hb
 clear b0 i0 hb
 have g3 := i1.cell 3 rfl
 cases hB : bookB x with
 | false =>
  have HE : Hid (stopC x n = 1) := (by simp [stopC, hB] : stopC x n = 1)
  go_wp2
  go_ret
  exact ⟨ret_int HE.out.symm, b1⟩
 | true =>
  go_wp2_with fail
  refine (partAt_any aq cq x.parts n _ (hin.later b1).parts fx.parts.1).mono ?_
  rintro e w2 ⟨rfl, hb⟩
  have b2 := b1.trans (hb.mono b1.size)
  clear b1 i1 hb g3
  rcases partI_cases x.parts n with ⟨hp, -⟩ | ⟨j, hj, hp, -⟩
  · have HE : Hid (stopC x n = 3) := (by simp [stopC, hB, hp] : stopC x n = 3)
    rw [hp]
    clear hp
    go_wp2
    go_ret
    exact ⟨ret_int HE.out.symm, b2⟩
  · have HE : Hid (stopC x n = 0) := (by simp [stopC, hB, hp] : stopC x n = 0)
    rw [hp]
    clear hp
    have hj1 : ¬ (j : Int) < 0 := by omega
    go_wp2
    go_ret
    exact ⟨ret_int HE.out.symm, b2⟩

set_option maxRecDepth 100000 in
set_option maxHeartbeats 2000000 in
theorem stopChange_any (ps : List Part) (B nb b cap j : Nat) (n : Int) (w : World) (hp : PartsAt w (some ⟨b, 0, none⟩) ps) (hl : ps.length ≤ maxLen) (h3 : w.cell? ⟨B, 3, none⟩ = some (.slice (some ⟨b, 0, none⟩) ps.length cap)) (hn : w.cell? ⟨nb, 0, none⟩ = some (.int .i64 n))
 (hj : j < ps.length) (hi : partI ps n = (j : Int)) (v6 : Value) (h6 : w.cell? ⟨b, j * 7 + 6, none⟩ = some v6) (f6 : w.frozen? ⟨b, j * 7 + 6, none⟩ = false) (hbB : b ≠ B) (hbn : b ≠ nb) :
 Calls Tryz.prog 33 #[.pointer (some ⟨B, 0, none⟩), .pointer (some ⟨nb, 0, none⟩)] w fun e w' => e = .returned (.tuple #[]) ∧ ∃ w1, Below w.heap.size w w1 ∧ w' = w1.setCell ⟨b, j * 7 + 6, none⟩ (.bool true) := by
 have hj2 : (j : Int) < ps.length := by omega
 have hj0 : (0 : Int) ≤ j := by omega
 have hbl := block_lt_of_cell h6
 dsimp only at hbl
 have hS : ∀ W, Below w.heap.size w W → (W.cell? ⟨B, 3, none⟩ = some (.slice (some ⟨b, 0, none⟩) ps.length cap) ∧ W.cell? ⟨nb, 0, none⟩ = some (.int .i64 n)) := fun W h => ⟨cell_later h h3, cell_later h hn⟩
 have hS2 : ∀ W v, Below w.heap.size w W → ((W.setCell ⟨b, j * 7 + 6, none⟩ v).cell? ⟨B, 3, none⟩ = some (.slice (some ⟨b, 0, none⟩) ps.length cap) ∧ (W.setCell ⟨b, j * 7 + 6, none⟩ v).cell? ⟨nb, 0, none⟩ = some (.int .i64 n)) := fun W v h =>
  ⟨(World.cell?_of_block (w := W) (Go.Deep.blk_setCell_other _ _ _ _ (fun e => hbB e.symm))).trans (cell_later h h3), (World.cell?_of_block (w := W) (Go.Deep.blk_setCell_other _ _ _ _ (fun e => hbn e.symm))).trans (cell_later h hn)⟩
 have hPart : ∀ W, Below w.heap.size w W → Calls Tryz.prog 34 #[.slice (some ⟨b, 0, none⟩) ps.length cap, .int .i64 n] W fun e w' => e = .returned (.int .i64 j) ∧ Below W.heap.size W w' := fun W h => by
  have := partAt_any (some ⟨b, 0, none⟩) cap ps n W (hp.later h) hl
  rw [hi] at this
  exact this
 have HI : Hid (partI ps n = (j : Int)) := hi
 clear hi hp
 go_enter Tryz.func33, Tryz.ntmps33
 go_wp2_with fail
 go_region_held3 (fun W => (W.cell? ⟨B, 3, none⟩ = some (.slice (some ⟨b, 0, none⟩) ps.length cap) ∧ W.cell? ⟨nb, 0, none⟩ = some (.int .i64 n)))
  (first | (with_reducible refine hS2 _ _ ?_; (repeat (first | assumption | exact Below.refl _ _ | refine Below.drew ?_)); done) | (refine hS _ ?_; (repeat (first | assumption | exact Below.refl _ _ | refine Below.drew ?_)); done))
  (first | (go_at_call 34; refine (hPart _ (by (repeat (first | assumption | exact Below.refl _ _ | refine Below.drew ?_)))).mono ?_; rintro e w1 ⟨rfl, hb⟩; have hb1 : RowKit.Below w.heap.size w w1 := (by refine Below.trans ?_ (Below.mono hb (Nat.le_refl _)); (repeat (first | assumption | exact Below.refl _ _ | refine Below.drew ?_))); have h61 := cell_later hb1 h6; have f61 : w1.frozen? ⟨b, j * 7 + 6, none⟩ = false := (by rw [hb1.frozen (p := ⟨b, j * 7 + 6, none⟩) hbl]; exact f6)))
 all_goals
  rename_i hHeld
  clear hHeld hS hS2 hPart
  go_wp2
  refine bodyPost_end (results_none rfl _ _ _) rfl ?_
  exact ⟨rfl, w1, hb1, rfl⟩

end Go.Proofs.YtfmhkicncgccjaaGreat

