/- The law FnExactClaimBookOk, walked: it returns true. -/
import Derived.Test.YtfmhkicncgccjaaGreatBkR
import Derived.Test.YtfmhkicncgccjaaGreatBkEq
import Derived.Test.YtfmhkicncgccjaaGreatBkToD
import Derived.Deep.RegionWith
namespace Go.Proofs.YtfmhkicncgccjaaGreat
open Go.RowKit Go.Sort
set_option linter.unusedSimpArgs false
set_option linter.unusedVariables false

set_option maxRecDepth 100000 in
set_option maxHeartbeats 4000000 in
theorem bookLaw_any (x : Book) (af ap av aq : Option Addr) (cf cp cv cq : Nat) (w : World) (hin : BookIn w x af ap av aq) (hf : BookFit x) :
    Calls Tryz.prog 4 #[bookV x af ap av aq cf cp cv cq] w fun e w' => e = .returned (.bool true) ∧ Below w.heap.size w w' := by
  have HB0 : Below (w.alloc (.cells #[.slice af x.foes.length cf, .slice ap x.spots.length cp, .slice av x.valves.length cv, .slice aq x.parts.length cq, .int .i64 x.seen] 49)).heap.size (w.alloc (.cells #[.slice af x.foes.length cf, .slice ap x.spots.length cp, .slice av x.valves.length cv, .slice aq x.parts.length cq, .int .i64 x.seen] 49)) (w.alloc (.cells #[.slice af x.foes.length cf, .slice ap x.spots.length cp, .slice av x.valves.length cv, .slice aq x.parts.length cq, .int .i64 x.seen] 49)) := Below.refl _ _
  unfold bookV
  go_enter Tryz.func4, Tryz.ntmps4
  go_wp2_with fail
  refine (szClaimBook_any x af ap av aq cf cp cv cq 1048576 _ (hin.later (below_over HB0)) hf (by omega) (by omega)).mono ?_
  rintro e w1 ⟨⟨r1, rfl, hr1, hr1', hR1⟩, hb⟩
  have HB1 := HB0.trans (hb.mono HB0.size)
  have bk := bookRow HB1
  have hz := bk.lt
  have y0 := bk.cell 0 rfl
  have y1 := bk.cell 1 rfl
  have y2 := bk.cell 2 rfl
  have y3 := bk.cell 3 rfl
  have y4 := bk.cell 4 rfl
  clear hb HB0
  by_cases hn1 : r1 < 0
  · go_wp2
    go_ret
    exact ⟨rfl, below_over HB1⟩
  have R := hR1 (by omega)
  clear hR1
  go_wp2_with fail
  refine (toClaimBook_any x af ap av aq cf cp cv cq _ (hin.later (below_over HB1)) R).mono ?_
  rintro e w2 ⟨⟨b0, b1, b2, b3, rfl, fr2⟩, hb⟩
  have in2 := fr2.in_
  have HB2 := HB1.trans (hb.mono HB1.size)
  clear y0 y1 y2 y3 y4 hz bk
  have bk := bookRow HB2
  have hz := bk.lt
  have y0 := bk.cell 0 rfl
  have y1 := bk.cell 1 rfl
  have y2 := bk.cell 2 rfl
  have y3 := bk.cell 3 rfl
  have y4 := bk.cell 4 rfl
  clear hb HB1 fr2
  go_wp2_with fail
  refine (specBookOk_any x _ _ _ _ _ _ _ _ _ in2 hf).mono ?_
  rintro e w3 ⟨rfl, hb⟩
  have HB3 := HB2.trans (hb.mono HB2.size)
  clear y0 y1 y2 y3 y4 hz bk
  have bk := bookRow HB3
  have hz := bk.lt
  have y0 := bk.cell 0 rfl
  have y1 := bk.cell 1 rfl
  have y2 := bk.cell 2 rfl
  have y3 := bk.cell 3 rfl
  have y4 := bk.cell 4 rfl
  clear hb HB2 in2
  go_wp2_with fail
  refine (toClaimBook_any x af ap av aq cf cp cv cq _ (hin.later (below_over HB3)) R).mono ?_
  rintro e w4 ⟨⟨f0, f1, f2, f3, rfl, fr4⟩, hb⟩
  have in4 := fr4.in_
  have HB4 := HB3.trans (hb.mono HB3.size)
  clear y0 y1 y2 y3 y4 hz bk
  have bk := bookRow HB4
  have hz := bk.lt
  have y0 := bk.cell 0 rfl
  have y1 := bk.cell 1 rfl
  have y2 := bk.cell 2 rfl
  have y3 := bk.cell 3 rfl
  have y4 := bk.cell 4 rfl
  clear hb HB3 fr4
  have x4 := Row.new w4 28 [.slice (some ⟨f0, 0, none⟩) x.foes.length x.foes.length, .slice (some ⟨f1, 0, none⟩) x.spots.length x.spots.length, .slice (some ⟨f2, 0, none⟩) x.valves.length x.valves.length, .slice (some ⟨f3, 0, none⟩) x.parts.length x.parts.length, .int .i64 x.seen]
  have v4 : Below w4.heap.size w4 (w4.alloc (.cells #[.slice (some ⟨f0, 0, none⟩) x.foes.length x.foes.length, .slice (some ⟨f1, 0, none⟩) x.spots.length x.spots.length, .slice (some ⟨f2, 0, none⟩) x.valves.length x.valves.length, .slice (some ⟨f3, 0, none⟩) x.parts.length x.parts.length, .int .i64 x.seen] 28)) := (Below.refl _ _).alloc (Nat.le_refl _) _
  have HB4' := HB4.trans (v4.mono HB4.size)
  have in4' := in4.later v4
  unfold bookV
  go_wp2_with fail
  refine (implBookOk_any x _ _ _ _ _ _ _ _ _ in4' hf).mono ?_
  rintro e w5 ⟨rfl, hb⟩
  have HB5 := HB4'.trans (hb.mono HB4'.size)
  have x5 := x4.later hb
  have in5 := in4'.later hb
  clear y0 y1 y2 y3 y4 hz bk x4 v4 HB4' in4' in4 HB4 hb
  have bk := bookRow HB5
  have hz := bk.lt
  have y0 := bk.cell 0 rfl
  have y1 := bk.cell 1 rfl
  have y2 := bk.cell 2 rfl
  have y3 := bk.cell 3 rfl
  have y4 := bk.cell 4 rfl
  have z0 := x5.cell 0 rfl
  have z1 := x5.cell 1 rfl
  have z2 := x5.cell 2 rfl
  have z3 := x5.cell 3 rfl
  have z4 := x5.cell 4 rfl
  have hbn : (bookB x != bookB x) = false := by simp
  go_wp2_with fail
  go_region_with (first
    | (go_at_call 20
       refine (toClaimBook_any x af ap av aq cf cp cv cq _ (hin.later (below_over (below_drewN HB5 _))) R).mono ?_
       rintro e w6 ⟨⟨g0, g1, g2, g3, rfl, fr6⟩, hb6⟩
       have in6 := fr6.in_
       obtain ⟨u0, u1, u2, u3, u4⟩ : w6.cell? ⟨w4.heap.size, 0, none⟩ = _ ∧ w6.cell? ⟨w4.heap.size, 1, none⟩ = _ ∧ w6.cell? ⟨w4.heap.size, 2, none⟩ = _ ∧ w6.cell? ⟨w4.heap.size, 3, none⟩ = _ ∧ w6.cell? ⟨w4.heap.size, 4, none⟩ = _ := ⟨cellKept hb6 z0, cellKept hb6 z1, cellKept hb6 z2, cellKept hb6 z3, cellKept hb6 z4⟩
       have in5' := in5.later (Below.drew (Below.refl _ _) |>.trans hb6)
       have HB6 := (below_over HB5).trans ((Below.drew (Below.refl _ _) |>.trans hb6).mono (below_over HB5).size))
    | (go_at_call 22
       refine (eqClaimBook_any x _ _ _ _ _ _ _ _ _ _ _ _ _ _ _ _ _ in5' in6 hf).mono ?_
       rintro e w7 ⟨rfl, hb7⟩))
  all_goals go_wp2
  all_goals go_ret
  all_goals exact ⟨rfl, HB6.trans (hb7.mono HB6.size)⟩

end Go.Proofs.YtfmhkicncgccjaaGreat
