/- The law FnExactClaimWantOk, walked: it returns true. -/
import Derived.Test.YtfmhkicncgccjaaWantEq
import Derived.Deep.RegionWith
namespace Go.Proofs.Ytfmhkicncgccjaa
open Go.RowKit Go.Sort

set_option maxHeartbeats 2000000 in
theorem law_any (x : Want) (a2 a3 a4 a5 : Option Addr) (c2 c3 c4 c5 : Nat) (w : World) (hin : WantIn w x a2 a3 a4 a5) (hf : WantFit x) :
    Calls Try.prog 3 #[wantW x a2 a3 a4 a5 c2 c3 c4 c5] w fun e w' => e = .returned (.bool true) ∧ Below w.heap.size w w' := by
  have HB0 : Below (w.alloc (.cells #[.int .i64 x.number, .int .i64 x.kind, .slice a2 x.stuffs.length c2, .slice a3 x.uses.length c3, .slice a4 x.opens.length c4, .slice a5 x.shuts.length c5] 25)).heap.size (w.alloc (.cells #[.int .i64 x.number, .int .i64 x.kind, .slice a2 x.stuffs.length c2, .slice a3 x.uses.length c3, .slice a4 x.opens.length c4, .slice a5 x.shuts.length c5] 25)) (w.alloc (.cells #[.int .i64 x.number, .int .i64 x.kind, .slice a2 x.stuffs.length c2, .slice a3 x.uses.length c3, .slice a4 x.opens.length c4, .slice a5 x.shuts.length c5] 25)) := Below.refl _ _
  unfold wantW
  go_enter Try.func3, Try.ntmps3
  go_wp2_with fail
  refine (szClaimWant_any x a2 a3 a4 a5 c2 c3 c4 c5 1048576 _ (hin.later (below_over HB0)) hf (by omega) (by omega)).mono ?_
  rintro e w1 ⟨⟨r1, rfl, hr1, hr1', hR1⟩, hb⟩
  have HB1 := HB0.trans (hb.mono HB0.size)
  obtain ⟨y0, y1, y2, y3, y4, y5, hz⟩ := box6 HB1
  clear hb HB0
  by_cases hn1 : r1 < 0
  · go_wp2
    go_ret
    exact ⟨rfl, below_over HB1⟩
  have R := hR1 (by omega)
  clear hR1
  go_wp2_with fail
  refine (toClaimWant_any x a2 a3 a4 a5 c2 c3 c4 c5 _ (hin.later (below_over HB1)) R).mono ?_
  rintro e w2 ⟨⟨b2, b3, b4, b5, rfl, -, in2⟩, hb⟩
  have HB2 := HB1.trans (hb.mono HB1.size)
  clear y0 y1 y2 y3 y4 y5 hz
  obtain ⟨y0, y1, y2, y3, y4, y5, hz⟩ := box6 HB2
  clear hb HB1
  go_wp2_with fail
  refine (specWantOk_any x _ _ _ _ _ _ _ _ _ in2 hf).mono ?_
  rintro e w3 ⟨rfl, hb⟩
  have HB3 := HB2.trans (hb.mono HB2.size)
  clear y0 y1 y2 y3 y4 y5 hz
  obtain ⟨y0, y1, y2, y3, y4, y5, hz⟩ := box6 HB3
  clear hb HB2 in2
  go_wp2_with fail
  refine (toClaimWant_any x a2 a3 a4 a5 c2 c3 c4 c5 _ (hin.later (below_over HB3)) R).mono ?_
  rintro e w4 ⟨⟨f2, f3, f4, f5, rfl, -, in4⟩, hb⟩
  have HB4 := HB3.trans (hb.mono HB3.size)
  clear y0 y1 y2 y3 y4 y5 hz
  obtain ⟨y0, y1, y2, y3, y4, y5, hz⟩ := box6 HB4
  clear hb HB3
  have x4 := Row.new w4 30 [.int .i64 x.number, .int .i64 x.kind, .slice (some ⟨f2, 0, none⟩) x.stuffs.length x.stuffs.length, .slice (some ⟨f3, 0, none⟩) x.uses.length x.uses.length, .slice (some ⟨f4, 0, none⟩) x.opens.length x.opens.length, .slice (some ⟨f5, 0, none⟩) x.shuts.length x.shuts.length]
  have v4 : Below w4.heap.size w4 (w4.alloc (.cells #[.int .i64 x.number, .int .i64 x.kind, .slice (some ⟨f2, 0, none⟩) x.stuffs.length x.stuffs.length, .slice (some ⟨f3, 0, none⟩) x.uses.length x.uses.length, .slice (some ⟨f4, 0, none⟩) x.opens.length x.opens.length, .slice (some ⟨f5, 0, none⟩) x.shuts.length x.shuts.length] 30)) := (Below.refl _ _).alloc (Nat.le_refl _) _
  have HB4' := HB4.trans (v4.mono HB4.size)
  have in4' := in4.later v4
  unfold wantW
  go_wp2_with fail
  refine (implWantOk_any x _ _ _ _ _ _ _ _ _ in4' hf).mono ?_
  rintro e w5 ⟨rfl, hb⟩
  have HB5 := HB4'.trans (hb.mono HB4'.size)
  have x5 := x4.later hb
  have in5 := in4'.later hb
  clear y0 y1 y2 y3 y4 y5 hz x4 v4 HB4' in4' in4 HB4 hb
  obtain ⟨y0, y1, y2, y3, y4, y5, hz⟩ := box6 HB5
  have z0 := x5.cell 0 rfl
  have z1 := x5.cell 1 rfl
  have z2 := x5.cell 2 rfl
  have z3 := x5.cell 3 rfl
  have z4 := x5.cell 4 rfl
  have z5 := x5.cell 5 rfl
  have hbn : (wantB x != wantB x) = false := by simp
  go_wp2_with fail
  go_region_with (first
    | (go_at_call 6
       refine (toClaimWant_any x a2 a3 a4 a5 c2 c3 c4 c5 _ (hin.later (below_over (below_drewN HB5 _))) R).mono ?_
       rintro e w6 ⟨⟨g2, g3, g4, g5, rfl, -, in6⟩, hb6⟩
       obtain ⟨u0, u1, u2, u3, u4, u5⟩ : w6.cell? ⟨w4.heap.size, 0, none⟩ = _ ∧ w6.cell? ⟨w4.heap.size, 1, none⟩ = _ ∧ w6.cell? ⟨w4.heap.size, 2, none⟩ = _ ∧ w6.cell? ⟨w4.heap.size, 3, none⟩ = _ ∧ w6.cell? ⟨w4.heap.size, 4, none⟩ = _ ∧ w6.cell? ⟨w4.heap.size, 5, none⟩ = _ := ⟨cell_later hb6 z0, cell_later hb6 z1, cell_later hb6 z2, cell_later hb6 z3, cell_later hb6 z4, cell_later hb6 z5⟩
       have in5' := in5.later (Below.drew (Below.refl _ _) |>.trans hb6)
       have HB6 := (below_over HB5).trans ((Below.drew (Below.refl _ _) |>.trans hb6).mono (below_over HB5).size))
    | (go_at_call 8
       refine (eqClaimWant_any x _ _ _ _ _ _ _ _ _ _ _ _ _ _ _ _ _ in5' in6 hf).mono ?_
       rintro e w7 ⟨rfl, hb7⟩))
  all_goals go_wp2
  all_goals go_ret
  all_goals exact ⟨rfl, HB6.trans (hb7.mono HB6.size)⟩

end Go.Proofs.Ytfmhkicncgccjaa
