/- What the law's own szClaimWant, toClaimWant and eqClaimWant answer. -/
import Derived.Test.YtfmhkicncgccjaaGreatWantI
namespace Go.Proofs.YtfmhkicncgccjaaGreat
open Go.RowKit Go.Sort

/-- A want small enough to be copied. -/
structure WantRoom (x : Want) : Prop where
  stuffs : x.stuffs.length ≤ 1048576
  uses : x.uses.length ≤ 1048576
  opens : x.opens.length ≤ 1048576
  shuts : x.shuts.length ≤ 1048576

set_option maxHeartbeats 2000000 in
theorem szClaimWant_any (x : Want) (a2 a3 a4 a5 : Option Addr) (c2 c3 c4 c5 : Nat) (left : Int) (w : World) (hin : WantIn w x a2 a3 a4 a5) (hf : WantFit x) (h0 : -1 ≤ left) (h1 : left ≤ 1048576) :
    Calls Tryz.prog 125 #[wantW x a2 a3 a4 a5 c2 c3 c4 c5, .int .i64 left] w fun e w' => (∃ r : Int, e = .returned (.int .i64 r) ∧ -1 ≤ r ∧ r ≤ left ∧ (0 ≤ r → WantRoom x)) ∧ Below w.heap.size w w' := by
  unfold wantW
  have HB0 : Below (w.alloc (.cells #[.int .i64 x.number, .int .i64 x.kind, .slice a2 x.stuffs.length c2, .slice a3 x.uses.length c3, .slice a4 x.opens.length c4, .slice a5 x.shuts.length c5] 109)).heap.size (w.alloc (.cells #[.int .i64 x.number, .int .i64 x.kind, .slice a2 x.stuffs.length c2, .slice a3 x.uses.length c3, .slice a4 x.opens.length c4, .slice a5 x.shuts.length c5] 109)) (w.alloc (.cells #[.int .i64 x.number, .int .i64 x.kind, .slice a2 x.stuffs.length c2, .slice a3 x.uses.length c3, .slice a4 x.opens.length c4, .slice a5 x.shuts.length c5] 109)) := Below.refl _ _
  have hin1 := hin.later (below_over HB0)
  go_enter Tryz.func125, Tryz.ntmps125
  go_wp2_with fail
  refine (szStringS_any a2 c2 x.stuffs left _ hin1.stuffs hf.stuffs h0 h1).mono ?_
  rintro e w1 ⟨⟨r1, rfl, hr1, hr1', hR1⟩, rfl⟩
  by_cases hn1 : r1 < 0
  · go_wp2
    go_ret
    exact ⟨⟨-1, rfl, by omega, by omega, by omega⟩, below_over HB0⟩
  have R1 := hR1 (by omega)
  clear hR1
  go_wp2_with fail
  refine (szClaimUseS_any a3 c3 x.uses r1 _ hin1.uses hf.usesLen hf.usesNames (by omega) (by omega)).mono ?_
  rintro e w2 ⟨⟨r2, rfl, hr2, hr2', hR2⟩, hb⟩
  have HB2 := HB0.trans (hb.mono HB0.size)
  obtain ⟨y0, y1, y2, y3, y4, y5, hz⟩ := box6 HB2
  clear hb HB0 hin1
  have hin2 := hin.later (below_over HB2)
  by_cases hn2 : r2 < 0
  · go_wp2
    go_ret
    exact ⟨⟨-1, rfl, by omega, by omega, by omega⟩, below_over HB2⟩
  have R2 := hR2 (by omega)
  clear hR2
  go_wp2_with fail
  refine (szStringS_any a4 c4 x.opens r2 _ hin2.opens hf.opens (by omega) (by omega)).mono ?_
  rintro e w3 ⟨⟨r3, rfl, hr3, hr3', hR3⟩, rfl⟩
  by_cases hn3 : r3 < 0
  · go_wp2
    go_ret
    exact ⟨⟨-1, rfl, by omega, by omega, by omega⟩, below_over HB2⟩
  have R3 := hR3 (by omega)
  clear hR3
  go_wp2_with fail
  refine (szStringS_any a5 c5 x.shuts r3 _ hin2.shuts hf.shuts (by omega) (by omega)).mono ?_
  rintro e w4 ⟨⟨r4, rfl, hr4, hr4', hR4⟩, rfl⟩
  by_cases hn4 : r4 < 0
  · go_wp2
    go_ret
    exact ⟨⟨-1, rfl, by omega, by omega, by omega⟩, below_over HB2⟩
  · have R4 := hR4 (by omega)
    go_wp2
    go_ret
    exact ⟨⟨r4, rfl, by omega, by omega, fun _ => ⟨R1, R2, R3, R4⟩⟩, below_over HB2⟩

theorem RowAt.sets7 {w : World} {d n size : Nat} {f : Nat → Nat → Value} (h : RowAt w (some ⟨d, 0, none⟩) n size f) {b1 b2 : Nat} (h1 : d ≠ b1) (h2 : d ≠ b2) (v v0 v1 v2 v3 v4 v5 : Value) :
    RowAt (((((((w.setCell ⟨b2, 5, none⟩ v).setCell ⟨b1, 0, none⟩ v0).setCell ⟨b1, 1, none⟩ v1).setCell ⟨b1, 2, none⟩ v2).setCell ⟨b1, 3, none⟩ v3).setCell ⟨b1, 4, none⟩ v4).setCell ⟨b1, 5, none⟩ v5) (some ⟨d, 0, none⟩) n size f :=
  have g : ∀ b o, (some ⟨d, 0, none⟩ : Option Addr) = some ⟨b, o, none⟩ → b ≠ b1 := fun b o e => by cases e; exact h1
  have g2 : ∀ b o, (some ⟨d, 0, none⟩ : Option Addr) = some ⟨b, o, none⟩ → b ≠ b2 := fun b o e => by cases e; exact h2
  ((((((h.setOther g2 v).setOther g v0).setOther g v1).setOther g v2).setOther g v3).setOther g v4).setOther g v5

set_option maxHeartbeats 2000000 in
theorem toClaimWant_any (x : Want) (a2 a3 a4 a5 : Option Addr) (c2 c3 c4 c5 : Nat) (w : World) (hin : WantIn w x a2 a3 a4 a5) (hr : WantRoom x) :
    Calls Tryz.prog 131 #[wantW x a2 a3 a4 a5 c2 c3 c4 c5] w fun e w' => (∃ b2 b3 b4 b5, e = .returned (wantW x (some ⟨b2, 0, none⟩) (some ⟨b3, 0, none⟩) (some ⟨b4, 0, none⟩) (some ⟨b5, 0, none⟩) x.stuffs.length x.uses.length x.opens.length x.shuts.length) ∧
      (w.heap.size < b2 ∧ w.heap.size < b3 ∧ w.heap.size < b4 ∧ w.heap.size < b5) ∧ WantIn w' x (some ⟨b2, 0, none⟩) (some ⟨b3, 0, none⟩) (some ⟨b4, 0, none⟩) (some ⟨b5, 0, none⟩)) ∧ Below w.heap.size w w' := by
  unfold wantW
  go_enter Tryz.func131, Tryz.ntmps131
  go_wp2_with fail
  have b0 : Below w.heap.size w (((w.alloc (.cells #[.int .i64 x.number, .int .i64 x.kind, .slice a2 x.stuffs.length c2, .slice a3 x.uses.length c3, .slice a4 x.opens.length c4, .slice a5 x.shuts.length c5] 109)).alloc (.cells #[.int .i64 0, .int .i64 0, .slice none 0 0, .slice none 0 0, .slice none 0 0, .slice none 0 0] 38)).alloc (.cells #[.int .i64 x.number, .int .i64 x.kind, .slice none 0 0, .slice none 0 0, .slice none 0 0, .slice none 0 0] 38)) :=
    (((Below.refl _ _).alloc (Nat.le_refl _) _).alloc (by simp) _).alloc (by simp; omega) _
  have i0 : Row (((w.alloc (.cells #[.int .i64 x.number, .int .i64 x.kind, .slice a2 x.stuffs.length c2, .slice a3 x.uses.length c3, .slice a4 x.opens.length c4, .slice a5 x.shuts.length c5] 109)).alloc (.cells #[.int .i64 0, .int .i64 0, .slice none 0 0, .slice none 0 0, .slice none 0 0, .slice none 0 0] 38)).alloc (.cells #[.int .i64 x.number, .int .i64 x.kind, .slice none 0 0, .slice none 0 0, .slice none 0 0, .slice none 0 0] 38)) w.heap.size 109 [.int .i64 x.number, .int .i64 x.kind, .slice a2 x.stuffs.length c2, .slice a3 x.uses.length c3, .slice a4 x.opens.length c4, .slice a5 x.shuts.length c5] := ((Row.new _ _ _).alloc _).alloc _
  have z0 : Row (((w.alloc (.cells #[.int .i64 x.number, .int .i64 x.kind, .slice a2 x.stuffs.length c2, .slice a3 x.uses.length c3, .slice a4 x.opens.length c4, .slice a5 x.shuts.length c5] 109)).alloc (.cells #[.int .i64 0, .int .i64 0, .slice none 0 0, .slice none 0 0, .slice none 0 0, .slice none 0 0] 38)).alloc (.cells #[.int .i64 x.number, .int .i64 x.kind, .slice none 0 0, .slice none 0 0, .slice none 0 0, .slice none 0 0] 38)) (w.heap.size + 1) 38 [.int .i64 0, .int .i64 0, .slice none 0 0, .slice none 0 0, .slice none 0 0, .slice none 0 0] := by
    have := (Row.new (w.alloc (.cells #[.int .i64 x.number, .int .i64 x.kind, .slice a2 x.stuffs.length c2, .slice a3 x.uses.length c3, .slice a4 x.opens.length c4, .slice a5 x.shuts.length c5] 109)) 38 [.int .i64 0, .int .i64 0, .slice none 0 0, .slice none 0 0, .slice none 0 0, .slice none 0 0]).alloc (.cells #[.int .i64 x.number, .int .i64 x.kind, .slice none 0 0, .slice none 0 0, .slice none 0 0, .slice none 0 0] 38)
    simpa using this
  have o0 : Row (((w.alloc (.cells #[.int .i64 x.number, .int .i64 x.kind, .slice a2 x.stuffs.length c2, .slice a3 x.uses.length c3, .slice a4 x.opens.length c4, .slice a5 x.shuts.length c5] 109)).alloc (.cells #[.int .i64 0, .int .i64 0, .slice none 0 0, .slice none 0 0, .slice none 0 0, .slice none 0 0] 38)).alloc (.cells #[.int .i64 x.number, .int .i64 x.kind, .slice none 0 0, .slice none 0 0, .slice none 0 0, .slice none 0 0] 38)) (w.heap.size + 1 + 1) 38 [.int .i64 x.number, .int .i64 x.kind, .slice none 0 0, .slice none 0 0, .slice none 0 0, .slice none 0 0] := by
    have := Row.new ((w.alloc (.cells #[.int .i64 x.number, .int .i64 x.kind, .slice a2 x.stuffs.length c2, .slice a3 x.uses.length c3, .slice a4 x.opens.length c4, .slice a5 x.shuts.length c5] 109)).alloc (.cells #[.int .i64 0, .int .i64 0, .slice none 0 0, .slice none 0 0, .slice none 0 0, .slice none 0 0] 38)) 38 [.int .i64 x.number, .int .i64 x.kind, .slice none 0 0, .slice none 0 0, .slice none 0 0, .slice none 0 0]
    simpa using this
  refine (toStringS_any a2 c2 x.stuffs _ (hin.later b0).stuffs hr.stuffs).mono ?_
  rintro e w1 ⟨⟨d2, rfl, hd2, s2⟩, hb⟩
  have b1 := b0.trans (hb.mono b0.size)
  have i1 := i0.later hb
  have z1 := z0.later hb
  have o1 := o0.later hb
  clear b0 i0 z0 o0 hb
  have hne : w.heap.size ≠ w.heap.size + 1 + 1 := by omega
  have hd2' : w.heap.size + 1 + 1 < d2 := by simp at hd2; omega
  have q3 := i1.cell 3 rfl
  have f2 := o1.frozen 2
  have g2 := o1.cell 2 rfl
  go_wp2_with fail
  have b1' := b1.setCell (p := ⟨w.heap.size + 1 + 1, 2, none⟩) (by simp; omega) (.slice (some ⟨d2, 0, none⟩) x.stuffs.length x.stuffs.length)
  have i1' := i1.other (a := ⟨w.heap.size + 1 + 1, 2, none⟩) hne (.slice (some ⟨d2, 0, none⟩) x.stuffs.length x.stuffs.length)
  have z1' := z1.other (a := ⟨w.heap.size + 1 + 1, 2, none⟩) (by simp) (.slice (some ⟨d2, 0, none⟩) x.stuffs.length x.stuffs.length)
  have o1' := o1.set 2 (.slice (some ⟨d2, 0, none⟩) x.stuffs.length x.stuffs.length)
  have s2' := RowAt.setOther s2 (p := ⟨w.heap.size + 1 + 1, 2, none⟩) (fun b o h => by cases h; exact Nat.ne_of_gt hd2') (.slice (some ⟨d2, 0, none⟩) x.stuffs.length x.stuffs.length)
  refine (toClaimUseS_any a3 c3 x.uses _ (hin.later b1').uses hr.uses).mono ?_
  clear q3 f2 g2
  rintro e w2 ⟨⟨d3, rfl, hd3, s3⟩, hb⟩
  have hd3' : w.heap.size + 1 + 1 < d3 := by have := o1'.lt; omega
  have b2 := b1'.trans (hb.mono b1'.size)
  have i2 := i1'.later hb
  have z2 := z1'.later hb
  have o2 := o1'.later hb
  have s2 := RowAt.later s2' hb
  clear b1 i1 z1 o1 b1' i1' z1' o1' hb s2'
  have q4 := i2.cell 4 rfl
  have f3 := o2.frozen 3
  have g3 := o2.cell 3 rfl
  go_wp2_with fail
  have b2' := b2.setCell (p := ⟨w.heap.size + 1 + 1, 3, none⟩) (by simp; omega) (.slice (some ⟨d3, 0, none⟩) x.uses.length x.uses.length)
  have i2' := i2.other (a := ⟨w.heap.size + 1 + 1, 3, none⟩) hne (.slice (some ⟨d3, 0, none⟩) x.uses.length x.uses.length)
  have z2' := z2.other (a := ⟨w.heap.size + 1 + 1, 3, none⟩) (by simp) (.slice (some ⟨d3, 0, none⟩) x.uses.length x.uses.length)
  have o2' := o2.set 3 (.slice (some ⟨d3, 0, none⟩) x.uses.length x.uses.length)
  have s2' := RowAt.setOther s2 (p := ⟨w.heap.size + 1 + 1, 3, none⟩) (fun b o h => by cases h; exact Nat.ne_of_gt hd2') (.slice (some ⟨d3, 0, none⟩) x.uses.length x.uses.length)
  have s3' := RowAt.setOther s3 (p := ⟨w.heap.size + 1 + 1, 3, none⟩) (fun b o h => by cases h; exact Nat.ne_of_gt hd3') (.slice (some ⟨d3, 0, none⟩) x.uses.length x.uses.length)
  refine (toStringS_any a4 c4 x.opens _ (hin.later b2').opens hr.opens).mono ?_
  clear q4 f3 g3
  rintro e w3 ⟨⟨d4, rfl, hd4, s4⟩, hb⟩
  have hd4' : w.heap.size + 1 + 1 < d4 := by have := o2'.lt; omega
  have b3 := b2'.trans (hb.mono b2'.size)
  have i3 := i2'.later hb
  have z3 := z2'.later hb
  have o3 := o2'.later hb
  have s2 := RowAt.later s2' hb
  have s3 := RowAt.later s3' hb
  clear b2 i2 z2 o2 b2' i2' z2' o2' hb s2' s3'
  have q5 := i3.cell 5 rfl
  have f4 := o3.frozen 4
  have g4 := o3.cell 4 rfl
  go_wp2_with fail
  have b3' := b3.setCell (p := ⟨w.heap.size + 1 + 1, 4, none⟩) (by simp; omega) (.slice (some ⟨d4, 0, none⟩) x.opens.length x.opens.length)
  have i3' := i3.other (a := ⟨w.heap.size + 1 + 1, 4, none⟩) hne (.slice (some ⟨d4, 0, none⟩) x.opens.length x.opens.length)
  have z3' := z3.other (a := ⟨w.heap.size + 1 + 1, 4, none⟩) (by simp) (.slice (some ⟨d4, 0, none⟩) x.opens.length x.opens.length)
  have o3' := o3.set 4 (.slice (some ⟨d4, 0, none⟩) x.opens.length x.opens.length)
  have s2' := RowAt.setOther s2 (p := ⟨w.heap.size + 1 + 1, 4, none⟩) (fun b o h => by cases h; exact Nat.ne_of_gt hd2') (.slice (some ⟨d4, 0, none⟩) x.opens.length x.opens.length)
  have s3' := RowAt.setOther s3 (p := ⟨w.heap.size + 1 + 1, 4, none⟩) (fun b o h => by cases h; exact Nat.ne_of_gt hd3') (.slice (some ⟨d4, 0, none⟩) x.opens.length x.opens.length)
  have s4' := RowAt.setOther s4 (p := ⟨w.heap.size + 1 + 1, 4, none⟩) (fun b o h => by cases h; exact Nat.ne_of_gt hd4') (.slice (some ⟨d4, 0, none⟩) x.opens.length x.opens.length)
  refine (toStringS_any a5 c5 x.shuts _ (hin.later b3').shuts hr.shuts).mono ?_
  clear q5 f4 g4
  rintro e w4 ⟨⟨d5, rfl, hd5, s5⟩, hb⟩
  have hd5' : w.heap.size + 1 + 1 < d5 := by have := o3'.lt; omega
  have b4 := b3'.trans (hb.mono b3'.size)
  have i4 := i3'.later hb
  have z4 := z3'.later hb
  have o4 := o3'.later hb
  have s2 := RowAt.later s2' hb
  have s3 := RowAt.later s3' hb
  have s4 := RowAt.later s4' hb
  clear b3 i3 z3 o3 b3' i3' z3' o3' hb s2' s3' s4'
  have f5 := o4.frozen 5
  have g5 := o4.cell 5 rfl
  have g0 := o4.cell 0 rfl
  have g1 := o4.cell 1 rfl
  have g2 := o4.cell 2 rfl
  have g3 := o4.cell 3 rfl
  have g4 := o4.cell 4 rfl
  have r0 := z4.cell 0 rfl
  have r1 := z4.cell 1 rfl
  have r2 := z4.cell 2 rfl
  have r3 := z4.cell 3 rfl
  have r4 := z4.cell 4 rfl
  have r5 := z4.cell 5 rfl
  have k0 := z4.frozen 0
  have k1 := z4.frozen 1
  have k2 := z4.frozen 2
  have k3 := z4.frozen 3
  have k4 := z4.frozen 4
  have k5 := z4.frozen 5
  have hne2 : w.heap.size + 1 ≠ w.heap.size + 1 + 1 := by omega
  go_wp2
  refine bodyPost_ret (v := .agg #[.int .i64 x.number, .int .i64 x.kind, .slice (some ⟨d2, 0, none⟩) x.stuffs.length x.stuffs.length, .slice (some ⟨d3, 0, none⟩) x.uses.length x.uses.length, .slice (some ⟨d4, 0, none⟩) x.opens.length x.opens.length, .slice (some ⟨d5, 0, none⟩) x.shuts.length x.shuts.length])
    (by simp [results, Tryz.results131, go_sem, r0, r1, r2, r3, r4, r5]) rfl ⟨⟨d2, d3, d4, d5, rfl, ⟨by omega, by omega, by omega, by omega⟩, ⟨?_, ?_, ?_, ?_⟩⟩, ?_⟩
  · exact RowAt.sets7 s2 (by omega) (by omega) _ _ _ _ _ _ _
  · exact RowAt.sets7 s3 (by omega) (by omega) _ _ _ _ _ _ _
  · exact RowAt.sets7 s4 (by omega) (by omega) _ _ _ _ _ _ _
  · exact RowAt.sets7 s5 (by omega) (by omega) _ _ _ _ _ _ _
  · exact ((((((b4.setCell (by simp; omega) _).setCell (by simp) _).setCell (by simp) _).setCell (by simp) _).setCell (by simp) _).setCell (by simp) _).setCell (by simp) _

end Go.Proofs.YtfmhkicncgccjaaGreat
