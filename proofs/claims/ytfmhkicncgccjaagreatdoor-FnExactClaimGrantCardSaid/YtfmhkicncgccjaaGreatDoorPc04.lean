/- Joined: WantL, WantEq, Open, Bk, BkSz, BkTo, BkToB. -/
import Derived.Test.YtfmhkicncgccjaaGreatDoorPc03
import Derived.Deep.Strs
import Derived.Lib.SmallJoins
/- What the law's own szClaimWant, toClaimWant and eqClaimWant answer. -/
namespace Go.Proofs.YtfmhkicncgccjaaGreatDoor
open Go.RowKit Go.Sort

/-- A want small enough to be copied. -/
structure WantRoom (x : Want) : Prop where
  stuffs : x.stuffs.length ≤ 1048576
  uses : x.uses.length ≤ 1048576
  opens : x.opens.length ≤ 1048576
  shuts : x.shuts.length ≤ 1048576

set_option maxHeartbeats 2000000 in
theorem szClaimWant_any (x : Want) (a2 a3 a4 a5 : Option Addr) (c2 c3 c4 c5 : Nat) (left : Int) (w : World) (hin : WantIn w x a2 a3 a4 a5) (hf : WantFit x) (h0 : -1 ≤ left) (h1 : left ≤ 1048576) :
    Calls Tryz.prog 6 #[wantW x a2 a3 a4 a5 c2 c3 c4 c5, .int .i64 left] w fun e w' => (∃ r : Int, e = .returned (.int .i64 r) ∧ -1 ≤ r ∧ r ≤ left ∧ (0 ≤ r → WantRoom x)) ∧ Below w.heap.size w w' := by
  unfold wantW
  have HB0 : Below (w.alloc (.cells #[.int .i64 x.number, .int .i64 x.kind, .slice a2 x.stuffs.length c2, .slice a3 x.uses.length c3, .slice a4 x.opens.length c4, .slice a5 x.shuts.length c5] 30)).heap.size (w.alloc (.cells #[.int .i64 x.number, .int .i64 x.kind, .slice a2 x.stuffs.length c2, .slice a3 x.uses.length c3, .slice a4 x.opens.length c4, .slice a5 x.shuts.length c5] 30)) (w.alloc (.cells #[.int .i64 x.number, .int .i64 x.kind, .slice a2 x.stuffs.length c2, .slice a3 x.uses.length c3, .slice a4 x.opens.length c4, .slice a5 x.shuts.length c5] 30)) := Below.refl _ _
  have hin1 := hin.later (below_over HB0)
  go_enter Tryz.func6, Tryz.ntmps6
  go_wp2_with fail
  refine (szStringS_any a2 c2 x.stuffs left _ hin1.stuffs hf.stuffs h0 h1).mono ?_
  rintro e w1 ⟨⟨r1, rfl, hr1, hr1', hR1⟩, rfl⟩
  by_cases hn1 : r1 < 0
  · go_wp2
    go_ret
    exact ⟨⟨-1, rfl, by omega, by omega, by omega⟩, below_over HB0⟩
  have R1 := hR1 (by omega)
  clear hR1
  go_wp2_with fail
  refine (szClaimUseS_any a3 c3 x.uses r1 _ hin1.uses hf.usesLen hf.usesNames (by omega) (by omega)).mono ?_
  rintro e w2 ⟨⟨r2, rfl, hr2, hr2', hR2⟩, hb⟩
  have HB2 := HB0.trans (hb.mono HB0.size)
  obtain ⟨y0, y1, y2, y3, y4, y5, hz⟩ := box6 HB2
  clear hb HB0 hin1
  have hin2 := hin.later (below_over HB2)
  by_cases hn2 : r2 < 0
  · go_wp2
    go_ret
    exact ⟨⟨-1, rfl, by omega, by omega, by omega⟩, below_over HB2⟩
  have R2 := hR2 (by omega)
  clear hR2
  go_wp2_with fail
  refine (szStringS_any a4 c4 x.opens r2 _ hin2.opens hf.opens (by omega) (by omega)).mono ?_
  rintro e w3 ⟨⟨r3, rfl, hr3, hr3', hR3⟩, rfl⟩
  by_cases hn3 : r3 < 0
  · go_wp2
    go_ret
    exact ⟨⟨-1, rfl, by omega, by omega, by omega⟩, below_over HB2⟩
  have R3 := hR3 (by omega)
  clear hR3
  go_wp2_with fail
  refine (szStringS_any a5 c5 x.shuts r3 _ hin2.shuts hf.shuts (by omega) (by omega)).mono ?_
  rintro e w4 ⟨⟨r4, rfl, hr4, hr4', hR4⟩, rfl⟩
  by_cases hn4 : r4 < 0
  · go_wp2
    go_ret
    exact ⟨⟨-1, rfl, by omega, by omega, by omega⟩, below_over HB2⟩
  · have R4 := hR4 (by omega)
    go_wp2
    go_ret
    exact ⟨⟨r4, rfl, by omega, by omega, fun _ => ⟨R1, R2, R3, R4⟩⟩, below_over HB2⟩

theorem RowAt.sets7 {w : World} {d n size : Nat} {f : Nat → Nat → Value} (h : RowAt w (some ⟨d, 0, none⟩) n size f) {b1 b2 : Nat} (h1 : d ≠ b1) (h2 : d ≠ b2) (v v0 v1 v2 v3 v4 v5 : Value) :
    RowAt (((((((w.setCell ⟨b2, 5, none⟩ v).setCell ⟨b1, 0, none⟩ v0).setCell ⟨b1, 1, none⟩ v1).setCell ⟨b1, 2, none⟩ v2).setCell ⟨b1, 3, none⟩ v3).setCell ⟨b1, 4, none⟩ v4).setCell ⟨b1, 5, none⟩ v5) (some ⟨d, 0, none⟩) n size f :=
  have g : ∀ b o, (some ⟨d, 0, none⟩ : Option Addr) = some ⟨b, o, none⟩ → b ≠ b1 := fun b o e => by cases e; exact h1
  have g2 : ∀ b o, (some ⟨d, 0, none⟩ : Option Addr) = some ⟨b, o, none⟩ → b ≠ b2 := fun b o e => by cases e; exact h2
  ((((((h.setOther g2 v).setOther g v0).setOther g v1).setOther g v2).setOther g v3).setOther g v4).setOther g v5

set_option maxHeartbeats 2000000 in
theorem toClaimWant_any (x : Want) (a2 a3 a4 a5 : Option Addr) (c2 c3 c4 c5 : Nat) (w : World) (hin : WantIn w x a2 a3 a4 a5) (hr : WantRoom x) :
    Calls Tryz.prog 9 #[wantW x a2 a3 a4 a5 c2 c3 c4 c5] w fun e w' => (∃ b2 b3 b4 b5, e = .returned (wantW x (some ⟨b2, 0, none⟩) (some ⟨b3, 0, none⟩) (some ⟨b4, 0, none⟩) (some ⟨b5, 0, none⟩) x.stuffs.length x.uses.length x.opens.length x.shuts.length) ∧
      (w.heap.size < b2 ∧ w.heap.size < b3 ∧ w.heap.size < b4 ∧ w.heap.size < b5) ∧ WantIn w' x (some ⟨b2, 0, none⟩) (some ⟨b3, 0, none⟩) (some ⟨b4, 0, none⟩) (some ⟨b5, 0, none⟩)) ∧ Below w.heap.size w w' := by
  unfold wantW
  go_enter Tryz.func9, Tryz.ntmps9
  go_wp2_with fail
  have b0 : Below w.heap.size w (((w.alloc (.cells #[.int .i64 x.number, .int .i64 x.kind, .slice a2 x.stuffs.length c2, .slice a3 x.uses.length c3, .slice a4 x.opens.length c4, .slice a5 x.shuts.length c5] 30)).alloc (.cells #[.int .i64 0, .int .i64 0, .slice none 0 0, .slice none 0 0, .slice none 0 0, .slice none 0 0] 42)).alloc (.cells #[.int .i64 x.number, .int .i64 x.kind, .slice none 0 0, .slice none 0 0, .slice none 0 0, .slice none 0 0] 42)) :=
    (((Below.refl _ _).alloc (Nat.le_refl _) _).alloc (by simp) _).alloc (by simp; omega) _
  have i0 : Row (((w.alloc (.cells #[.int .i64 x.number, .int .i64 x.kind, .slice a2 x.stuffs.length c2, .slice a3 x.uses.length c3, .slice a4 x.opens.length c4, .slice a5 x.shuts.length c5] 30)).alloc (.cells #[.int .i64 0, .int .i64 0, .slice none 0 0, .slice none 0 0, .slice none 0 0, .slice none 0 0] 42)).alloc (.cells #[.int .i64 x.number, .int .i64 x.kind, .slice none 0 0, .slice none 0 0, .slice none 0 0, .slice none 0 0] 42)) w.heap.size 30 [.int .i64 x.number, .int .i64 x.kind, .slice a2 x.stuffs.length c2, .slice a3 x.uses.length c3, .slice a4 x.opens.length c4, .slice a5 x.shuts.length c5] := ((Row.new _ _ _).alloc _).alloc _
  have z0 : Row (((w.alloc (.cells #[.int .i64 x.number, .int .i64 x.kind, .slice a2 x.stuffs.length c2, .slice a3 x.uses.length c3, .slice a4 x.opens.length c4, .slice a5 x.shuts.length c5] 30)).alloc (.cells #[.int .i64 0, .int .i64 0, .slice none 0 0, .slice none 0 0, .slice none 0 0, .slice none 0 0] 42)).alloc (.cells #[.int .i64 x.number, .int .i64 x.kind, .slice none 0 0, .slice none 0 0, .slice none 0 0, .slice none 0 0] 42)) (w.heap.size + 1) 42 [.int .i64 0, .int .i64 0, .slice none 0 0, .slice none 0 0, .slice none 0 0, .slice none 0 0] := by
    have := (Row.new (w.alloc (.cells #[.int .i64 x.number, .int .i64 x.kind, .slice a2 x.stuffs.length c2, .slice a3 x.uses.length c3, .slice a4 x.opens.length c4, .slice a5 x.shuts.length c5] 30)) 42 [.int .i64 0, .int .i64 0, .slice none 0 0, .slice none 0 0, .slice none 0 0, .slice none 0 0]).alloc (.cells #[.int .i64 x.number, .int .i64 x.kind, .slice none 0 0, .slice none 0 0, .slice none 0 0, .slice none 0 0] 42)
    simpa using this
  have o0 : Row (((w.alloc (.cells #[.int .i64 x.number, .int .i64 x.kind, .slice a2 x.stuffs.length c2, .slice a3 x.uses.length c3, .slice a4 x.opens.length c4, .slice a5 x.shuts.length c5] 30)).alloc (.cells #[.int .i64 0, .int .i64 0, .slice none 0 0, .slice none 0 0, .slice none 0 0, .slice none 0 0] 42)).alloc (.cells #[.int .i64 x.number, .int .i64 x.kind, .slice none 0 0, .slice none 0 0, .slice none 0 0, .slice none 0 0] 42)) (w.heap.size + 1 + 1) 42 [.int .i64 x.number, .int .i64 x.kind, .slice none 0 0, .slice none 0 0, .slice none 0 0, .slice none 0 0] := by
    have := Row.new ((w.alloc (.cells #[.int .i64 x.number, .int .i64 x.kind, .slice a2 x.stuffs.length c2, .slice a3 x.uses.length c3, .slice a4 x.opens.length c4, .slice a5 x.shuts.length c5] 30)).alloc (.cells #[.int .i64 0, .int .i64 0, .slice none 0 0, .slice none 0 0, .slice none 0 0, .slice none 0 0] 42)) 42 [.int .i64 x.number, .int .i64 x.kind, .slice none 0 0, .slice none 0 0, .slice none 0 0, .slice none 0 0]
    simpa using this
  refine (toStringS_any a2 c2 x.stuffs _ (hin.later b0).stuffs hr.stuffs).mono ?_
  rintro e w1 ⟨⟨d2, rfl, hd2, s2⟩, hb⟩
  have b1 := b0.trans (hb.mono b0.size)
  have i1 := i0.later hb
  have z1 := z0.later hb
  have o1 := o0.later hb
  clear b0 i0 z0 o0 hb
  have hne : w.heap.size ≠ w.heap.size + 1 + 1 := by omega
  have hd2' : w.heap.size + 1 + 1 < d2 := by simp at hd2; omega
  have q3 := i1.cell 3 rfl
  have f2 := o1.frozen 2
  have g2 := o1.cell 2 rfl
  go_wp2_with fail
  have b1' := b1.setCell (p := ⟨w.heap.size + 1 + 1, 2, none⟩) (by simp; omega) (.slice (some ⟨d2, 0, none⟩) x.stuffs.length x.stuffs.length)
  have i1' := i1.other (a := ⟨w.heap.size + 1 + 1, 2, none⟩) hne (.slice (some ⟨d2, 0, none⟩) x.stuffs.length x.stuffs.length)
  have z1' := z1.other (a := ⟨w.heap.size + 1 + 1, 2, none⟩) (by simp) (.slice (some ⟨d2, 0, none⟩) x.stuffs.length x.stuffs.length)
  have o1' := o1.set 2 (.slice (some ⟨d2, 0, none⟩) x.stuffs.length x.stuffs.length)
  have s2' := RowAt.setOther s2 (p := ⟨w.heap.size + 1 + 1, 2, none⟩) (fun b o h => by cases h; exact Nat.ne_of_gt hd2') (.slice (some ⟨d2, 0, none⟩) x.stuffs.length x.stuffs.length)
  refine (toClaimUseS_any a3 c3 x.uses _ (hin.later b1').uses hr.uses).mono ?_
  clear q3 f2 g2
  rintro e w2 ⟨⟨d3, rfl, hd3, s3⟩, hb⟩
  have hd3' : w.heap.size + 1 + 1 < d3 := by have := o1'.lt; omega
  have b2 := b1'.trans (hb.mono b1'.size)
  have i2 := i1'.later hb
  have z2 := z1'.later hb
  have o2 := o1'.later hb
  have s2 := RowAt.later s2' hb
  clear b1 i1 z1 o1 b1' i1' z1' o1' hb s2'
  have q4 := i2.cell 4 rfl
  have f3 := o2.frozen 3
  have g3 := o2.cell 3 rfl
  go_wp2_with fail
  have b2' := b2.setCell (p := ⟨w.heap.size + 1 + 1, 3, none⟩) (by simp; omega) (.slice (some ⟨d3, 0, none⟩) x.uses.length x.uses.length)
  have i2' := i2.other (a := ⟨w.heap.size + 1 + 1, 3, none⟩) hne (.slice (some ⟨d3, 0, none⟩) x.uses.length x.uses.length)
  have z2' := z2.other (a := ⟨w.heap.size + 1 + 1, 3, none⟩) (by simp) (.slice (some ⟨d3, 0, none⟩) x.uses.length x.uses.length)
  have o2' := o2.set 3 (.slice (some ⟨d3, 0, none⟩) x.uses.length x.uses.length)
  have s2' := RowAt.setOther s2 (p := ⟨w.heap.size + 1 + 1, 3, none⟩) (fun b o h => by cases h; exact Nat.ne_of_gt hd2') (.slice (some ⟨d3, 0, none⟩) x.uses.length x.uses.length)
  have s3' := RowAt.setOther s3 (p := ⟨w.heap.size + 1 + 1, 3, none⟩) (fun b o h => by cases h; exact Nat.ne_of_gt hd3') (.slice (some ⟨d3, 0, none⟩) x.uses.length x.uses.length)
  refine (toStringS_any a4 c4 x.opens _ (hin.later b2').opens hr.opens).mono ?_
  clear q4 f3 g3
  rintro e w3 ⟨⟨d4, rfl, hd4, s4⟩, hb⟩
  have hd4' : w.heap.size + 1 + 1 < d4 := by have := o2'.lt; omega
  have b3 := b2'.trans (hb.mono b2'.size)
  have i3 := i2'.later hb
  have z3 := z2'.later hb
  have o3 := o2'.later hb
  have s2 := RowAt.later s2' hb
  have s3 := RowAt.later s3' hb
  clear b2 i2 z2 o2 b2' i2' z2' o2' hb s2' s3'
  have q5 := i3.cell 5 rfl
  have f4 := o3.frozen 4
  have g4 := o3.cell 4 rfl
  go_wp2_with fail
  have b3' := b3.setCell (p := ⟨w.heap.size + 1 + 1, 4, none⟩) (by simp; omega) (.slice (some ⟨d4, 0, none⟩) x.opens.length x.opens.length)
  have i3' := i3.other (a := ⟨w.heap.size + 1 + 1, 4, none⟩) hne (.slice (some ⟨d4, 0, none⟩) x.opens.length x.opens.length)
  have z3' := z3.other (a := ⟨w.heap.size + 1 + 1, 4, none⟩) (by simp) (.slice (some ⟨d4, 0, none⟩) x.opens.length x.opens.length)
  have o3' := o3.set 4 (.slice (some ⟨d4, 0, none⟩) x.opens.length x.opens.length)
  have s2' := RowAt.setOther s2 (p := ⟨w.heap.size + 1 + 1, 4, none⟩) (fun b o h => by cases h; exact Nat.ne_of_gt hd2') (.slice (some ⟨d4, 0, none⟩) x.opens.length x.opens.length)
  have s3' := RowAt.setOther s3 (p := ⟨w.heap.size + 1 + 1, 4, none⟩) (fun b o h => by cases h; exact Nat.ne_of_gt hd3') (.slice (some ⟨d4, 0, none⟩) x.opens.length x.opens.length)
  have s4' := RowAt.setOther s4 (p := ⟨w.heap.size + 1 + 1, 4, none⟩) (fun b o h => by cases h; exact Nat.ne_of_gt hd4') (.slice (some ⟨d4, 0, none⟩) x.opens.length x.opens.length)
  refine (toStringS_any a5 c5 x.shuts _ (hin.later b3').shuts hr.shuts).mono ?_
  clear q5 f4 g4
  rintro e w4 ⟨⟨d5, rfl, hd5, s5⟩, hb⟩
  have hd5' : w.heap.size + 1 + 1 < d5 := by have := o3'.lt; omega
  have b4 := b3'.trans (hb.mono b3'.size)
  have i4 := i3'.later hb
  have z4 := z3'.later hb
  have o4 := o3'.later hb
  have s2 := RowAt.later s2' hb
  have s3 := RowAt.later s3' hb
  have s4 := RowAt.later s4' hb
  clear b3 i3 z3 o3 b3' i3' z3' o3' hb s2' s3' s4'
  have f5 := o4.frozen 5
  have g5 := o4.cell 5 rfl
  have g0 := o4.cell 0 rfl
  have g1 := o4.cell 1 rfl
  have g2 := o4.cell 2 rfl
  have g3 := o4.cell 3 rfl
  have g4 := o4.cell 4 rfl
  have r0 := z4.cell 0 rfl
  have r1 := z4.cell 1 rfl
  have r2 := z4.cell 2 rfl
  have r3 := z4.cell 3 rfl
  have r4 := z4.cell 4 rfl
  have r5 := z4.cell 5 rfl
  have k0 := z4.frozen 0
  have k1 := z4.frozen 1
  have k2 := z4.frozen 2
  have k3 := z4.frozen 3
  have k4 := z4.frozen 4
  have k5 := z4.frozen 5
  have hne2 : w.heap.size + 1 ≠ w.heap.size + 1 + 1 := by omega
  go_wp2
  refine bodyPost_ret (v := .agg #[.int .i64 x.number, .int .i64 x.kind, .slice (some ⟨d2, 0, none⟩) x.stuffs.length x.stuffs.length, .slice (some ⟨d3, 0, none⟩) x.uses.length x.uses.length, .slice (some ⟨d4, 0, none⟩) x.opens.length x.opens.length, .slice (some ⟨d5, 0, none⟩) x.shuts.length x.shuts.length])
    (by simp [results, Tryz.results9, go_sem, r0, r1, r2, r3, r4, r5]) rfl ⟨⟨d2, d3, d4, d5, rfl, ⟨by omega, by omega, by omega, by omega⟩, ⟨?_, ?_, ?_, ?_⟩⟩, ?_⟩
  · exact RowAt.sets7 s2 (by omega) (by omega) _ _ _ _ _ _ _
  · exact RowAt.sets7 s3 (by omega) (by omega) _ _ _ _ _ _ _
  · exact RowAt.sets7 s4 (by omega) (by omega) _ _ _ _ _ _ _
  · exact RowAt.sets7 s5 (by omega) (by omega) _ _ _ _ _ _ _
  · exact ((((((b4.setCell (by simp; omega) _).setCell (by simp) _).setCell (by simp) _).setCell (by simp) _).setCell (by simp) _).setCell (by simp) _).setCell (by simp) _

end Go.Proofs.YtfmhkicncgccjaaGreatDoor

/- What the law's own eqClaimWant answers of two copies of one want. -/
namespace Go.Proofs.YtfmhkicncgccjaaGreatDoor
open Go.RowKit Go.Sort

theorem eqS_self (s : ByteArray) : eqS s s = true := by unfold eqS; simp
theorem eqSS_self (xs : List ByteArray) : eqSS xs xs = true := by
  unfold eqSS
  rw [decide_eq_true rfl, allTo_iff.2 (fun i _ => eqS_self _)]; rfl
theorem eqU_self (u : Use) : eqU u u = true := by unfold eqU; rw [eqS_self]; simp
theorem eqUU_self (xs : List Use) : eqUU xs xs = true := by
  unfold eqUU
  rw [decide_eq_true rfl, allTo_iff.2 (fun i _ => eqU_self _)]; rfl

set_option maxHeartbeats 2000000 in
theorem eqClaimWant_any (x : Want) (a2 a3 a4 a5 : Option Addr) (c2 c3 c4 c5 : Nat) (e2 e3 e4 e5 : Option Addr) (d2 d3 d4 d5 : Nat) (w : World) (hin : WantIn w x a2 a3 a4 a5) (hie : WantIn w x e2 e3 e4 e5) (hf : WantFit x) :
    Calls Tryz.prog 12 #[wantW x a2 a3 a4 a5 c2 c3 c4 c5, wantW x e2 e3 e4 e5 d2 d3 d4 d5] w fun e w' => e = .returned (.bool true) ∧ Below w.heap.size w w' := by
  unfold wantW
  have b0 : Below w.heap.size w ((w.alloc (.cells #[.int .i64 x.number, .int .i64 x.kind, .slice a2 x.stuffs.length c2, .slice a3 x.uses.length c3, .slice a4 x.opens.length c4, .slice a5 x.shuts.length c5] 42)).alloc (.cells #[.int .i64 x.number, .int .i64 x.kind, .slice e2 x.stuffs.length d2, .slice e3 x.uses.length d3, .slice e4 x.opens.length d4, .slice e5 x.shuts.length d5] 42)) :=
    ((Below.refl _ _).alloc (Nat.le_refl _) _).alloc (by simp) _
  have i0 := (Row.new w 42 [.int .i64 x.number, .int .i64 x.kind, .slice a2 x.stuffs.length c2, .slice a3 x.uses.length c3, .slice a4 x.opens.length c4, .slice a5 x.shuts.length c5]).alloc (.cells #[.int .i64 x.number, .int .i64 x.kind, .slice e2 x.stuffs.length d2, .slice e3 x.uses.length d3, .slice e4 x.opens.length d4, .slice e5 x.shuts.length d5] 42)
  have o0 := Row.new (w.alloc (.cells #[.int .i64 x.number, .int .i64 x.kind, .slice a2 x.stuffs.length c2, .slice a3 x.uses.length c3, .slice a4 x.opens.length c4, .slice a5 x.shuts.length c5] 42)) 42 [.int .i64 x.number, .int .i64 x.kind, .slice e2 x.stuffs.length d2, .slice e3 x.uses.length d3, .slice e4 x.opens.length d4, .slice e5 x.shuts.length d5]
  have hsz : (w.alloc (.cells #[.int .i64 x.number, .int .i64 x.kind, .slice a2 x.stuffs.length c2, .slice a3 x.uses.length c3, .slice a4 x.opens.length c4, .slice a5 x.shuts.length c5] 42)).heap.size = w.heap.size + 1 := by simp
  rw [hsz] at o0
  clear hsz
  have hn : (x.number != x.number) = false := by simp
  have hk : (x.kind != x.kind) = false := by simp
  go_enter Tryz.func12, Tryz.ntmps12
  go_wp2_with fail
  refine (eqStringS_any a2 e2 c2 d2 x.stuffs x.stuffs _ (hin.later b0).stuffs (hie.later b0).stuffs hf.stuffs.1).mono ?_
  rintro e w1 ⟨rfl, hb⟩
  rw [eqSS_self]
  have b1 := b0.trans (hb.mono b0.size)
  have i1 := i0.later hb
  have o1 := o0.later hb
  clear b0 i0 o0 hb
  have p3 := i1.cell 3 rfl
  have p4 := i1.cell 4 rfl
  have p5 := i1.cell 5 rfl
  have q3 := o1.cell 3 rfl
  have q4 := o1.cell 4 rfl
  have q5 := o1.cell 5 rfl
  go_wp2_with fail
  refine (eqClaimUseS_any a3 e3 c3 d3 x.uses x.uses _ (hin.later b1).uses (hie.later b1).uses hf.usesLen).mono ?_
  rintro e w2 ⟨rfl, hb⟩
  rw [eqUU_self]
  have b2 := b1.trans (hb.mono b1.size)
  have i2 := i1.later hb
  have o2 := o1.later hb
  clear b1 i1 o1 hb p3 p4 p5 q3 q4 q5
  have p4 := i2.cell 4 rfl
  have p5 := i2.cell 5 rfl
  have q4 := o2.cell 4 rfl
  have q5 := o2.cell 5 rfl
  go_wp2_with fail
  refine (eqStringS_any a4 e4 c4 d4 x.opens x.opens _ (hin.later b2).opens (hie.later b2).opens hf.opens.1).mono ?_
  rintro e w3 ⟨rfl, hb⟩
  rw [eqSS_self]
  have b3 := b2.trans (hb.mono b2.size)
  have i3 := i2.later hb
  have o3 := o2.later hb
  clear b2 i2 o2 hb p4 p5 q4 q5
  have p5 := i3.cell 5 rfl
  have q5 := o3.cell 5 rfl
  go_wp2_with fail
  refine (eqStringS_any a5 e5 c5 d5 x.shuts x.shuts _ (hin.later b3).shuts (hie.later b3).shuts hf.shuts.1).mono ?_
  rintro e w4 ⟨rfl, hb⟩
  rw [eqSS_self]
  go_wp2
  go_ret
  exact ⟨rfl, b3.trans (hb.mono b3.size)⟩

end Go.Proofs.YtfmhkicncgccjaaGreatDoor

/- How what came in reads: lists of texts, lists of uses, a want. -/
namespace Go.Proofs.YtfmhkicncgccjaaGreatDoor
open Go.RowKit Go.Sort

theorem addr_spot {w : World} {a : Addr} {v : Value} (h : w.cell? a = some v) : a.spot = none := by
  unfold World.cell? at h
  split at h
  · split at h
    · cases h
    · rename_i hs
      cases hq : a.spot with
      | none => rfl
      | some x => rw [hq] at hs; simp at hs
  · cases h

theorem add_lit (b o k : Nat) : (⟨b, o, none⟩ : Addr).add k = ⟨b, o + k, none⟩ := by
  unfold Addr.add
  split
  · rename_i h; subst h; rfl
  · rfl

theorem rowAt_of {w : World} {a : Addr} {n size : Nat} {f : Nat → Nat → Value} (hs : 0 < size) (h : ∀ k, k < n → ∀ j, j < size → w.cell? ((a.add (k * size)).add j) = some (f k j)) : RowAt w (some a) n size f := by
  intro k hk
  have h0 := h 0 (by omega) 0 hs
  have e0 : (a.add (0 * size)).add 0 = a := by simp [Addr.add]
  rw [e0] at h0
  have hsp := addr_spot h0
  obtain ⟨b, o, sp⟩ := a
  simp only at hsp
  subst hsp
  refine ⟨b, o, rfl, World.block_lt_of_cell? _ _ h0, fun j hj => ?_⟩
  have := h k hk j hj
  rwa [add_lit, add_lit] at this

section
variable {H : Type} {enc : TypeId × Value → H} {W : World}

theorem open_texts {t e : TypeId} {fuel : Nat} {v : Value} {x : DataW H × List MemPlace} (ht : Tryz.prog.underlying t = some (.slice e)) (he : Tryz.prog.underlying e = some .string) (hc : Tryz.prog.cellsOf e = 1)
    (h : DataW.trod enc Tryz.prog W 0 (fun _ => true) true fuel t [v] = some x) : ∃ a ss cap, v = .slice a ss.length cap ∧ StrsAt W a ss ∧ Fit ss := by
  rcases Go.Deep.open_strs ht he hc h with ⟨hcs, _⟩ | ⟨a, len, cap, m, Sx, hcs, _, hl, hm, hmm, _, hcell⟩
  · simp only [List.cons.injEq, and_true] at hcs
    exact ⟨none, [], 0, hcs, fun k hk => absurd hk (Nat.not_lt_zero _), Nat.zero_le _, fun s hs => by cases hs⟩
  · simp only [List.cons.injEq, and_true] at hcs
    have hmc : m = cap := by simpa using hmm
    refine ⟨some a, (List.range len).map Sx, cap, by simpa using hcs, ?_, by simp; omega, fun s hs => ?_⟩
    · refine rowAt_of (by omega) (fun k hk j hj => ?_)
      have hk' : k < len := by simpa using hk
      have hj0 : j = 0 := by omega
      subst hj0
      have := (hcell k (by omega)).1
      have e1 : (a.add (k * 1)).add 0 = a.add k := by rw [Nat.mul_one]; simp [Addr.add]
      rw [e1, this, gs_lt hk]
      simp
    · simp only [List.mem_map, List.mem_range] at hs
      obtain ⟨i, hi, rfl⟩ := hs
      exact (hcell i (by omega)).2

theorem add_add' (a : Addr) (i j : Nat) : (a.add i).add j = a.add (i + j) := Go.Deep.add_add a i j

theorem open_uses {t e : TypeId} {f0 f1 f2 : Field} {fuel : Nat} {v : Value} {x : DataW H × List MemPlace} (ht : Tryz.prog.underlying t = some (.slice e)) (he : Tryz.prog.underlying e = some (.struct #[f0, f1, f2])) (hc : Tryz.prog.cellsOf e = 3)
    (h0 : Tryz.prog.underlying f0.type = some .string) (h1 : Tryz.prog.underlying f1.type = some (.int .i64)) (h2 : Tryz.prog.underlying f2.type = some (.int .i64))
    (k0 : Tryz.prog.cellsOf f0.type = 1) (k1 : Tryz.prog.cellsOf f1.type = 1) (k2 : Tryz.prog.cellsOf f2.type = 1) (o0 : f0.offset = 0) (o1 : f1.offset = 1) (o2 : f2.offset = 2)
    (h : DataW.trod enc Tryz.prog W 0 (fun _ => true) true fuel t [v] = some x) : ∃ a us cap, v = .slice a us.length cap ∧ UsesAt W a us ∧ us.length ≤ maxLen ∧ ∀ u ∈ us, u.name.size ≤ maxLen := by
  rcases Go.Deep.open_slice ht h with ⟨hcs, _⟩ | ⟨a, len, cap, m, n, D, Pl, hcs, _, hl, hm, hmm, _, hcell⟩
  · simp only [List.cons.injEq, and_true] at hcs
    exact ⟨none, [], 0, hcs, fun k hk => absurd hk (Nat.not_lt_zero _), Nat.zero_le _, fun s hs => by cases hs⟩
  · simp only [List.cons.injEq, and_true] at hcs
    have hmc : m = cap := by simpa using hmm
    have each : ∀ i, i < len → ∃ u : Use, (∀ j, j < 3 → W.cell? ((a.add (i * 3)).add j) = some (useCell u j)) ∧ u.name.size ≤ maxLen := fun i hi => by
      obtain ⟨cs, hcs1, htr⟩ := hcell i (by omega)
      rw [hc] at hcs1
      obtain ⟨_, hlen, hcs2⟩ := World.cells?_some hcs1
      match cs, hlen with
      | [v0, v1, v2], _ =>
        obtain ⟨y0, y1, y2, nn, _, _, t0, t1, t2⟩ := Go.Deep.trod_struct3 he htr
        rw [o0, k0] at t0
        rw [o1, k1] at t1
        rw [o2, k2] at t2
        obtain ⟨s, es, _, hss⟩ := DataW.trod_string h0 t0
        obtain ⟨r, er, _, _⟩ := DataW.trod_int h1 t1
        obtain ⟨q, eq, _, _⟩ := DataW.trod_int h2 t2
        simp at es er eq
        subst es er eq
        refine ⟨⟨s, r, q⟩, fun j hj => ?_, hss⟩
        rw [hcs2 j hj]
        match j, hj with
        | 0, _ => rfl
        | 1, _ => rfl
        | 2, _ => rfl
    obtain ⟨U, hU⟩ := @Go.Deep.choose_lt Use ⟨useNil⟩ _ _ each
    refine ⟨some a, (List.range len).map U, cap, by simpa using hcs, ?_, by simp; omega, fun u hu => ?_⟩
    · refine rowAt_of (by omega) (fun k hk j hj => ?_)
      have hk' : k < len := by simpa using hk
      have := (hU k hk').1 j hj
      rw [this, gu_lt hk]
      simp
    · simp only [List.mem_map, List.mem_range] at hu
      obtain ⟨i, hi, rfl⟩ := hu
      exact (hU i hi).2

end
end Go.Proofs.YtfmhkicncgccjaaGreatDoor

/- Books: plain data, and where they lie in memory. -/
namespace Go.Proofs.YtfmhkicncgccjaaGreatDoor
open Go.RowKit Go.Sort
set_option linter.unusedSimpArgs false
set_option linter.unusedVariables false

structure Foe where
  a : ByteArray
  b : ByteArray

structure Spot where
  name : ByteArray
  cap : Int
  least : Int
  most : Int
  may : List ByteArray

structure Part where
  want : Want
  stopped : Bool

structure Book where
  foes : List Foe
  spots : List Spot
  valves : List ByteArray
  parts : List Part
  seen : Int

def foeNil : Foe := ⟨.empty, .empty⟩
def spotNil : Spot := ⟨.empty, 0, 0, 0, []⟩
def wantNil : Want := ⟨0, 0, [], [], [], []⟩
def partNil : Part := ⟨wantNil, false⟩

def gf (fs : List Foe) (k : Nat) : Foe := fs.getD k foeNil
def gp (ps : List Spot) (k : Nat) : Spot := ps.getD k spotNil
def gq (ps : List Part) (k : Nat) : Part := ps.getD k partNil

theorem gf_lt {fs : List Foe} {k : Nat} (h : k < fs.length) : gf fs k = fs[k] := by simp [gf, h]
theorem gp_lt {fs : List Spot} {k : Nat} (h : k < fs.length) : gp fs k = fs[k] := by simp [gp, h]
theorem gq_lt {fs : List Part} {k : Nat} (h : k < fs.length) : gq fs k = fs[k] := by simp [gq, h]
theorem gf_mem {fs : List Foe} {k : Nat} (h : k < fs.length) : gf fs k ∈ fs := by rw [gf_lt h]; exact List.getElem_mem _
theorem gp_mem {fs : List Spot} {k : Nat} (h : k < fs.length) : gp fs k ∈ fs := by rw [gp_lt h]; exact List.getElem_mem _
theorem gq_mem {fs : List Part} {k : Nat} (h : k < fs.length) : gq fs k ∈ fs := by rw [gq_lt h]; exact List.getElem_mem _

def foeV (f : Foe) : Value := .agg #[.string f.a, .string f.b]
def spotV (s : Spot) (m : Option Addr) (c : Nat) : Value := .agg #[.string s.name, .int .i64 s.cap, .int .i64 s.least, .int .i64 s.most, .slice m s.may.length c]
def partV (p : Part) (a2 a3 a4 a5 : Option Addr) (c2 c3 c4 c5 : Nat) : Value :=
  .agg #[.int .i64 p.want.number, .int .i64 p.want.kind, .slice a2 p.want.stuffs.length c2, .slice a3 p.want.uses.length c3, .slice a4 p.want.opens.length c4, .slice a5 p.want.shuts.length c5, .bool p.stopped]
def bookV (x : Book) (af ap av aq : Option Addr) (cf cp cv cq : Nat) : Value :=
  .agg #[.slice af x.foes.length cf, .slice ap x.spots.length cp, .slice av x.valves.length cv, .slice aq x.parts.length cq, .int .i64 x.seen]

def foeCell (f : Foe) : Nat → Value
  | 0 => .string f.a
  | _ => .string f.b
def spotCell (s : Spot) (m : Option Addr) (c : Nat) : Nat → Value
  | 0 => .string s.name
  | 1 => .int .i64 s.cap
  | 2 => .int .i64 s.least
  | 3 => .int .i64 s.most
  | _ => .slice m s.may.length c
def partCell (p : Part) (A : Nat → Option Addr) (C : Nat → Nat) : Nat → Value
  | 0 => .int .i64 p.want.number
  | 1 => .int .i64 p.want.kind
  | 2 => .slice (A 2) p.want.stuffs.length (C 2)
  | 3 => .slice (A 3) p.want.uses.length (C 3)
  | 4 => .slice (A 4) p.want.opens.length (C 4)
  | 5 => .slice (A 5) p.want.shuts.length (C 5)
  | _ => .bool p.stopped

def FoesAt (w : World) (a : Option Addr) (fs : List Foe) : Prop := RowAt w a fs.length 2 (fun k => foeCell (gf fs k))
def SpotsAt (w : World) (a : Option Addr) (ps : List Spot) : Prop :=
  ∃ (m : Nat → Option Addr) (c : Nat → Nat), RowAt w a ps.length 5 (fun k => spotCell (gp ps k) (m k) (c k)) ∧ (∀ k, k < ps.length → StrsAt w (m k) (gp ps k).may) ∧ ∀ k, k < ps.length → (gp ps k).may.length ≤ c k
def PartsAt (w : World) (a : Option Addr) (ps : List Part) : Prop :=
  ∃ (A : Nat → Nat → Option Addr) (C : Nat → Nat → Nat), RowAt w a ps.length 7 (fun k => partCell (gq ps k) (A k) (C k)) ∧ ∀ k, k < ps.length → WantIn w (gq ps k).want (A k 2) (A k 3) (A k 4) (A k 5)

theorem FoesAt.later {w w' : World} {a : Option Addr} {fs : List Foe} (h : FoesAt w a fs) (hb : Below w.heap.size w w') : FoesAt w' a fs := RowAt.later h hb
theorem SpotsAt.later {w w' : World} {a : Option Addr} {fs : List Spot} (h : SpotsAt w a fs) (hb : Below w.heap.size w w') : SpotsAt w' a fs := by
  obtain ⟨m, c, h1, h2, h3⟩ := h
  exact ⟨m, c, h1.later hb, fun k hk => (h2 k hk).later hb, h3⟩
theorem PartsAt.later {w w' : World} {a : Option Addr} {fs : List Part} (h : PartsAt w a fs) (hb : Below w.heap.size w w') : PartsAt w' a fs := by
  obtain ⟨m, c, h1, h2⟩ := h
  exact ⟨m, c, h1.later hb, fun k hk => (h2 k hk).later hb⟩

theorem FoesAt.at {w : World} {a : Option Addr} {fs : List Foe} (h : FoesAt w a fs) {k : Nat} (hk : k < fs.length) :
    ∃ b o, a = some ⟨b, o, none⟩ ∧ b < w.heap.size ∧ w.cell? ⟨b, o + k * 2, none⟩ = some (.string (gf fs k).a) ∧ w.cell? ⟨b, o + k * 2 + 1, none⟩ = some (.string (gf fs k).b) := by
  obtain ⟨b, o, ha, hl, hc⟩ := h k hk
  exact ⟨b, o, ha, hl, hc 0 (by omega), hc 1 (by omega)⟩
theorem SpotsAt.at {w : World} {a : Option Addr} {fs : List Spot} (h : SpotsAt w a fs) {k : Nat} (hk : k < fs.length) :
    ∃ b o m c, a = some ⟨b, o, none⟩ ∧ b < w.heap.size ∧ w.cell? ⟨b, o + k * 5, none⟩ = some (.string (gp fs k).name) ∧ w.cell? ⟨b, o + k * 5 + 1, none⟩ = some (.int .i64 (gp fs k).cap) ∧
      w.cell? ⟨b, o + k * 5 + 2, none⟩ = some (.int .i64 (gp fs k).least) ∧ w.cell? ⟨b, o + k * 5 + 3, none⟩ = some (.int .i64 (gp fs k).most) ∧
      w.cell? ⟨b, o + k * 5 + 4, none⟩ = some (.slice m (gp fs k).may.length c) ∧ StrsAt w m (gp fs k).may := by
  obtain ⟨m, c, h, h2, h3⟩ := h
  obtain ⟨b, o, ha, hl, hc⟩ := h k hk
  exact ⟨b, o, m k, c k, ha, hl, hc 0 (by omega), hc 1 (by omega), hc 2 (by omega), hc 3 (by omega), hc 4 (by omega), h2 k hk⟩
theorem SpotsAt.atCap {w : World} {a : Option Addr} {fs : List Spot} (h : SpotsAt w a fs) {k : Nat} (hk : k < fs.length) :
    ∃ b o m c, a = some ⟨b, o, none⟩ ∧ b < w.heap.size ∧ w.cell? ⟨b, o + k * 5, none⟩ = some (.string (gp fs k).name) ∧ w.cell? ⟨b, o + k * 5 + 1, none⟩ = some (.int .i64 (gp fs k).cap) ∧
      w.cell? ⟨b, o + k * 5 + 2, none⟩ = some (.int .i64 (gp fs k).least) ∧ w.cell? ⟨b, o + k * 5 + 3, none⟩ = some (.int .i64 (gp fs k).most) ∧
      w.cell? ⟨b, o + k * 5 + 4, none⟩ = some (.slice m (gp fs k).may.length c) ∧ StrsAt w m (gp fs k).may ∧ (gp fs k).may.length ≤ c := by
  obtain ⟨m, c, h, h2, h3⟩ := h
  obtain ⟨b, o, ha, hl, hc⟩ := h k hk
  exact ⟨b, o, m k, c k, ha, hl, hc 0 (by omega), hc 1 (by omega), hc 2 (by omega), hc 3 (by omega), hc 4 (by omega), h2 k hk, h3 k hk⟩
theorem PartsAt.at {w : World} {a : Option Addr} {fs : List Part} (h : PartsAt w a fs) {k : Nat} (hk : k < fs.length) :
    ∃ b o a2 a3 a4 a5 c2 c3 c4 c5, a = some ⟨b, o, none⟩ ∧ b < w.heap.size ∧ w.cell? ⟨b, o + k * 7, none⟩ = some (.int .i64 (gq fs k).want.number) ∧ w.cell? ⟨b, o + k * 7 + 1, none⟩ = some (.int .i64 (gq fs k).want.kind) ∧
      w.cell? ⟨b, o + k * 7 + 2, none⟩ = some (.slice a2 (gq fs k).want.stuffs.length c2) ∧ w.cell? ⟨b, o + k * 7 + 3, none⟩ = some (.slice a3 (gq fs k).want.uses.length c3) ∧
      w.cell? ⟨b, o + k * 7 + 4, none⟩ = some (.slice a4 (gq fs k).want.opens.length c4) ∧ w.cell? ⟨b, o + k * 7 + 5, none⟩ = some (.slice a5 (gq fs k).want.shuts.length c5) ∧
      w.cell? ⟨b, o + k * 7 + 6, none⟩ = some (.bool (gq fs k).stopped) ∧ WantIn w (gq fs k).want a2 a3 a4 a5 := by
  obtain ⟨A, C, h, h2⟩ := h
  obtain ⟨b, o, ha, hl, hc⟩ := h k hk
  exact ⟨b, o, A k 2, A k 3, A k 4, A k 5, C k 2, C k 3, C k 4, C k 5, ha, hl, hc 0 (by omega), hc 1 (by omega), hc 2 (by omega), hc 3 (by omega), hc 4 (by omega), hc 5 (by omega), hc 6 (by omega), h2 k hk⟩

/-- What lies at an address lies from block B on. -/
def AddrFrom (B : Nat) (a : Option Addr) : Prop := ∀ b o, a = some ⟨b, o, none⟩ → B ≤ b

theorem RowAt.setLow {w : World} {a : Option Addr} {n size B : Nat} {f : Nat → Nat → Value} (h : RowAt w a n size f) (ha : AddrFrom B a) {p : Addr} (hp : p.block < B) (v : Value) : RowAt (w.setCell p v) a n size f :=
  h.setOther (fun b o e => by have := ha b o e; omega) v

/-- Spots, all of whose memory lies from block B on. -/
def SpotsFrom (B : Nat) (w : World) (a : Option Addr) (ps : List Spot) : Prop :=
  AddrFrom B a ∧ ∃ (m : Nat → Option Addr) (c : Nat → Nat), RowAt w a ps.length 5 (fun k => spotCell (gp ps k) (m k) (c k)) ∧ (∀ k, k < ps.length → StrsAt w (m k) (gp ps k).may ∧ AddrFrom B (m k)) ∧ ∀ k, k < ps.length → (gp ps k).may.length ≤ c k
def PartsFrom (B : Nat) (w : World) (a : Option Addr) (ps : List Part) : Prop :=
  AddrFrom B a ∧ ∃ (A : Nat → Nat → Option Addr) (C : Nat → Nat → Nat), RowAt w a ps.length 7 (fun k => partCell (gq ps k) (A k) (C k)) ∧ ∀ k, k < ps.length → WantIn w (gq ps k).want (A k 2) (A k 3) (A k 4) (A k 5) ∧ AddrFrom B (A k 2) ∧ AddrFrom B (A k 3) ∧ AddrFrom B (A k 4) ∧ AddrFrom B (A k 5)

theorem SpotsFrom.at_ {B : Nat} {w : World} {a : Option Addr} {ps : List Spot} (h : SpotsFrom B w a ps) : SpotsAt w a ps := by
  obtain ⟨_, m, c, h1, h2, h3⟩ := h
  exact ⟨m, c, h1, fun k hk => (h2 k hk).1, h3⟩
theorem PartsFrom.at_ {B : Nat} {w : World} {a : Option Addr} {ps : List Part} (h : PartsFrom B w a ps) : PartsAt w a ps := by
  obtain ⟨_, m, c, h1, h2⟩ := h
  exact ⟨m, c, h1, fun k hk => (h2 k hk).1⟩
theorem SpotsFrom.later {B : Nat} {w w' : World} {a : Option Addr} {ps : List Spot} (h : SpotsFrom B w a ps) (hb : Below w.heap.size w w') : SpotsFrom B w' a ps := by
  obtain ⟨h0, m, c, h1, h2, h3⟩ := h
  exact ⟨h0, m, c, h1.later hb, fun k hk => ⟨(h2 k hk).1.later hb, (h2 k hk).2⟩, h3⟩
theorem PartsFrom.later {B : Nat} {w w' : World} {a : Option Addr} {ps : List Part} (h : PartsFrom B w a ps) (hb : Below w.heap.size w w') : PartsFrom B w' a ps := by
  obtain ⟨h0, m, c, h1, h2⟩ := h
  exact ⟨h0, m, c, h1.later hb, fun k hk => ⟨(h2 k hk).1.later hb, (h2 k hk).2⟩⟩
theorem SpotsFrom.setLow {B : Nat} {w : World} {a : Option Addr} {ps : List Spot} (h : SpotsFrom B w a ps) {p : Addr} (hp : p.block < B) (v : Value) : SpotsFrom B (w.setCell p v) a ps := by
  obtain ⟨h0, m, c, h1, h2, h3⟩ := h
  exact ⟨h0, m, c, h1.setLow h0 hp v, fun k hk => ⟨RowAt.setLow (h2 k hk).1 (h2 k hk).2 hp v, (h2 k hk).2⟩, h3⟩
theorem PartsFrom.setLow {B : Nat} {w : World} {a : Option Addr} {ps : List Part} (h : PartsFrom B w a ps) {p : Addr} (hp : p.block < B) (v : Value) : PartsFrom B (w.setCell p v) a ps := by
  obtain ⟨h0, m, c, h1, h2⟩ := h
  refine ⟨h0, m, c, h1.setLow h0 hp v, fun k hk => ?_⟩
  obtain ⟨⟨k1, k2, k3, k4⟩, g1, g2, g3, g4⟩ := h2 k hk
  exact ⟨⟨RowAt.setLow k1 g1 hp v, RowAt.setLow k2 g2 hp v, RowAt.setLow k3 g3 hp v, RowAt.setLow k4 g4 hp v⟩, g1, g2, g3, g4⟩

structure BookIn (w : World) (x : Book) (af ap av aq : Option Addr) : Prop where
  foes : FoesAt w af x.foes
  spots : SpotsAt w ap x.spots
  valves : StrsAt w av x.valves
  parts : PartsAt w aq x.parts

theorem BookIn.later {w w' : World} {x : Book} {af ap av aq : Option Addr} (h : BookIn w x af ap av aq) (hb : Below w.heap.size w w') : BookIn w' x af ap av aq :=
  ⟨h.foes.later hb, h.spots.later hb, h.valves.later hb, h.parts.later hb⟩

structure FoesFit (fs : List Foe) : Prop where
  len : fs.length ≤ maxLen
  names : ∀ f ∈ fs, f.a.size ≤ maxLen ∧ f.b.size ≤ maxLen
structure SpotsFit (fs : List Spot) : Prop where
  len : fs.length ≤ maxLen
  names : ∀ f ∈ fs, f.name.size ≤ maxLen ∧ Fit f.may
structure PartsFit (fs : List Part) : Prop where
  len : fs.length ≤ maxLen
  wants : ∀ f ∈ fs, WantFit f.want
structure BookFit (x : Book) : Prop where
  foes : FoesFit x.foes
  spots : SpotsFit x.spots
  valves : Fit x.valves
  parts : PartsFit x.parts

structure BookRoom (x : Book) : Prop where
  foes : x.foes.length ≤ 1048576
  spots : x.spots.length ≤ 1048576
  mays : ∀ s ∈ x.spots, s.may.length ≤ 1048576
  valves : x.valves.length ≤ 1048576
  parts : x.parts.length ≤ 1048576
  wants : ∀ p ∈ x.parts, WantRoom p.want

end Go.Proofs.YtfmhkicncgccjaaGreatDoor

/- What the law's own sz functions answer of books. -/
namespace Go.Proofs.YtfmhkicncgccjaaGreatDoor
open Go.RowKit Go.Sort
set_option linter.unusedSimpArgs false
set_option linter.unusedVariables false

set_option maxHeartbeats 400000 in
theorem szClaimFoe_any (f : Foe) (left : Int) (w : World) (h : f.a.size ≤ maxLen ∧ f.b.size ≤ maxLen) (h0 : -1 ≤ left) (h1 : left ≤ 1048576) :
    Calls Tryz.prog 59 #[foeV f, .int .i64 left] w fun e w' => (∃ r : Int, e = .returned (.int .i64 r) ∧ -1 ≤ r ∧ r ≤ left) ∧ Below w.heap.size w w' := by
  obtain ⟨ha, hb⟩ := h
  unfold maxLen at ha hb
  unfold foeV
  go_enter Tryz.func59, Tryz.ntmps59
  go_wp2
  all_goals go_ret
  all_goals exact ⟨⟨_, rfl, by omega, by omega⟩, (Below.refl _ _).alloc (Nat.le_refl _) _⟩

set_option maxHeartbeats 400000 in
theorem szClaimFoeS_any (a : Option Addr) (cap : Nat) (us : List Foe) (left : Int) (w : World) (hm : FoesAt w a us) (hf : FoesFit us) (h0 : -1 ≤ left) (h1 : left ≤ 1048576) :
    Calls Tryz.prog 18 #[.slice a us.length cap, .int .i64 left] w fun e w' => (∃ r : Int, e = .returned (.int .i64 r) ∧ -1 ≤ r ∧ r ≤ left ∧ (0 ≤ r → us.length ≤ 1048576)) ∧ Below w.heap.size w w' := by
  obtain ⟨hl, hs⟩ := hf
  unfold maxLen at hl
  by_cases hneg : left - us.length < 0
  · go_enter Tryz.func18, Tryz.ntmps18
    go_wp2
    go_ret
    exact ⟨⟨-1, rfl, by omega, by omega, by omega⟩, Below.refl _ _⟩
  · go_enter Tryz.func18, Tryz.ntmps18
    go_wp2
    go_loopw [1, 5] (fun t i wr => ∃ (k : Nat) (l : Int), k ≤ us.length ∧ i = .int .i64 k ∧ t = .int .i64 l ∧ 0 ≤ l ∧ l ≤ left ∧ Below w.heap.size w wr) (fun _ i _ => us.length - (intOf i).toNat)
    case atStart => exact ⟨0, _, Nat.zero_le _, rfl, rfl, by omega, by omega, Below.refl _ _⟩
    case round =>
      obtain ⟨k, l, hk, rfl, rfl, hl0, hl1, hbel⟩ := hrel
      by_cases hlt : k < us.length
      · obtain ⟨b, o, ha, hb, hc0, hc1⟩ := (hm.later hbel).at hlt
        have hsz := hs _ (gf_mem hlt)
        clear hs
        generalize gf us k = u at hc0 hc1 hsz
        subst ha
        go_wp2_with (go_at_call 59; refine (szClaimFoe_any u l _ hsz (by omega) (by omega)).mono ?_; rintro e w1 ⟨⟨r, rfl, hr0, hr1⟩, hb1⟩)
        · go_ret
          exact ⟨⟨-1, rfl, by omega, by omega, by omega⟩, hbel.trans (hb1.mono hbel.size)⟩
        · go_roundw
          case rel => exact ⟨k + 1, r, by omega, by go_num, rfl, by omega, by omega, hbel.trans (hb1.mono hbel.size)⟩
          case measure => simp [intOf]; omega
      · go_wp2
        go_ret
        exact ⟨⟨l, rfl, by omega, by omega, by omega⟩, hbel⟩

set_option maxHeartbeats 400000 in
theorem szClaimSpot_any (s : Spot) (m : Option Addr) (c : Nat) (left : Int) (w : World) (hm : StrsAt w m s.may) (h : s.name.size ≤ maxLen ∧ Fit s.may) (h0 : -1 ≤ left) (h1 : left ≤ 1048576) :
    Calls Tryz.prog 60 #[spotV s m c, .int .i64 left] w fun e w' => (∃ r : Int, e = .returned (.int .i64 r) ∧ -1 ≤ r ∧ r ≤ left ∧ (0 ≤ r → s.may.length ≤ 1048576)) ∧ Below w.heap.size w w' := by
  obtain ⟨ha, hb⟩ := h
  unfold maxLen at ha
  unfold spotV
  have hm' := hm.later ((Below.refl _ _).alloc (Nat.le_refl _) (.cells #[.string s.name, .int .i64 s.cap, .int .i64 s.least, .int .i64 s.most, .slice m s.may.length c] 90))
  by_cases hn : left - s.name.size < 0
  · go_enter Tryz.func60, Tryz.ntmps60
    go_wp2
    go_ret
    exact ⟨⟨-1, rfl, by omega, by omega, by omega⟩, (Below.refl _ _).alloc (Nat.le_refl _) _⟩
  · go_enter Tryz.func60, Tryz.ntmps60
    go_wp2_with (go_at_call 20; refine (szStringS_any m c s.may _ _ hm' hb (by omega) (by omega)).mono ?_; rintro e w1 ⟨⟨r, rfl, hr0, hr1, hr2⟩, rfl⟩)
    · go_ret
      exact ⟨⟨-1, rfl, by omega, by omega, by omega⟩, (Below.refl _ _).alloc (Nat.le_refl _) _⟩
    · go_ret
      exact ⟨⟨r, rfl, by omega, by omega, hr2⟩, (Below.refl _ _).alloc (Nat.le_refl _) _⟩

set_option maxHeartbeats 400000 in
theorem szClaimSpotS_any (a : Option Addr) (cap : Nat) (us : List Spot) (left : Int) (w : World) (hm : SpotsAt w a us) (hf : SpotsFit us) (h0 : -1 ≤ left) (h1 : left ≤ 1048576) :
    Calls Tryz.prog 19 #[.slice a us.length cap, .int .i64 left] w fun e w' => (∃ r : Int, e = .returned (.int .i64 r) ∧ -1 ≤ r ∧ r ≤ left ∧ (0 ≤ r → us.length ≤ 1048576 ∧ ∀ s ∈ us, s.may.length ≤ 1048576)) ∧ Below w.heap.size w w' := by
  obtain ⟨hl, hs⟩ := hf
  unfold maxLen at hl
  by_cases hneg : left - us.length < 0
  · go_enter Tryz.func19, Tryz.ntmps19
    go_wp2
    go_ret
    exact ⟨⟨-1, rfl, by omega, by omega, by omega⟩, Below.refl _ _⟩
  · go_enter Tryz.func19, Tryz.ntmps19
    go_wp2
    go_loopw [1, 5] (fun t i wr => ∃ (k : Nat) (l : Int), k ≤ us.length ∧ i = .int .i64 k ∧ t = .int .i64 l ∧ 0 ≤ l ∧ l ≤ left ∧ (∀ j, j < k → (gp us j).may.length ≤ 1048576) ∧ Below w.heap.size w wr) (fun _ i _ => us.length - (intOf i).toNat)
    case atStart => exact ⟨0, _, Nat.zero_le _, rfl, rfl, by omega, by omega, fun j hj => absurd hj (Nat.not_lt_zero _), Below.refl _ _⟩
    case round =>
      obtain ⟨k, l, hk, rfl, rfl, hl0, hl1, hR, hbel⟩ := hrel
      have HR : Hid (∀ j, j < k → (gp us j).may.length ≤ 1048576) := hR
      clear hR
      by_cases hlt : k < us.length
      · obtain ⟨b, o, m, c, ha, hb, hc0, hc1, hc2, hc3, hc4, hst⟩ := (hm.later hbel).at hlt
        have hsz := hs _ (gp_mem hlt)
        clear hs
        subst ha
        go_wp2_with (go_at_call 60; refine (szClaimSpot_any (gp us k) m c l _ hst hsz (by omega) (by omega)).mono ?_; rintro e w1 ⟨⟨r, rfl, hr0, hr1, hr2⟩, hb1⟩)
        · go_ret
          exact ⟨⟨-1, rfl, by omega, by omega, by omega⟩, hbel.trans (hb1.mono hbel.size)⟩
        · go_roundw
          case rel =>
            refine ⟨k + 1, r, by omega, by go_num, rfl, by omega, by omega, fun j hj => ?_, hbel.trans (hb1.mono hbel.size)⟩
            by_cases e : j = k
            · subst e; exact hr2 (by omega)
            · exact HR.out j (by omega)
          case measure => simp [intOf]; omega
      · go_wp2
        go_ret
        refine ⟨⟨l, rfl, by omega, by omega, fun _ => ⟨by omega, fun s hs' => ?_⟩⟩, hbel⟩
        obtain ⟨j, hj, rfl⟩ := List.getElem_of_mem hs'
        rw [← gp_lt hj]
        exact HR.out j (by omega)

set_option maxHeartbeats 400000 in
theorem szClaimPart_any (p : Part) (a2 a3 a4 a5 : Option Addr) (c2 c3 c4 c5 : Nat) (left : Int) (w : World) (hin : WantIn w p.want a2 a3 a4 a5) (hf : WantFit p.want) (h0 : -1 ≤ left) (h1 : left ≤ 1048576) :
    Calls Tryz.prog 61 #[partV p a2 a3 a4 a5 c2 c3 c4 c5, .int .i64 left] w fun e w' => (∃ r : Int, e = .returned (.int .i64 r) ∧ -1 ≤ r ∧ r ≤ left ∧ (0 ≤ r → WantRoom p.want)) ∧ Below w.heap.size w w' := by
  unfold partV
  have hb0 : Below w.heap.size w (w.alloc (.cells #[.int .i64 p.want.number, .int .i64 p.want.kind, .slice a2 p.want.stuffs.length c2, .slice a3 p.want.uses.length c3, .slice a4 p.want.opens.length c4, .slice a5 p.want.shuts.length c5, .bool p.stopped] 93)) := (Below.refl _ _).alloc (Nat.le_refl _) _
  go_enter Tryz.func61, Tryz.ntmps61
  go_wp2_with (go_at_call 6; refine (szClaimWant_any p.want a2 a3 a4 a5 c2 c3 c4 c5 left _ (hin.later hb0) hf h0 h1).mono ?_; rintro e w1 ⟨⟨r, rfl, hr0, hr1, hr2⟩, hb1⟩)
  · go_ret
    exact ⟨⟨-1, rfl, by omega, by omega, by omega⟩, below_over hb1⟩
  · go_ret
    exact ⟨⟨r, rfl, by omega, by omega, hr2⟩, below_over hb1⟩

set_option maxHeartbeats 400000 in
theorem szClaimPartS_any (a : Option Addr) (cap : Nat) (us : List Part) (left : Int) (w : World) (hm : PartsAt w a us) (hf : PartsFit us) (h0 : -1 ≤ left) (h1 : left ≤ 1048576) :
    Calls Tryz.prog 21 #[.slice a us.length cap, .int .i64 left] w fun e w' => (∃ r : Int, e = .returned (.int .i64 r) ∧ -1 ≤ r ∧ r ≤ left ∧ (0 ≤ r → us.length ≤ 1048576 ∧ ∀ s ∈ us, WantRoom s.want)) ∧ Below w.heap.size w w' := by
  obtain ⟨hl, hs⟩ := hf
  unfold maxLen at hl
  by_cases hneg : left - us.length < 0
  · go_enter Tryz.func21, Tryz.ntmps21
    go_wp2
    go_ret
    exact ⟨⟨-1, rfl, by omega, by omega, by omega⟩, Below.refl _ _⟩
  · go_enter Tryz.func21, Tryz.ntmps21
    go_wp2
    go_loopw [1, 5] (fun t i wr => ∃ (k : Nat) (l : Int), k ≤ us.length ∧ i = .int .i64 k ∧ t = .int .i64 l ∧ 0 ≤ l ∧ l ≤ left ∧ (∀ j, j < k → WantRoom (gq us j).want) ∧ Below w.heap.size w wr) (fun _ i _ => us.length - (intOf i).toNat)
    case atStart => exact ⟨0, _, Nat.zero_le _, rfl, rfl, by omega, by omega, fun j hj => absurd hj (Nat.not_lt_zero _), Below.refl _ _⟩
    case round =>
      obtain ⟨k, l, hk, rfl, rfl, hl0, hl1, hR, hbel⟩ := hrel
      have HR : Hid (∀ j, j < k → WantRoom (gq us j).want) := hR
      clear hR
      by_cases hlt : k < us.length
      · obtain ⟨b, o, a2, a3, a4, a5, c2, c3, c4, c5, ha, hb, hc0, hc1, hc2, hc3, hc4, hc5, hc6, hst⟩ := (hm.later hbel).at hlt
        have hsz := hs _ (gq_mem hlt)
        clear hs
        subst ha
        go_wp2_with (go_at_call 61; refine (szClaimPart_any (gq us k) a2 a3 a4 a5 c2 c3 c4 c5 l _ hst hsz (by omega) (by omega)).mono ?_; rintro e w1 ⟨⟨r, rfl, hr0, hr1, hr2⟩, hb1⟩)
        · go_ret
          exact ⟨⟨-1, rfl, by omega, by omega, by omega⟩, hbel.trans (hb1.mono hbel.size)⟩
        · go_roundw
          case rel =>
            refine ⟨k + 1, r, by omega, by go_num, rfl, by omega, by omega, fun j hj => ?_, hbel.trans (hb1.mono hbel.size)⟩
            by_cases e : j = k
            · subst e; exact hr2 (by omega)
            · exact HR.out j (by omega)
          case measure => simp [intOf]; omega
      · go_wp2
        go_ret
        refine ⟨⟨l, rfl, by omega, by omega, fun _ => ⟨by omega, fun s hs' => ?_⟩⟩, hbel⟩
        obtain ⟨j, hj, rfl⟩ := List.getElem_of_mem hs'
        rw [← gq_lt hj]
        exact HR.out j (by omega)

set_option maxHeartbeats 1000000 in
theorem szClaimBook_any (x : Book) (af ap av aq : Option Addr) (cf cp cv cq : Nat) (left : Int) (w : World) (hin : BookIn w x af ap av aq) (hf : BookFit x) (h0 : -1 ≤ left) (h1 : left ≤ 1048576) :
    Calls Tryz.prog 5 #[bookV x af ap av aq cf cp cv cq, .int .i64 left] w fun e w' => (∃ r : Int, e = .returned (.int .i64 r) ∧ -1 ≤ r ∧ r ≤ left ∧ (0 ≤ r → BookRoom x)) ∧ Below w.heap.size w w' := by
  unfold bookV
  have b0 : Below w.heap.size w (w.alloc (.cells #[.slice af x.foes.length cf, .slice ap x.spots.length cp, .slice av x.valves.length cv, .slice aq x.parts.length cq, .int .i64 x.seen] 27)) := (Below.refl _ _).alloc (Nat.le_refl _) _
  have i0 := Row.new w 27 [.slice af x.foes.length cf, .slice ap x.spots.length cp, .slice av x.valves.length cv, .slice aq x.parts.length cq, .int .i64 x.seen]
  go_enter Tryz.func5, Tryz.ntmps5
  go_wp2_with fail
  refine (szClaimFoeS_any af cf x.foes left _ (hin.later b0).foes hf.foes h0 h1).mono ?_
  rintro e w1 ⟨⟨r1, rfl, hr1, hr1', hR1⟩, hb⟩
  have b1 := b0.trans (hb.mono b0.size)
  have i1 := i0.later hb
  clear b0 i0 hb
  by_cases hn1 : r1 < 0
  · go_wp2
    go_ret
    exact ⟨⟨-1, rfl, by omega, by omega, by omega⟩, b1⟩
  have R1 := hR1 (by omega)
  clear hR1
  have q1 := i1.cell 1 rfl
  go_wp2_with fail
  refine (szClaimSpotS_any ap cp x.spots r1 _ (hin.later b1).spots hf.spots (by omega) (by omega)).mono ?_
  rintro e w2 ⟨⟨r2, rfl, hr2, hr2', hR2⟩, hb⟩
  have b2 := b1.trans (hb.mono b1.size)
  have i2 := i1.later hb
  clear b1 i1 hb q1
  by_cases hn2 : r2 < 0
  · go_wp2
    go_ret
    exact ⟨⟨-1, rfl, by omega, by omega, by omega⟩, b2⟩
  have R2 := hR2 (by omega)
  clear hR2
  have HR2 : Hid (x.spots.length ≤ 1048576 ∧ ∀ s ∈ x.spots, s.may.length ≤ 1048576) := R2
  clear R2
  have q2 := i2.cell 2 rfl
  go_wp2_with fail
  refine (szStringS_any av cv x.valves r2 _ (hin.later b2).valves hf.valves (by omega) (by omega)).mono ?_
  rintro e w3 ⟨⟨r3, rfl, hr3, hr3', hR3⟩, rfl⟩
  by_cases hn3 : r3 < 0
  · go_wp2
    go_ret
    exact ⟨⟨-1, rfl, by omega, by omega, by omega⟩, b2⟩
  have R3 := hR3 (by omega)
  clear hR3
  have q3 := i2.cell 3 rfl
  go_wp2_with fail
  refine (szClaimPartS_any aq cq x.parts r3 _ (hin.later b2).parts hf.parts (by omega) (by omega)).mono ?_
  rintro e w4 ⟨⟨r4, rfl, hr4, hr4', hR4⟩, hb⟩
  have b4 := b2.trans (hb.mono b2.size)
  by_cases hn4 : r4 < 0
  · go_wp2
    go_ret
    exact ⟨⟨-1, rfl, by omega, by omega, by omega⟩, b4⟩
  · have R4 := hR4 (by omega)
    have HR4 : Hid (x.parts.length ≤ 1048576 ∧ ∀ s ∈ x.parts, WantRoom s.want) := R4
    clear R4 hR4
    go_wp2
    go_ret
    exact ⟨⟨r4, rfl, by omega, by omega, fun _ => ⟨R1, HR2.out.1, HR2.out.2, R3, HR4.out.1, HR4.out.2⟩⟩, b4⟩

end Go.Proofs.YtfmhkicncgccjaaGreatDoor

/- What the law's own copying functions answer of foes and spots. -/
namespace Go.Proofs.YtfmhkicncgccjaaGreatDoor
open Go.RowKit Go.Sort
set_option linter.unusedSimpArgs false
set_option linter.unusedVariables false

theorem make_of {P : Program} {T E : TypeId} {z : Value} {size bytes : Nat} (ht : P.underlying T = some (.slice E)) (hinfo : (P.info? E).map (fun i => (i.zero, i.size, i.bytes)) = some (some z, size, bytes)) (n : Nat) (hb : (bytes : Int) * n ≤ 281474976710656) (hn : n ≤ 9223372036854775807) (w : World) :
    (Instr.makeSlice T (.int .i64 (n : Int)) (.int .i64 (n : Int))).run P w = .ok (.slice (some ⟨w.heap.size, 0, none⟩) n n) (w.alloc (.cells (madeCells z.cells (n * size)) E)) := by
  obtain ⟨i, hi, hz, hs, hbt⟩ := info_parts hinfo
  have hr := run_make (P := P) w T E i _ ht hi hz .i64 .i64 n n (by omega) (Int.le_refl _) (by rw [hbt]; exact hb) (by omega)
  simp only [Int.toNat_natCast, hs] at hr
  exact hr

theorem rowIs_madeN (w : World) (z : Array Value) (m : Nat) (t : TypeId) : (w.alloc (.cells (madeCells z m) t)).rowIs w.heap.size t m (fun i => z[i % z.size]!) :=
  ⟨madeCells z m, Go.Deep.blk_alloc_new _ _, size_madeCells _ _, fun i hi => by simp [madeCells, hi]⟩

theorem infoFoe : (Tryz.prog.info? 105).map (fun i => (i.zero, i.size, i.bytes)) = some (some (.agg #[.string .empty, .string .empty]), 2, 32) := by kernel_rfl
theorem infoSpot : (Tryz.prog.info? 99).map (fun i => (i.zero, i.size, i.bytes)) = some (some (.agg #[.string .empty, .int .i64 0, .int .i64 0, .int .i64 0, .slice none 0 0]), 5, 64) := by kernel_rfl
theorem infoPart : (Tryz.prog.info? 60).map (fun i => (i.zero, i.size, i.bytes)) = some (some (.agg #[.int .i64 0, .int .i64 0, .slice none 0 0, .slice none 0 0, .slice none 0 0, .slice none 0 0, .bool false]), 7, 120) := by kernel_rfl

set_option maxHeartbeats 400000 in
theorem toClaimFoe_any (u : Foe) (w : World) :
    Calls Tryz.prog 74 #[foeV u] w fun e w' => e = .returned (foeV u) ∧ Below w.heap.size w w' := by
  unfold foeV
  go_enter Tryz.func74, Tryz.ntmps74
  go_wp2
  exact bodyPost_ret (v := .agg #[.string u.a, .string u.b]) (by simp [results, Tryz.results74, go_sem]) rfl ⟨rfl, (((Below.refl _ _).alloc (Nat.le_refl _) _).alloc (by simp) _).alloc (by simp; omega) _⟩

set_option maxHeartbeats 400000 in
theorem toClaimFoeS_any (a : Option Addr) (cap : Nat) (us : List Foe) (w : World) (hm : FoesAt w a us) (hroom : us.length ≤ 1048576) :
    Calls Tryz.prog 33 #[.slice a us.length cap] w fun e w' => (∃ b, e = .returned (.slice (some ⟨b, 0, none⟩) us.length us.length) ∧ w.heap.size ≤ b ∧ FoesAt w' (some ⟨b, 0, none⟩) us) ∧ Below w.heap.size w w' := by
  have hmk := make_of (P := Tryz.prog) Tryz.underlying34 infoFoe us.length (by omega) (by omega)
  simp only [Value.cells] at hmk
  go_enter Tryz.func33, Tryz.ntmps33
  go_wp2
  go_loopw [4] (fun i wr => ∃ (k : Nat) (g : Nat → Value), k ≤ us.length ∧ i = .int .i64 k ∧ wr.rowIs w.heap.size 105 (us.length * 2) g ∧ (∀ j, j < k → ∀ c, c < 2 → g (j * 2 + c) = foeCell (gf us j) c) ∧ Below w.heap.size w wr) (fun i _ => us.length - (intOf i).toNat)
  case atStart =>
    exact ⟨0, _, Nat.zero_le _, rfl, rowIs_madeN w _ _ _, fun j hj => absurd hj (Nat.not_lt_zero _), (Below.refl _ _).alloc (Nat.le_refl _) _⟩
  case round =>
    obtain ⟨k, g, hk, rfl, hrow, hg, hbel⟩ := hrel
    clear hmk
    by_cases hlt : k < us.length
    · obtain ⟨b, o, ha, hb, hc0, hc1⟩ := (hm.later hbel).at hlt
      subst ha
      go_wp2_with fail
      refine (toClaimFoe_any (gf us k) _).mono ?_
      rintro e w1 ⟨rfl, hb1⟩
      have hrow1 : w1.rowIs w.heap.size 105 (us.length * 2) g := hrow.of_block (hb1.block _ hrow.lt)
      have hq0 := hrow1.cell (i := k * 2) (by omega)
      have hq1 := hrow1.cell (i := k * 2 + 1) (by omega)
      have hf0 := hrow1.frozen (k * 2)
      have hf1 := hrow1.frozen (k * 2 + 1)
      unfold foeV
      clear hc0 hc1
      go_wp2
      have hbel1 : Below w.heap.size w w1 := hbel.trans (hb1.mono hbel.size)
      go_roundw
      case rel =>
        refine ⟨k + 1, _, by omega, by go_num, (hrow1.set (k * 2) _).set (k * 2 + 1) _, ?_, (hbel1.setCell (Nat.le_refl _) _).setCell (Nat.le_refl _) _⟩
        intro j hj c hc
        by_cases e : j = k
        · subst e
          match c, hc with
          | 0, _ => simp [foeCell]
          | 1, _ => simp [foeCell]
        · have := hg j (by omega) c hc
          rw [← this]
          rw [if_neg (by omega), if_neg (by omega)]
      case measure => simp [intOf]; omega
    · have : k = us.length := by omega
      subst this
      go_wp2
      go_ret
      refine ⟨⟨w.heap.size, rfl, Nat.le_refl _, fun k hk => ⟨w.heap.size, 0, rfl, hrow.lt, fun j hj => ?_⟩⟩, hbel⟩
      have := hrow.cell (i := k * 2 + j) (by omega)
      rw [hg k hk j hj] at this
      simpa using this

set_option maxHeartbeats 1000000 in
theorem toClaimSpot_any (s : Spot) (m : Option Addr) (c : Nat) (w : World) (hm : StrsAt w m s.may) (hroom : s.may.length ≤ 1048576) :
    Calls Tryz.prog 75 #[spotV s m c] w fun e w' => (∃ d, e = .returned (spotV s (some ⟨d, 0, none⟩) s.may.length) ∧ w.heap.size < d ∧ StrsAt w' (some ⟨d, 0, none⟩) s.may) ∧ Below w.heap.size w w' := by
  unfold spotV
  go_enter Tryz.func75, Tryz.ntmps75
  go_wp2_with fail
  have b0 : Below w.heap.size w (((w.alloc (.cells #[.string s.name, .int .i64 s.cap, .int .i64 s.least, .int .i64 s.most, .slice m s.may.length c] 90)).alloc (.cells #[.string .empty, .int .i64 0, .int .i64 0, .int .i64 0, .slice none 0 0] 99)).alloc (.cells #[.string s.name, .int .i64 s.cap, .int .i64 s.least, .int .i64 s.most, .slice none 0 0] 99)) :=
    (((Below.refl _ _).alloc (Nat.le_refl _) _).alloc (by simp) _).alloc (by simp; omega) _
  have z0 : Row (((w.alloc (.cells #[.string s.name, .int .i64 s.cap, .int .i64 s.least, .int .i64 s.most, .slice m s.may.length c] 90)).alloc (.cells #[.string .empty, .int .i64 0, .int .i64 0, .int .i64 0, .slice none 0 0] 99)).alloc (.cells #[.string s.name, .int .i64 s.cap, .int .i64 s.least, .int .i64 s.most, .slice none 0 0] 99)) (w.heap.size + 1) 99 [.string .empty, .int .i64 0, .int .i64 0, .int .i64 0, .slice none 0 0] := by
    have := (Row.new (w.alloc (.cells #[.string s.name, .int .i64 s.cap, .int .i64 s.least, .int .i64 s.most, .slice m s.may.length c] 90)) 99 [.string .empty, .int .i64 0, .int .i64 0, .int .i64 0, .slice none 0 0]).alloc (.cells #[.string s.name, .int .i64 s.cap, .int .i64 s.least, .int .i64 s.most, .slice none 0 0] 99)
    simpa using this
  have o0 : Row (((w.alloc (.cells #[.string s.name, .int .i64 s.cap, .int .i64 s.least, .int .i64 s.most, .slice m s.may.length c] 90)).alloc (.cells #[.string .empty, .int .i64 0, .int .i64 0, .int .i64 0, .slice none 0 0] 99)).alloc (.cells #[.string s.name, .int .i64 s.cap, .int .i64 s.least, .int .i64 s.most, .slice none 0 0] 99)) (w.heap.size + 1 + 1) 99 [.string s.name, .int .i64 s.cap, .int .i64 s.least, .int .i64 s.most, .slice none 0 0] := by
    have := Row.new ((w.alloc (.cells #[.string s.name, .int .i64 s.cap, .int .i64 s.least, .int .i64 s.most, .slice m s.may.length c] 90)).alloc (.cells #[.string .empty, .int .i64 0, .int .i64 0, .int .i64 0, .slice none 0 0] 99)) 99 [.string s.name, .int .i64 s.cap, .int .i64 s.least, .int .i64 s.most, .slice none 0 0]
    simpa using this
  refine (toStringS_any m c s.may _ (hm.later b0) hroom).mono ?_
  rintro e w1 ⟨⟨d, rfl, hd, st⟩, hb⟩
  have hd' : w.heap.size + 1 + 1 < d := by simp at hd; omega
  have b1 := b0.trans (hb.mono b0.size)
  have z1 := z0.later hb
  have o1 := o0.later hb
  clear b0 z0 o0 hb hd
  have g0 := o1.cell 0 rfl
  have g1 := o1.cell 1 rfl
  have g2 := o1.cell 2 rfl
  have g3 := o1.cell 3 rfl
  have g4 := o1.cell 4 rfl
  have f4 := o1.frozen 4
  have r0 := z1.cell 0 rfl
  have r1 := z1.cell 1 rfl
  have r2 := z1.cell 2 rfl
  have r3 := z1.cell 3 rfl
  have r4 := z1.cell 4 rfl
  have k0 := z1.frozen 0
  have k1 := z1.frozen 1
  have k2 := z1.frozen 2
  have k3 := z1.frozen 3
  have k4 := z1.frozen 4
  have hne2 : w.heap.size + 1 ≠ w.heap.size + 1 + 1 := by omega
  go_wp2
  refine bodyPost_ret (v := .agg #[.string s.name, .int .i64 s.cap, .int .i64 s.least, .int .i64 s.most, .slice (some ⟨d, 0, none⟩) s.may.length s.may.length])
    (by simp [results, Tryz.results75, go_sem, r0, r1, r2, r3, r4]) rfl ⟨⟨d, rfl, by omega, ?_⟩, ?_⟩
  · have e1 : ∀ b o, (some ⟨d, 0, none⟩ : Option Addr) = some ⟨b, o, none⟩ → b ≠ w.heap.size + 1 := fun b o h => by cases h; omega
    have e2 : ∀ b o, (some ⟨d, 0, none⟩ : Option Addr) = some ⟨b, o, none⟩ → b ≠ w.heap.size + 1 + 1 := fun b o h => by cases h; omega
    exact (((((RowAt.setOther st e2 _).setOther e1 _).setOther e1 _).setOther e1 _).setOther e1 _).setOther e1 _
  · exact (((((b1.setCell (by simp; omega) _).setCell (by simp) _).setCell (by simp) _).setCell (by simp) _).setCell (by simp) _).setCell (by simp) _

end Go.Proofs.YtfmhkicncgccjaaGreatDoor

/- What the law's own copying functions answer of lists of spots, of parts and of books. -/
namespace Go.Proofs.YtfmhkicncgccjaaGreatDoor
open Go.RowKit Go.Sort
set_option linter.unusedSimpArgs false
set_option linter.unusedVariables false

set_option maxHeartbeats 1000000 in
theorem toClaimSpotS_any (a : Option Addr) (cap : Nat) (us : List Spot) (w : World) (hm : SpotsAt w a us) (hroom : us.length ≤ 1048576) (hrooms : ∀ s ∈ us, s.may.length ≤ 1048576) :
    Calls Tryz.prog 34 #[.slice a us.length cap] w fun e w' => (∃ b, e = .returned (.slice (some ⟨b, 0, none⟩) us.length us.length) ∧ w.heap.size ≤ b ∧ SpotsFrom w.heap.size w' (some ⟨b, 0, none⟩) us) ∧ Below w.heap.size w w' := by
  have hmk := make_of (P := Tryz.prog) Tryz.underlying35 infoSpot us.length (by omega) (by omega)
  simp only [Value.cells] at hmk
  go_enter Tryz.func34, Tryz.ntmps34
  go_wp2
  go_loopw [4] (fun i wr => ∃ (k : Nat) (g : Nat → Value) (D : Nat → Nat), k ≤ us.length ∧ i = .int .i64 k ∧ wr.rowIs w.heap.size 99 (us.length * 5) g ∧ (∀ j, j < k → ∀ c, c < 5 → g (j * 5 + c) = spotCell (gp us j) (some ⟨D j, 0, none⟩) (gp us j).may.length c) ∧
    (∀ j, j < k → w.heap.size < D j ∧ StrsAt wr (some ⟨D j, 0, none⟩) (gp us j).may) ∧ Below w.heap.size w wr) (fun i _ => us.length - (intOf i).toNat)
  case atStart =>
    exact ⟨0, _, fun _ => 0, Nat.zero_le _, rfl, rowIs_madeN w _ _ _, fun j hj => absurd hj (Nat.not_lt_zero _), fun j hj => absurd hj (Nat.not_lt_zero _), (Below.refl _ _).alloc (Nat.le_refl _) _⟩
  case round =>
    obtain ⟨k, g, D, hk, rfl, hrow, hg, hD, hbel⟩ := hrel
    have HG : Hid (∀ j, j < k → ∀ c, c < 5 → g (j * 5 + c) = spotCell (gp us j) (some ⟨D j, 0, none⟩) (gp us j).may.length c) := hg
    clear hmk hg
    by_cases hlt : k < us.length
    · obtain ⟨b, o, m, c, ha, hb, hc0, hc1, hc2, hc3, hc4, hst⟩ := (hm.later hbel).at hlt
      subst ha
      go_wp2_with fail
      refine (toClaimSpot_any (gp us k) m c _ hst (hrooms _ (gp_mem hlt))).mono ?_
      rintro e w1 ⟨⟨d, rfl, hd, st⟩, hb1⟩
      have hrow1 : w1.rowIs w.heap.size 99 (us.length * 5) g := hrow.of_block (hb1.block _ hrow.lt)
      have hq0 := hrow1.cell (i := k * 5) (by omega)
      have hq1 := hrow1.cell (i := k * 5 + 1) (by omega)
      have hq2 := hrow1.cell (i := k * 5 + 2) (by omega)
      have hq3 := hrow1.cell (i := k * 5 + 3) (by omega)
      have hq4 := hrow1.cell (i := k * 5 + 4) (by omega)
      have hf0 := hrow1.frozen (k * 5)
      have hf1 := hrow1.frozen (k * 5 + 1)
      have hf2 := hrow1.frozen (k * 5 + 2)
      have hf3 := hrow1.frozen (k * 5 + 3)
      have hf4 := hrow1.frozen (k * 5 + 4)
      have hdw : w.heap.size < d := Nat.lt_of_le_of_lt hbel.size hd
      unfold spotV
      clear hc0 hc1 hc2 hc3 hc4
      go_wp2
      have hbel1 : Below w.heap.size w w1 := hbel.trans (hb1.mono hbel.size)
      go_roundw
      case rel =>
        refine ⟨k + 1, _, fun j => if j = k then d else D j, by omega, by go_num, ((((hrow1.set (k * 5) _).set (k * 5 + 1) _).set (k * 5 + 2) _).set (k * 5 + 3) _).set (k * 5 + 4) _, ?_, ?_,
          ((((hbel1.setCell (Nat.le_refl _) _).setCell (Nat.le_refl _) _).setCell (Nat.le_refl _) _).setCell (Nat.le_refl _) _).setCell (Nat.le_refl _) _⟩
        · intro j hj c hc
          by_cases e : j = k
          · subst e
            match c, hc with
            | 0, _ => simp [spotCell]
            | 1, _ => simp [spotCell]
            | 2, _ => simp [spotCell]
            | 3, _ => simp [spotCell]
            | 4, _ => simp [spotCell]
          · have := HG.out j (by omega) c hc
            dsimp only
            rw [if_neg e, ← this]
            rw [if_neg (by omega), if_neg (by omega), if_neg (by omega), if_neg (by omega), if_neg (by omega)]
        · intro j hj
          by_cases e : j = k
          · subst e
            dsimp only
            rw [if_pos rfl]
            have e1 : ∀ b o, (some ⟨d, 0, none⟩ : Option Addr) = some ⟨b, o, none⟩ → b ≠ w.heap.size := fun b o h => by cases h; omega
            exact ⟨hdw, ((((RowAt.setOther st e1 _).setOther e1 _).setOther e1 _).setOther e1 _).setOther e1 _⟩
          · dsimp only
            rw [if_neg e]
            obtain ⟨h1, h2⟩ := hD j (by omega)
            have e1 : ∀ b o, (some ⟨D j, 0, none⟩ : Option Addr) = some ⟨b, o, none⟩ → b ≠ w.heap.size := fun b o h => by cases h; omega
            exact ⟨h1, ((((RowAt.setOther (h2.later hb1) e1 _).setOther e1 _).setOther e1 _).setOther e1 _).setOther e1 _⟩
      case measure => simp [intOf]; omega
    · have : k = us.length := by omega
      subst this
      go_wp2
      go_ret
      refine ⟨⟨w.heap.size, rfl, Nat.le_refl _, fun b o h => by (cases h; exact Nat.le_refl _), fun j => some ⟨D j, 0, none⟩, fun j => (gp us j).may.length, fun k hk => ⟨w.heap.size, 0, rfl, hrow.lt, fun j hj => ?_⟩, fun j hj => ⟨(hD j hj).2, fun b o h => by (cases h; exact Nat.le_of_lt (hD j hj).1)⟩, fun j hj => Nat.le_refl _⟩, hbel⟩
      have := hrow.cell (i := k * 5 + j) (by omega)
      rw [HG.out k hk j hj] at this
      simpa using this

theorem RowAt.sets14 {w : World} {d n size : Nat} {f : Nat → Nat → Value} (h : RowAt w (some ⟨d, 0, none⟩) n size f) {b1 b2 : Nat} (h1 : d ≠ b1) (h2 : d ≠ b2) (v0 v1 v2 v3 v4 v5 v6 v7 v8 v9 v10 v11 v12 v13 : Value) :
    RowAt ((((((((((((((w.setCell ⟨b2, 0, none⟩ v0).setCell ⟨b2, 1, none⟩ v1).setCell ⟨b2, 2, none⟩ v2).setCell ⟨b2, 3, none⟩ v3).setCell ⟨b2, 4, none⟩ v4).setCell ⟨b2, 5, none⟩ v5).setCell ⟨b2, 6, none⟩ v6).setCell ⟨b1, 0, none⟩ v7).setCell ⟨b1, 1, none⟩ v8).setCell ⟨b1, 2, none⟩ v9).setCell ⟨b1, 3, none⟩ v10).setCell ⟨b1, 4, none⟩ v11).setCell ⟨b1, 5, none⟩ v12).setCell ⟨b1, 6, none⟩ v13) (some ⟨d, 0, none⟩) n size f :=
  have g : ∀ b o, (some ⟨d, 0, none⟩ : Option Addr) = some ⟨b, o, none⟩ → b ≠ b1 := fun b o e => by cases e; exact h1
  have g2 : ∀ b o, (some ⟨d, 0, none⟩ : Option Addr) = some ⟨b, o, none⟩ → b ≠ b2 := fun b o e => by cases e; exact h2
  (((((((((((((h.setOther g2 v0).setOther g2 v1).setOther g2 v2).setOther g2 v3).setOther g2 v4).setOther g2 v5).setOther g2 v6).setOther g v7).setOther g v8).setOther g v9).setOther g v10).setOther g v11).setOther g v12).setOther g v13

theorem below_sets14 {W w : World} {B : Nat} (h : Below B W w) {b1 b2 : Nat} (h1 : B ≤ b1) (h2 : B ≤ b2) (v0 v1 v2 v3 v4 v5 v6 v7 v8 v9 v10 v11 v12 v13 : Value) : Below B W ((((((((((((((w.setCell ⟨b2, 0, none⟩ v0).setCell ⟨b2, 1, none⟩ v1).setCell ⟨b2, 2, none⟩ v2).setCell ⟨b2, 3, none⟩ v3).setCell ⟨b2, 4, none⟩ v4).setCell ⟨b2, 5, none⟩ v5).setCell ⟨b2, 6, none⟩ v6).setCell ⟨b1, 0, none⟩ v7).setCell ⟨b1, 1, none⟩ v8).setCell ⟨b1, 2, none⟩ v9).setCell ⟨b1, 3, none⟩ v10).setCell ⟨b1, 4, none⟩ v11).setCell ⟨b1, 5, none⟩ v12).setCell ⟨b1, 6, none⟩ v13) :=
  (((((((((((((h.setCell h2 v0).setCell h2 v1).setCell h2 v2).setCell h2 v3).setCell h2 v4).setCell h2 v5).setCell h2 v6).setCell h1 v7).setCell h1 v8).setCell h1 v9).setCell h1 v10).setCell h1 v11).setCell h1 v12).setCell h1 v13

set_option maxHeartbeats 1000000 in
theorem toClaimPart_any (p : Part) (a2 a3 a4 a5 : Option Addr) (c2 c3 c4 c5 : Nat) (w : World) (hin : WantIn w p.want a2 a3 a4 a5) (hr : WantRoom p.want) :
    Calls Tryz.prog 76 #[partV p a2 a3 a4 a5 c2 c3 c4 c5] w fun e w' => (∃ b2 b3 b4 b5, e = .returned (partV p (some ⟨b2, 0, none⟩) (some ⟨b3, 0, none⟩) (some ⟨b4, 0, none⟩) (some ⟨b5, 0, none⟩) p.want.stuffs.length p.want.uses.length p.want.opens.length p.want.shuts.length) ∧
      (w.heap.size < b2 ∧ w.heap.size < b3 ∧ w.heap.size < b4 ∧ w.heap.size < b5) ∧ WantIn w' p.want (some ⟨b2, 0, none⟩) (some ⟨b3, 0, none⟩) (some ⟨b4, 0, none⟩) (some ⟨b5, 0, none⟩)) ∧ Below w.heap.size w w' := by
  unfold partV
  go_enter Tryz.func76, Tryz.ntmps76
  go_wp2_with fail
  have b0 : Below w.heap.size w (((w.alloc (.cells #[.int .i64 p.want.number, .int .i64 p.want.kind, .slice a2 p.want.stuffs.length c2, .slice a3 p.want.uses.length c3, .slice a4 p.want.opens.length c4, .slice a5 p.want.shuts.length c5, .bool p.stopped] 93)).alloc (.cells #[.int .i64 0, .int .i64 0, .slice none 0 0, .slice none 0 0, .slice none 0 0, .slice none 0 0, .bool false] 60)).alloc (.cells #[.int .i64 0, .int .i64 0, .slice none 0 0, .slice none 0 0, .slice none 0 0, .slice none 0 0, .bool false] 60)) :=
    (((Below.refl _ _).alloc (Nat.le_refl _) _).alloc (by simp) _).alloc (by simp; omega) _
  have i0 : Row (((w.alloc (.cells #[.int .i64 p.want.number, .int .i64 p.want.kind, .slice a2 p.want.stuffs.length c2, .slice a3 p.want.uses.length c3, .slice a4 p.want.opens.length c4, .slice a5 p.want.shuts.length c5, .bool p.stopped] 93)).alloc (.cells #[.int .i64 0, .int .i64 0, .slice none 0 0, .slice none 0 0, .slice none 0 0, .slice none 0 0, .bool false] 60)).alloc (.cells #[.int .i64 0, .int .i64 0, .slice none 0 0, .slice none 0 0, .slice none 0 0, .slice none 0 0, .bool false] 60)) w.heap.size 93 [.int .i64 p.want.number, .int .i64 p.want.kind, .slice a2 p.want.stuffs.length c2, .slice a3 p.want.uses.length c3, .slice a4 p.want.opens.length c4, .slice a5 p.want.shuts.length c5, .bool p.stopped] := ((Row.new _ _ _).alloc _).alloc _
  have z0 : Row (((w.alloc (.cells #[.int .i64 p.want.number, .int .i64 p.want.kind, .slice a2 p.want.stuffs.length c2, .slice a3 p.want.uses.length c3, .slice a4 p.want.opens.length c4, .slice a5 p.want.shuts.length c5, .bool p.stopped] 93)).alloc (.cells #[.int .i64 0, .int .i64 0, .slice none 0 0, .slice none 0 0, .slice none 0 0, .slice none 0 0, .bool false] 60)).alloc (.cells #[.int .i64 0, .int .i64 0, .slice none 0 0, .slice none 0 0, .slice none 0 0, .slice none 0 0, .bool false] 60)) (w.heap.size + 1) 60 [.int .i64 0, .int .i64 0, .slice none 0 0, .slice none 0 0, .slice none 0 0, .slice none 0 0, .bool false] := by
    have := (Row.new (w.alloc (.cells #[.int .i64 p.want.number, .int .i64 p.want.kind, .slice a2 p.want.stuffs.length c2, .slice a3 p.want.uses.length c3, .slice a4 p.want.opens.length c4, .slice a5 p.want.shuts.length c5, .bool p.stopped] 93)) 60 [.int .i64 0, .int .i64 0, .slice none 0 0, .slice none 0 0, .slice none 0 0, .slice none 0 0, .bool false]).alloc (.cells #[.int .i64 0, .int .i64 0, .slice none 0 0, .slice none 0 0, .slice none 0 0, .slice none 0 0, .bool false] 60)
    simpa using this
  have o0 : Row (((w.alloc (.cells #[.int .i64 p.want.number, .int .i64 p.want.kind, .slice a2 p.want.stuffs.length c2, .slice a3 p.want.uses.length c3, .slice a4 p.want.opens.length c4, .slice a5 p.want.shuts.length c5, .bool p.stopped] 93)).alloc (.cells #[.int .i64 0, .int .i64 0, .slice none 0 0, .slice none 0 0, .slice none 0 0, .slice none 0 0, .bool false] 60)).alloc (.cells #[.int .i64 0, .int .i64 0, .slice none 0 0, .slice none 0 0, .slice none 0 0, .slice none 0 0, .bool false] 60)) (w.heap.size + 1 + 1) 60 [.int .i64 0, .int .i64 0, .slice none 0 0, .slice none 0 0, .slice none 0 0, .slice none 0 0, .bool false] := by
    have := Row.new ((w.alloc (.cells #[.int .i64 p.want.number, .int .i64 p.want.kind, .slice a2 p.want.stuffs.length c2, .slice a3 p.want.uses.length c3, .slice a4 p.want.opens.length c4, .slice a5 p.want.shuts.length c5, .bool p.stopped] 93)).alloc (.cells #[.int .i64 0, .int .i64 0, .slice none 0 0, .slice none 0 0, .slice none 0 0, .slice none 0 0, .bool false] 60)) 60 [.int .i64 0, .int .i64 0, .slice none 0 0, .slice none 0 0, .slice none 0 0, .slice none 0 0, .bool false]
    simpa using this
  have hsz : (((w.alloc (.cells #[.int .i64 p.want.number, .int .i64 p.want.kind, .slice a2 p.want.stuffs.length c2, .slice a3 p.want.uses.length c3, .slice a4 p.want.opens.length c4, .slice a5 p.want.shuts.length c5, .bool p.stopped] 93)).alloc (.cells #[.int .i64 0, .int .i64 0, .slice none 0 0, .slice none 0 0, .slice none 0 0, .slice none 0 0, .bool false] 60)).alloc (.cells #[.int .i64 0, .int .i64 0, .slice none 0 0, .slice none 0 0, .slice none 0 0, .slice none 0 0, .bool false] 60)).heap.size = w.heap.size + 3 := by simp
  refine (toClaimWant_any p.want a2 a3 a4 a5 c2 c3 c4 c5 _ (hin.later b0) hr).mono ?_
  rintro e w1 ⟨⟨d2, d3, d4, d5, rfl, ⟨hd2, hd3, hd4, hd5⟩, in1⟩, hb⟩
  rw [hsz] at hd2 hd3 hd4 hd5
  have b1 := b0.trans (hb.mono b0.size)
  have i1 := i0.later hb
  have z1 := z0.later hb
  have o1 := o0.later hb
  clear b0 i0 z0 o0 hb hsz
  have y6 := i1.cell 6 rfl
  have g0 := o1.cell 0 rfl
  have f0 := o1.frozen 0
  have r0 := z1.cell 0 rfl
  have k0 := z1.frozen 0
  have g1 := o1.cell 1 rfl
  have f1 := o1.frozen 1
  have r1 := z1.cell 1 rfl
  have k1 := z1.frozen 1
  have g2 := o1.cell 2 rfl
  have f2 := o1.frozen 2
  have r2 := z1.cell 2 rfl
  have k2 := z1.frozen 2
  have g3 := o1.cell 3 rfl
  have f3 := o1.frozen 3
  have r3 := z1.cell 3 rfl
  have k3 := z1.frozen 3
  have g4 := o1.cell 4 rfl
  have f4 := o1.frozen 4
  have r4 := z1.cell 4 rfl
  have k4 := z1.frozen 4
  have g5 := o1.cell 5 rfl
  have f5 := o1.frozen 5
  have r5 := z1.cell 5 rfl
  have k5 := z1.frozen 5
  have g6 := o1.cell 6 rfl
  have f6 := o1.frozen 6
  have r6 := z1.cell 6 rfl
  have k6 := z1.frozen 6
  have hne1 : w.heap.size ≠ w.heap.size + 1 + 1 := by omega
  have hne2 : w.heap.size + 1 ≠ w.heap.size + 1 + 1 := by omega
  unfold wantW
  go_wp2
  refine bodyPost_ret (v := .agg #[.int .i64 p.want.number, .int .i64 p.want.kind, .slice (some ⟨d2, 0, none⟩) p.want.stuffs.length p.want.stuffs.length, .slice (some ⟨d3, 0, none⟩) p.want.uses.length p.want.uses.length, .slice (some ⟨d4, 0, none⟩) p.want.opens.length p.want.opens.length, .slice (some ⟨d5, 0, none⟩) p.want.shuts.length p.want.shuts.length, .bool p.stopped])
    (by simp [results, Tryz.results76, go_sem, r0, r1, r2, r3, r4, r5, r6]) rfl ⟨⟨d2, d3, d4, d5, rfl, ⟨by omega, by omega, by omega, by omega⟩, ⟨?_, ?_, ?_, ?_⟩⟩, ?_⟩
  · exact RowAt.sets14 in1.stuffs (by omega) (by omega) _ _ _ _ _ _ _ _ _ _ _ _ _ _
  · exact RowAt.sets14 in1.uses (by omega) (by omega) _ _ _ _ _ _ _ _ _ _ _ _ _ _
  · exact RowAt.sets14 in1.opens (by omega) (by omega) _ _ _ _ _ _ _ _ _ _ _ _ _ _
  · exact RowAt.sets14 in1.shuts (by omega) (by omega) _ _ _ _ _ _ _ _ _ _ _ _ _ _
  · exact below_sets14 b1 (by omega) (by omega) _ _ _ _ _ _ _ _ _ _ _ _ _ _

end Go.Proofs.YtfmhkicncgccjaaGreatDoor
