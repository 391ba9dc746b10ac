/- What the law's own toClaimBook answers. -/
import Derived.Test.YtfmhkicncgccjaaGreatBkToC
namespace Go.Proofs.YtfmhkicncgccjaaGreat
open Go.RowKit Go.Sort
set_option linter.unusedSimpArgs false
set_option linter.unusedVariables false

/-- A book, all of whose memory lies from block B on. -/
structure BookFrom (B : Nat) (w : World) (x : Book) (af ap av aq : Option Addr) : Prop where
  foes : FoesAt w af x.foes ∧ AddrFrom B af
  spots : SpotsFrom B w ap x.spots
  valves : StrsAt w av x.valves ∧ AddrFrom B av
  parts : PartsFrom B w aq x.parts

theorem BookFrom.in_ {B : Nat} {w : World} {x : Book} {af ap av aq : Option Addr} (h : BookFrom B w x af ap av aq) : BookIn w x af ap av aq := ⟨h.foes.1, h.spots.at_, h.valves.1, h.parts.at_⟩
theorem BookFrom.setLow {B : Nat} {w : World} {x : Book} {af ap av aq : Option Addr} (h : BookFrom B w x af ap av aq) {p : Addr} (hp : p.block < B) (v : Value) : BookFrom B (w.setCell p v) x af ap av aq :=
  ⟨⟨RowAt.setLow h.foes.1 h.foes.2 hp v, h.foes.2⟩, h.spots.setLow hp v, ⟨RowAt.setLow h.valves.1 h.valves.2 hp v, h.valves.2⟩, h.parts.setLow hp v⟩

theorem addr_mono {B B' : Nat} {a : Option Addr} (h : AddrFrom B a) (hb : B' ≤ B) : AddrFrom B' a := fun b o e => Nat.le_trans hb (h b o e)
theorem from_monoS {B B' : Nat} {w : World} {a : Option Addr} {ps : List Spot} (h : SpotsFrom B w a ps) (hb : B' ≤ B) : SpotsFrom B' w a ps := by
  obtain ⟨h0, m, c, h1, h2, h3⟩ := h
  exact ⟨addr_mono h0 hb, m, c, h1, fun k hk => ⟨(h2 k hk).1, addr_mono (h2 k hk).2 hb⟩, h3⟩
theorem from_monoP {B B' : Nat} {w : World} {a : Option Addr} {ps : List Part} (h : PartsFrom B w a ps) (hb : B' ≤ B) : PartsFrom B' w a ps := by
  obtain ⟨h0, m, c, h1, h2⟩ := h
  refine ⟨addr_mono h0 hb, m, c, h1, fun k hk => ?_⟩
  obtain ⟨k0, g1, g2, g3, g4⟩ := h2 k hk
  exact ⟨k0, addr_mono g1 hb, addr_mono g2 hb, addr_mono g3 hb, addr_mono g4 hb⟩
theorem from_monoB {B B' : Nat} {w : World} {x : Book} {af ap av aq : Option Addr} (h : BookFrom B w x af ap av aq) (hb : B' ≤ B) : BookFrom B' w x af ap av aq :=
  ⟨⟨h.foes.1, addr_mono h.foes.2 hb⟩, from_monoS h.spots hb, ⟨h.valves.1, addr_mono h.valves.2 hb⟩, from_monoP h.parts hb⟩

set_option maxHeartbeats 2000000 in
theorem toClaimBook_any (x : Book) (af ap av aq : Option Addr) (cf cp cv cq : Nat) (w : World) (hin : BookIn w x af ap av aq) (hr : BookRoom x) :
    Calls Tryz.prog 20 #[bookV x af ap av aq cf cp cv cq] w fun e w' => (∃ b0 b1 b2 b3, e = .returned (bookV x (some ⟨b0, 0, none⟩) (some ⟨b1, 0, none⟩) (some ⟨b2, 0, none⟩) (some ⟨b3, 0, none⟩) x.foes.length x.spots.length x.valves.length x.parts.length) ∧
      BookFrom w.heap.size w' x (some ⟨b0, 0, none⟩) (some ⟨b1, 0, none⟩) (some ⟨b2, 0, none⟩) (some ⟨b3, 0, none⟩)) ∧ Below w.heap.size w w' := by
  unfold bookV
  go_enter Tryz.func20, Tryz.ntmps20
  go_wp2_with fail
  have b0 : Below w.heap.size w (((w.alloc (.cells #[.slice af x.foes.length cf, .slice ap x.spots.length cp, .slice av x.valves.length cv, .slice aq x.parts.length cq, .int .i64 x.seen] 49)).alloc (.cells #[.slice none 0 0, .slice none 0 0, .slice none 0 0, .slice none 0 0, .int .i64 0] 28)).alloc (.cells #[.slice none 0 0, .slice none 0 0, .slice none 0 0, .slice none 0 0, .int .i64 0] 28)) :=
    (((Below.refl _ _).alloc (Nat.le_refl _) _).alloc (by simp) _).alloc (by simp; omega) _
  have i0 : Row (((w.alloc (.cells #[.slice af x.foes.length cf, .slice ap x.spots.length cp, .slice av x.valves.length cv, .slice aq x.parts.length cq, .int .i64 x.seen] 49)).alloc (.cells #[.slice none 0 0, .slice none 0 0, .slice none 0 0, .slice none 0 0, .int .i64 0] 28)).alloc (.cells #[.slice none 0 0, .slice none 0 0, .slice none 0 0, .slice none 0 0, .int .i64 0] 28)) w.heap.size 49 [.slice af x.foes.length cf, .slice ap x.spots.length cp, .slice av x.valves.length cv, .slice aq x.parts.length cq, .int .i64 x.seen] := ((Row.new _ _ _).alloc _).alloc _
  have z0 : Row (((w.alloc (.cells #[.slice af x.foes.length cf, .slice ap x.spots.length cp, .slice av x.valves.length cv, .slice aq x.parts.length cq, .int .i64 x.seen] 49)).alloc (.cells #[.slice none 0 0, .slice none 0 0, .slice none 0 0, .slice none 0 0, .int .i64 0] 28)).alloc (.cells #[.slice none 0 0, .slice none 0 0, .slice none 0 0, .slice none 0 0, .int .i64 0] 28)) (w.heap.size + 1) 28 [.slice none 0 0, .slice none 0 0, .slice none 0 0, .slice none 0 0, .int .i64 0] := by
    have := (Row.new (w.alloc (.cells #[.slice af x.foes.length cf, .slice ap x.spots.length cp, .slice av x.valves.length cv, .slice aq x.parts.length cq, .int .i64 x.seen] 49)) 28 [.slice none 0 0, .slice none 0 0, .slice none 0 0, .slice none 0 0, .int .i64 0]).alloc (.cells #[.slice none 0 0, .slice none 0 0, .slice none 0 0, .slice none 0 0, .int .i64 0] 28)
    simpa using this
  have o0 : Row (((w.alloc (.cells #[.slice af x.foes.length cf, .slice ap x.spots.length cp, .slice av x.valves.length cv, .slice aq x.parts.length cq, .int .i64 x.seen] 49)).alloc (.cells #[.slice none 0 0, .slice none 0 0, .slice none 0 0, .slice none 0 0, .int .i64 0] 28)).alloc (.cells #[.slice none 0 0, .slice none 0 0, .slice none 0 0, .slice none 0 0, .int .i64 0] 28)) (w.heap.size + 1 + 1) 28 [.slice none 0 0, .slice none 0 0, .slice none 0 0, .slice none 0 0, .int .i64 0] := by
    have := Row.new ((w.alloc (.cells #[.slice af x.foes.length cf, .slice ap x.spots.length cp, .slice av x.valves.length cv, .slice aq x.parts.length cq, .int .i64 x.seen] 49)).alloc (.cells #[.slice none 0 0, .slice none 0 0, .slice none 0 0, .slice none 0 0, .int .i64 0] 28)) 28 [.slice none 0 0, .slice none 0 0, .slice none 0 0, .slice none 0 0, .int .i64 0]
    simpa using this
  have hs0 : w.heap.size + 3 ≤ (((w.alloc (.cells #[.slice af x.foes.length cf, .slice ap x.spots.length cp, .slice av x.valves.length cv, .slice aq x.parts.length cq, .int .i64 x.seen] 49)).alloc (.cells #[.slice none 0 0, .slice none 0 0, .slice none 0 0, .slice none 0 0, .int .i64 0] 28)).alloc (.cells #[.slice none 0 0, .slice none 0 0, .slice none 0 0, .slice none 0 0, .int .i64 0] 28)).heap.size := by simp
  have hne : w.heap.size ≠ w.heap.size + 1 + 1 := by omega
  refine (toClaimFoeS_any af cf x.foes _ (hin.later b0).foes hr.foes).mono ?_
  rintro e w1 ⟨⟨d0, rfl, hd0, t0⟩, hb⟩
  have hs1 := Nat.le_trans hs0 hb.size
  have hd0' : w.heap.size + 1 + 1 < d0 := by omega
  have b1 := b0.trans (hb.mono b0.size)
  have i1 := i0.later hb
  have z1 := z0.later hb
  have o1 := o0.later hb
  clear b0 i0 z0 o0 hb hs0 hd0
  have q1 := i1.cell 1 rfl
  have f0 := o1.frozen 0
  have g0 := o1.cell 0 rfl
  go_wp2_with fail
  have b1' := b1.setCell (p := ⟨w.heap.size + 1 + 1, 0, none⟩) (by simp; omega) (.slice (some ⟨d0, 0, none⟩) x.foes.length x.foes.length)
  have i1' := i1.other (a := ⟨w.heap.size + 1 + 1, 0, none⟩) hne (.slice (some ⟨d0, 0, none⟩) x.foes.length x.foes.length)
  have z1' := z1.other (a := ⟨w.heap.size + 1 + 1, 0, none⟩) (by simp) (.slice (some ⟨d0, 0, none⟩) x.foes.length x.foes.length)
  have o1' := o1.set 0 (.slice (some ⟨d0, 0, none⟩) x.foes.length x.foes.length)
  have t0' := RowAt.setOther t0 (p := ⟨w.heap.size + 1 + 1, 0, none⟩) (fun b o h => by cases h; exact Nat.ne_of_gt hd0') (.slice (some ⟨d0, 0, none⟩) x.foes.length x.foes.length)
  have hs1' : w.heap.size + 3 ≤ (w1.setCell ⟨w.heap.size + 1 + 1, 0, none⟩ (.slice (some ⟨d0, 0, none⟩) x.foes.length x.foes.length)).heap.size := by rw [Go.Deep.nblk_setCell]; exact hs1
  refine (toClaimSpotS_any ap cp x.spots _ (hin.later b1').spots hr.spots hr.mays).mono ?_
  clear q1 f0 g0
  rintro e w2 ⟨⟨d1, rfl, hd1, t1⟩, hb⟩
  have hd1' : w.heap.size + 1 + 1 < d1 := by omega
  have t1 : SpotsFrom (w.heap.size + 3) w2 (some ⟨d1, 0, none⟩) x.spots := from_monoS t1 hs1'
  have hs2 := Nat.le_trans hs1' hb.size
  have b2 := b1'.trans (hb.mono b1'.size)
  have i2 := i1'.later hb
  have z2 := z1'.later hb
  have o2 := o1'.later hb
  have t0 := RowAt.later t0' hb
  clear b1 i1 z1 o1 b1' i1' z1' o1' hb hs1 hs1' hd1 t0'
  have q2 := i2.cell 2 rfl
  have f1 := o2.frozen 1
  have g1 := o2.cell 1 rfl
  go_wp2_with fail
  have b2' := b2.setCell (p := ⟨w.heap.size + 1 + 1, 1, none⟩) (by simp; omega) (.slice (some ⟨d1, 0, none⟩) x.spots.length x.spots.length)
  have i2' := i2.other (a := ⟨w.heap.size + 1 + 1, 1, none⟩) hne (.slice (some ⟨d1, 0, none⟩) x.spots.length x.spots.length)
  have z2' := z2.other (a := ⟨w.heap.size + 1 + 1, 1, none⟩) (by simp) (.slice (some ⟨d1, 0, none⟩) x.spots.length x.spots.length)
  have o2' := o2.set 1 (.slice (some ⟨d1, 0, none⟩) x.spots.length x.spots.length)
  have t0' := RowAt.setOther t0 (p := ⟨w.heap.size + 1 + 1, 1, none⟩) (fun b o h => by cases h; exact Nat.ne_of_gt hd0') (.slice (some ⟨d1, 0, none⟩) x.spots.length x.spots.length)
  have t1' := t1.setLow (p := ⟨w.heap.size + 1 + 1, 1, none⟩) (by simp) (.slice (some ⟨d1, 0, none⟩) x.spots.length x.spots.length)
  have hs2' : w.heap.size + 3 ≤ (w2.setCell ⟨w.heap.size + 1 + 1, 1, none⟩ (.slice (some ⟨d1, 0, none⟩) x.spots.length x.spots.length)).heap.size := by rw [Go.Deep.nblk_setCell]; exact hs2
  refine (toStringS_any av cv x.valves _ (hin.later b2').valves hr.valves).mono ?_
  clear q2 f1 g1
  rintro e w3 ⟨⟨d2, rfl, hd2, t2⟩, hb⟩
  have hd2' : w.heap.size + 1 + 1 < d2 := by omega
  have hs3 := Nat.le_trans hs2' hb.size
  have b3 := b2'.trans (hb.mono b2'.size)
  have i3 := i2'.later hb
  have z3 := z2'.later hb
  have o3 := o2'.later hb
  have t0 := RowAt.later t0' hb
  have t1 := t1'.later hb
  clear b2 i2 z2 o2 b2' i2' z2' o2' hb hs2 hs2' hd2 t0' t1'
  have q3 := i3.cell 3 rfl
  have f2 := o3.frozen 2
  have g2 := o3.cell 2 rfl
  go_wp2_with fail
  have b3' := b3.setCell (p := ⟨w.heap.size + 1 + 1, 2, none⟩) (by simp; omega) (.slice (some ⟨d2, 0, none⟩) x.valves.length x.valves.length)
  have i3' := i3.other (a := ⟨w.heap.size + 1 + 1, 2, none⟩) hne (.slice (some ⟨d2, 0, none⟩) x.valves.length x.valves.length)
  have z3' := z3.other (a := ⟨w.heap.size + 1 + 1, 2, none⟩) (by simp) (.slice (some ⟨d2, 0, none⟩) x.valves.length x.valves.length)
  have o3' := o3.set 2 (.slice (some ⟨d2, 0, none⟩) x.valves.length x.valves.length)
  have t0' := RowAt.setOther t0 (p := ⟨w.heap.size + 1 + 1, 2, none⟩) (fun b o h => by cases h; exact Nat.ne_of_gt hd0') (.slice (some ⟨d2, 0, none⟩) x.valves.length x.valves.length)
  have t1' := t1.setLow (p := ⟨w.heap.size + 1 + 1, 2, none⟩) (by simp) (.slice (some ⟨d2, 0, none⟩) x.valves.length x.valves.length)
  have t2' := RowAt.setOther t2 (p := ⟨w.heap.size + 1 + 1, 2, none⟩) (fun b o h => by cases h; exact Nat.ne_of_gt hd2') (.slice (some ⟨d2, 0, none⟩) x.valves.length x.valves.length)
  have hs3' : w.heap.size + 3 ≤ (w3.setCell ⟨w.heap.size + 1 + 1, 2, none⟩ (.slice (some ⟨d2, 0, none⟩) x.valves.length x.valves.length)).heap.size := by rw [Go.Deep.nblk_setCell]; exact hs3
  refine (toClaimPartS_any aq cq x.parts _ (hin.later b3').parts hr.parts hr.wants).mono ?_
  clear q3 f2 g2
  rintro e w4 ⟨⟨d3, rfl, hd3, t3⟩, hb⟩
  have hd3' : w.heap.size + 1 + 1 < d3 := by omega
  have t3 : PartsFrom (w.heap.size + 3) w4 (some ⟨d3, 0, none⟩) x.parts := from_monoP t3 hs3'
  have hs4 := Nat.le_trans hs3' hb.size
  have b4 := b3'.trans (hb.mono b3'.size)
  have i4 := i3'.later hb
  have z4 := z3'.later hb
  have o4 := o3'.later hb
  have t0 := RowAt.later t0' hb
  have t1 := t1'.later hb
  have t2 := RowAt.later t2' hb
  clear b3 i3 z3 o3 b3' i3' z3' o3' hb hs3 hs3' hd3 t0' t1' t2'
  have q4 := i4.cell 4 rfl
  have f3 := o4.frozen 3
  have f4 := o4.frozen 4
  have g0 := o4.cell 0 rfl
  have r0 := z4.cell 0 rfl
  have k0 := z4.frozen 0
  have g1 := o4.cell 1 rfl
  have r1 := z4.cell 1 rfl
  have k1 := z4.frozen 1
  have g2 := o4.cell 2 rfl
  have r2 := z4.cell 2 rfl
  have k2 := z4.frozen 2
  have g3 := o4.cell 3 rfl
  have r3 := z4.cell 3 rfl
  have k3 := z4.frozen 3
  have g4 := o4.cell 4 rfl
  have r4 := z4.cell 4 rfl
  have k4 := z4.frozen 4
  have hne2 : w.heap.size + 1 ≠ w.heap.size + 1 + 1 := by omega
  have base : BookFrom (w.heap.size + 3) w4 x (some ⟨d0, 0, none⟩) (some ⟨d1, 0, none⟩) (some ⟨d2, 0, none⟩) (some ⟨d3, 0, none⟩) :=
    ⟨⟨t0, fun b o h => by cases h; omega⟩, t1, ⟨t2, fun b o h => by cases h; omega⟩, t3⟩
  clear t0 t1 t2 t3
  go_wp2
  refine bodyPost_ret (v := .agg #[.slice (some ⟨d0, 0, none⟩) x.foes.length x.foes.length, .slice (some ⟨d1, 0, none⟩) x.spots.length x.spots.length, .slice (some ⟨d2, 0, none⟩) x.valves.length x.valves.length, .slice (some ⟨d3, 0, none⟩) x.parts.length x.parts.length, .int .i64 x.seen])
    (by simp [results, Tryz.results20, go_sem, r0, r1, r2, r3, r4]) rfl ⟨⟨d0, d1, d2, d3, rfl, from_monoB (((((((base.setLow (p := ⟨w.heap.size + 1 + 1, 3, none⟩) (by simp) _).setLow (p := ⟨w.heap.size + 1 + 1, 4, none⟩) (by simp) _).setLow (p := ⟨w.heap.size + 1, 0, none⟩) (by simp) _).setLow (p := ⟨w.heap.size + 1, 1, none⟩) (by simp) _).setLow (p := ⟨w.heap.size + 1, 2, none⟩) (by simp) _).setLow (p := ⟨w.heap.size + 1, 3, none⟩) (by simp) _).setLow (p := ⟨w.heap.size + 1, 4, none⟩) (by simp) _) (by omega)⟩, ?_⟩
  exact ((((((b4.setCell (by simp; omega) _).setCell (by simp; omega) _).setCell (by simp) _).setCell (by simp) _).setCell (by simp) _).setCell (by simp) _).setCell (by simp) _

end Go.Proofs.YtfmhkicncgccjaaGreat
