/- Joined: CdX. -/
import Derived.Test.YtfmhkicncgccjaaGreatDoorPd15
import Derived.Test.YtfmhkicncgccjaaGreatDoorPd16
import Derived.Test.YtfmhkicncgccjaaGreatDoorPd12
import Derived.Test.YtfmhkicncgccjaaGreatDoorPc05
import Derived.Test.YtfmhkicncgccjaaGreatDoorPc04
import Derived.Deep.RegionHeld3
/- The law FnExactClaimCode, walked: it returns true. -/
namespace Go.Proofs.YtfmhkicncgccjaaGreatDoor
open Go.RowKit Go.Sort
set_option linter.unusedSimpArgs false
set_option linter.unusedVariables false

theorem implCode_any (x : Book) (af ap av aq : Option Addr) (cf cp cv cq : Nat) (y : Want) (ad2 : Addr) (a3 a4 a5 : Option Addr) (c2 c3 c4 c5 : Nat) (w : World) (hx : BookIn w x af ap av aq) (fx : BookFit x) (hy : WantIn w y (some ad2) a3 a4 a5) (fy : WantFit y) (hcap : y.stuffs.length ≤ c2) (n0 : -9223372036854775808 ≤ y.number) (n1 : y.number ≤ 9223372036854775807) (ht : TabW w) (hg : ErrType w) :
    Calls Tryz.prog 10 #[bookV x af ap av aq cf cp cv cq, wantW y (some ad2) a3 a4 a5 c2 c3 c4 c5] w fun e w' => e = .returned (.int .i64 (codeC x y)) ∧ Below w.heap.size w w' :=
  implCode_of x af ap av aq cf cp cv cq y ad2 a3 a4 a5 c2 c3 c4 c5 w hx fx hy fy hcap n0 n1 ht hg fun bb bw w0 h1 h2 h3 h4 => looks1_first x af ap av aq cf cp cv cq y ad2 a3 a4 a5 c2 c3 c4 c5 bb bw w0 h1 h2 h3 fx h4 fy hcap

set_option maxRecDepth 100000 in
set_option maxHeartbeats 4000000 in
theorem codeLaw_any (x : Book) (af ap av aq : Option Addr) (cf cp cv cq : Nat) (y : Want) (a2 a3 a4 a5 : Option Addr) (c2 c3 c4 c5 : Nat) (w : World) (hx : BookIn w x af ap av aq) (fx : BookFit x) (hy : WantIn w y a2 a3 a4 a5) (fy : WantFit y) (n0 : -9223372036854775808 ≤ y.number) (n1 : y.number ≤ 9223372036854775807) (ht : TabW w) (hg : ErrType w) :
    Calls Tryz.prog 3 #[bookV x af ap av aq cf cp cv cq, wantW y a2 a3 a4 a5 c2 c3 c4 c5] w fun e w' => e = .returned (.bool true) ∧ Below w.heap.size w w' := by
  unfold bookV wantW
  have h0 : Below w.heap.size w ((w.alloc (.cells #[.slice af x.foes.length cf, .slice ap x.spots.length cp, .slice av x.valves.length cv, .slice aq x.parts.length cq, .int .i64 x.seen] 27)).alloc (.cells #[.int .i64 y.number, .int .i64 y.kind, .slice a2 y.stuffs.length c2, .slice a3 y.uses.length c3, .slice a4 y.opens.length c4, .slice a5 y.shuts.length c5] 30)) := ((Below.refl _ _).alloc (Nat.le_refl _) _).alloc (by simp) _
  have i0 : Row ((w.alloc (.cells #[.slice af x.foes.length cf, .slice ap x.spots.length cp, .slice av x.valves.length cv, .slice aq x.parts.length cq, .int .i64 x.seen] 27)).alloc (.cells #[.int .i64 y.number, .int .i64 y.kind, .slice a2 y.stuffs.length c2, .slice a3 y.uses.length c3, .slice a4 y.opens.length c4, .slice a5 y.shuts.length c5] 30)) w.heap.size 27 [.slice af x.foes.length cf, .slice ap x.spots.length cp, .slice av x.valves.length cv, .slice aq x.parts.length cq, .int .i64 x.seen] := (Row.new w _ [.slice af x.foes.length cf, .slice ap x.spots.length cp, .slice av x.valves.length cv, .slice aq x.parts.length cq, .int .i64 x.seen]).alloc _
  have o0 : Row ((w.alloc (.cells #[.slice af x.foes.length cf, .slice ap x.spots.length cp, .slice av x.valves.length cv, .slice aq x.parts.length cq, .int .i64 x.seen] 27)).alloc (.cells #[.int .i64 y.number, .int .i64 y.kind, .slice a2 y.stuffs.length c2, .slice a3 y.uses.length c3, .slice a4 y.opens.length c4, .slice a5 y.shuts.length c5] 30)) (w.heap.size + 1) 30 [.int .i64 y.number, .int .i64 y.kind, .slice a2 y.stuffs.length c2, .slice a3 y.uses.length c3, .slice a4 y.opens.length c4, .slice a5 y.shuts.length c5] := by
    have := Row.new (w.alloc (.cells #[.slice af x.foes.length cf, .slice ap x.spots.length cp, .slice av x.valves.length cv, .slice aq x.parts.length cq, .int .i64 x.seen] 27)) 30 [.int .i64 y.number, .int .i64 y.kind, .slice a2 y.stuffs.length c2, .slice a3 y.uses.length c3, .slice a4 y.opens.length c4, .slice a5 y.shuts.length c5]
    simpa using this
  go_enter Tryz.func3, Tryz.ntmps3
  go_wp2_with fail
  generalize ((w.alloc (.cells #[.slice af x.foes.length cf, .slice ap x.spots.length cp, .slice av x.valves.length cv, .slice aq x.parts.length cq, .int .i64 x.seen] 27)).alloc (.cells #[.int .i64 y.number, .int .i64 y.kind, .slice a2 y.stuffs.length c2, .slice a3 y.uses.length c3, .slice a4 y.opens.length c4, .slice a5 y.shuts.length c5] 30)) = X0 at h0 i0 o0 ⊢
  refine (szClaimBook_any x af ap av aq cf cp cv cq 1048576 _ (hx.later h0) fx (by omega) (by omega)).mono ?_
  rintro e w1 ⟨⟨r1, rfl, hr1, hr1', hR1⟩, hb1⟩
  have h1 := h0.trans (hb1.mono h0.size)
  have i1 := i0.later hb1
  have o1 := o0.later hb1
  clear i0 o0
  have y0 := o1.cell 0 rfl
  have y1 := o1.cell 1 rfl
  have y2 := o1.cell 2 rfl
  have y3 := o1.cell 3 rfl
  have y4 := o1.cell 4 rfl
  have y5 := o1.cell 5 rfl
  by_cases hn1 : r1 < 0
  · go_wp2
    go_ret
    exact ⟨rfl, h1⟩
  have RB := hR1 (by omega)
  clear hR1
  go_wp2_with fail
  refine (szClaimWant_any y a2 a3 a4 a5 c2 c3 c4 c5 r1 _ (hy.later h1) fy (by omega) (by omega)).mono ?_
  rintro e w2 ⟨⟨r2, rfl, hr2, hr2', hR2⟩, hb2⟩
  have h2 := h1.trans (hb2.mono h1.size)
  have i2 := i1.later hb2
  have o2 := o1.later hb2
  clear i1 o1
  clear y0 y1 y2 y3 y4 y5
  by_cases hn2 : r2 < 0
  · go_wp2
    go_ret
    exact ⟨rfl, h2⟩
  have RW := hR2 (by omega)
  clear hR2
  have hTB : ∀ W', Below w2.heap.size w2 W' → Calls Tryz.prog 8 #[.agg #[.slice af x.foes.length cf, .slice ap x.spots.length cp, .slice av x.valves.length cv, .slice aq x.parts.length cq, .int .i64 x.seen]] W' fun e w' => (∃ b0 b1 b2 b3, e = .returned (.agg #[.slice (some ⟨b0, 0, none⟩) x.foes.length x.foes.length, .slice (some ⟨b1, 0, none⟩) x.spots.length x.spots.length, .slice (some ⟨b2, 0, none⟩) x.valves.length x.valves.length, .slice (some ⟨b3, 0, none⟩) x.parts.length x.parts.length, .int .i64 x.seen]) ∧ BookIn w' x (some ⟨b0, 0, none⟩) (some ⟨b1, 0, none⟩) (some ⟨b2, 0, none⟩) (some ⟨b3, 0, none⟩)) ∧ Below w2.heap.size w2 w' ∧ Below W'.heap.size W' w' := fun W' h' =>
    (toClaimBook_any x af ap av aq cf cp cv cq W' (hx.later (h2.trans (h'.mono h2.size))) RB).mono fun _ _ h => ⟨h.1.elim fun b0 h => h.elim fun b1 h => h.elim fun b2 h => h.elim fun b3 h => ⟨b0, b1, b2, b3, h.1, h.2.in_⟩, h'.trans (h.2.mono h'.size), h.2⟩
  have hTW : ∀ W', Below w2.heap.size w2 W' → Calls Tryz.prog 9 #[.agg #[.int .i64 y.number, .int .i64 y.kind, .slice a2 y.stuffs.length c2, .slice a3 y.uses.length c3, .slice a4 y.opens.length c4, .slice a5 y.shuts.length c5]] W' fun e w' => (∃ b0 b1 b2 b3, e = .returned (.agg #[.int .i64 y.number, .int .i64 y.kind, .slice (some ⟨b0, 0, none⟩) y.stuffs.length y.stuffs.length, .slice (some ⟨b1, 0, none⟩) y.uses.length y.uses.length, .slice (some ⟨b2, 0, none⟩) y.opens.length y.opens.length, .slice (some ⟨b3, 0, none⟩) y.shuts.length y.shuts.length]) ∧ WantIn w' y (some ⟨b0, 0, none⟩) (some ⟨b1, 0, none⟩) (some ⟨b2, 0, none⟩) (some ⟨b3, 0, none⟩)) ∧ Below w2.heap.size w2 w' ∧ Below W'.heap.size W' w' := fun W' h' =>
    (toClaimWant_any y a2 a3 a4 a5 c2 c3 c4 c5 W' (hy.later (h2.trans (h'.mono h2.size))) RW).mono fun _ _ h => ⟨h.1.elim fun b0 h => h.elim fun b1 h => h.elim fun b2 h => h.elim fun b3 h => ⟨b0, b1, b2, b3, h.1, h.2.2⟩, h'.trans (h.2.mono h'.size), h.2⟩
  have hS : ∀ w', Below w2.heap.size w2 w' → (w'.cell? ⟨w.heap.size, 0, none⟩ = some (.slice af x.foes.length cf) ∧ w'.cell? ⟨w.heap.size, 1, none⟩ = some (.slice ap x.spots.length cp) ∧ w'.cell? ⟨w.heap.size, 2, none⟩ = some (.slice av x.valves.length cv) ∧ w'.cell? ⟨w.heap.size, 3, none⟩ = some (.slice aq x.parts.length cq) ∧ w'.cell? ⟨w.heap.size, 4, none⟩ = some (.int .i64 x.seen) ∧ w'.cell? ⟨(w.heap.size + 1), 0, none⟩ = some (.int .i64 y.number) ∧ w'.cell? ⟨(w.heap.size + 1), 1, none⟩ = some (.int .i64 y.kind) ∧ w'.cell? ⟨(w.heap.size + 1), 2, none⟩ = some (.slice a2 y.stuffs.length c2) ∧ w'.cell? ⟨(w.heap.size + 1), 3, none⟩ = some (.slice a3 y.uses.length c3) ∧ w'.cell? ⟨(w.heap.size + 1), 4, none⟩ = some (.slice a4 y.opens.length c4) ∧ w'.cell? ⟨(w.heap.size + 1), 5, none⟩ = some (.slice a5 y.shuts.length c5) ∧ Below w2.heap.size w2 w') := fun w' hb' => ⟨cell_later hb' (i2.cell 0 rfl), cell_later hb' (i2.cell 1 rfl), cell_later hb' (i2.cell 2 rfl), cell_later hb' (i2.cell 3 rfl), cell_later hb' (i2.cell 4 rfl), cell_later hb' (o2.cell 0 rfl), cell_later hb' (o2.cell 1 rfl), cell_later hb' (o2.cell 2 rfl), cell_later hb' (o2.cell 3 rfl), cell_later hb' (o2.cell 4 rfl), cell_later hb' (o2.cell 5 rfl), hb'⟩
  have HX : Hid _ := hx
  have HY : Hid _ := hy
  clear hx hy
  go_wp2_with fail
  go_region_held3 (fun w' => (w'.cell? ⟨w.heap.size, 0, none⟩ = some (.slice af x.foes.length cf) ∧ w'.cell? ⟨w.heap.size, 1, none⟩ = some (.slice ap x.spots.length cp) ∧ w'.cell? ⟨w.heap.size, 2, none⟩ = some (.slice av x.valves.length cv) ∧ w'.cell? ⟨w.heap.size, 3, none⟩ = some (.slice aq x.parts.length cq) ∧ w'.cell? ⟨w.heap.size, 4, none⟩ = some (.int .i64 x.seen) ∧ w'.cell? ⟨(w.heap.size + 1), 0, none⟩ = some (.int .i64 y.number) ∧ w'.cell? ⟨(w.heap.size + 1), 1, none⟩ = some (.int .i64 y.kind) ∧ w'.cell? ⟨(w.heap.size + 1), 2, none⟩ = some (.slice a2 y.stuffs.length c2) ∧ w'.cell? ⟨(w.heap.size + 1), 3, none⟩ = some (.slice a3 y.uses.length c3) ∧ w'.cell? ⟨(w.heap.size + 1), 4, none⟩ = some (.slice a4 y.opens.length c4) ∧ w'.cell? ⟨(w.heap.size + 1), 5, none⟩ = some (.slice a5 y.shuts.length c5) ∧ Below w2.heap.size w2 w'))
    ((refine hS _ ?_; repeat (first | with_reducible assumption | with_reducible exact Below.refl _ _ | (with_reducible refine Below.setCell ?_ ?_ _) | (with_reducible refine Below.alloc ?_ ?_ _) | (with_reducible refine Below.drew ?_) | exact Nat.le_refl _ | (simp; done) | (simp; omega) | omega)))
    (first
      | (go_at_call 8; refine (hTB _ (by repeat (first | with_reducible assumption | with_reducible exact Below.refl _ _ | (with_reducible refine Below.setCell ?_ ?_ _) | (with_reducible refine Below.alloc ?_ ?_ _) | (with_reducible refine Below.drew ?_) | exact Nat.le_refl _ | (simp; done) | (simp; omega) | omega))).mono ?_; rintro e w3 ⟨⟨b0, b1, b2, b3, rfl, inB⟩, hb3, hb3'⟩)
      | (go_at_call 9; refine (hTW _ (by repeat (first | with_reducible assumption | with_reducible exact Below.refl _ _ | (with_reducible refine Below.setCell ?_ ?_ _) | (with_reducible refine Below.alloc ?_ ?_ _) | (with_reducible refine Below.drew ?_) | exact Nat.le_refl _ | (simp; done) | (simp; omega) | omega))).mono ?_; rintro e w4 ⟨⟨d0, d1, d2, d3, rfl, inW⟩, hb4, hb4'⟩)
      | (go_at_call 7; refine (specCode_any x _ _ _ _ _ _ _ _ y _ _ _ _ _ _ _ _ _ (inB.later hb4') inW fx fy).mono ?_; rintro e w5 ⟨rfl, hb5'⟩; have hb5 := hb4.trans (hb5'.mono hb4.size)))
  have h5 := h2.trans (hb5.mono h2.size)
  have i5 := i2.later hb5
  have o5 := o2.later hb5
  rename_i hHeld
  clear hHeld hS hTB hTW i2 o2 inB inW hb3 hb3' hb4 hb4' hb5' hb5
  have hTB : ∀ W', Below w5.heap.size w5 W' → Calls Tryz.prog 8 #[.agg #[.slice af x.foes.length cf, .slice ap x.spots.length cp, .slice av x.valves.length cv, .slice aq x.parts.length cq, .int .i64 x.seen]] W' fun e w' => (∃ b0 b1 b2 b3, e = .returned (.agg #[.slice (some ⟨b0, 0, none⟩) x.foes.length x.foes.length, .slice (some ⟨b1, 0, none⟩) x.spots.length x.spots.length, .slice (some ⟨b2, 0, none⟩) x.valves.length x.valves.length, .slice (some ⟨b3, 0, none⟩) x.parts.length x.parts.length, .int .i64 x.seen]) ∧ BookIn w' x (some ⟨b0, 0, none⟩) (some ⟨b1, 0, none⟩) (some ⟨b2, 0, none⟩) (some ⟨b3, 0, none⟩)) ∧ Below w5.heap.size w5 w' ∧ Below W'.heap.size W' w' := fun W' h' =>
    (toClaimBook_any x af ap av aq cf cp cv cq W' (HX.out.later (h5.trans (h'.mono h5.size))) RB).mono fun _ _ h => ⟨h.1.elim fun b0 h => h.elim fun b1 h => h.elim fun b2 h => h.elim fun b3 h => ⟨b0, b1, b2, b3, h.1, h.2.in_⟩, h'.trans (h.2.mono h'.size), h.2⟩
  have y0 := i5.cell 0 rfl
  have y1 := i5.cell 1 rfl
  have y2 := i5.cell 2 rfl
  have y3 := i5.cell 3 rfl
  have y4 := i5.cell 4 rfl
  go_wp2_with fail
  refine (hTB _ (Below.refl _ _)).mono ?_
  rintro e w6 ⟨⟨f0, f1, f2, f3, rfl, inX⟩, hb6, -⟩
  clear y0 y1 y2 y3 y4
  have h6 := h5.trans (hb6.mono h5.size)
  have i6 := i5.later hb6
  have o6 := o5.later hb6
  clear i5 o5 hTB
  have xr : Row (w6.alloc (.cells #[.slice (some ⟨f0, 0, none⟩) x.foes.length x.foes.length, .slice (some ⟨f1, 0, none⟩) x.spots.length x.spots.length, .slice (some ⟨f2, 0, none⟩) x.valves.length x.valves.length, .slice (some ⟨f3, 0, none⟩) x.parts.length x.parts.length, .int .i64 x.seen] 38)) w6.heap.size 38 [.slice (some ⟨f0, 0, none⟩) x.foes.length x.foes.length, .slice (some ⟨f1, 0, none⟩) x.spots.length x.spots.length, .slice (some ⟨f2, 0, none⟩) x.valves.length x.valves.length, .slice (some ⟨f3, 0, none⟩) x.parts.length x.parts.length, .int .i64 x.seen] := Row.new w6 _ [.slice (some ⟨f0, 0, none⟩) x.foes.length x.foes.length, .slice (some ⟨f1, 0, none⟩) x.spots.length x.spots.length, .slice (some ⟨f2, 0, none⟩) x.valves.length x.valves.length, .slice (some ⟨f3, 0, none⟩) x.parts.length x.parts.length, .int .i64 x.seen]
  have v6 : Below w6.heap.size w6 (w6.alloc (.cells #[.slice (some ⟨f0, 0, none⟩) x.foes.length x.foes.length, .slice (some ⟨f1, 0, none⟩) x.spots.length x.spots.length, .slice (some ⟨f2, 0, none⟩) x.valves.length x.valves.length, .slice (some ⟨f3, 0, none⟩) x.parts.length x.parts.length, .int .i64 x.seen] 38)) := (Below.refl _ _).alloc (Nat.le_refl _) _
  have y0 := o6.cell 0 rfl
  have y1 := o6.cell 1 rfl
  have y2 := o6.cell 2 rfl
  have y3 := o6.cell 3 rfl
  have y4 := o6.cell 4 rfl
  have y5 := o6.cell 5 rfl
  have hz := o6.lt
  go_wp2_with fail
  clear y0 y1 y2 y3 y4 y5
  generalize (w6.alloc (.cells #[.slice (some ⟨f0, 0, none⟩) x.foes.length x.foes.length, .slice (some ⟨f1, 0, none⟩) x.spots.length x.spots.length, .slice (some ⟨f2, 0, none⟩) x.valves.length x.valves.length, .slice (some ⟨f3, 0, none⟩) x.parts.length x.parts.length, .int .i64 x.seen] 38)) = u6 at xr v6 ⊢
  have h6' := h6.trans (v6.mono h6.size)
  have hTW : ∀ W', Below u6.heap.size u6 W' → Calls Tryz.prog 9 #[.agg #[.int .i64 y.number, .int .i64 y.kind, .slice a2 y.stuffs.length c2, .slice a3 y.uses.length c3, .slice a4 y.opens.length c4, .slice a5 y.shuts.length c5]] W' fun e w' => (∃ b0 b1 b2 b3, e = .returned (.agg #[.int .i64 y.number, .int .i64 y.kind, .slice (some ⟨b0, 0, none⟩) y.stuffs.length y.stuffs.length, .slice (some ⟨b1, 0, none⟩) y.uses.length y.uses.length, .slice (some ⟨b2, 0, none⟩) y.opens.length y.opens.length, .slice (some ⟨b3, 0, none⟩) y.shuts.length y.shuts.length]) ∧ WantIn w' y (some ⟨b0, 0, none⟩) (some ⟨b1, 0, none⟩) (some ⟨b2, 0, none⟩) (some ⟨b3, 0, none⟩)) ∧ Below u6.heap.size u6 w' ∧ Below W'.heap.size W' w' := fun W' h' =>
    (toClaimWant_any y a2 a3 a4 a5 c2 c3 c4 c5 W' (HY.out.later (h6'.trans (h'.mono h6'.size))) RW).mono fun _ _ h => ⟨h.1.elim fun b0 h => h.elim fun b1 h => h.elim fun b2 h => h.elim fun b3 h => ⟨b0, b1, b2, b3, h.1, h.2.2⟩, h'.trans (h.2.mono h'.size), h.2⟩
  refine (hTW _ (Below.refl _ _)).mono ?_
  rintro e w7 ⟨⟨g0, g1, g2, g3, rfl, inY⟩, hb7, -⟩
  have h7 := h6'.trans (hb7.mono h6'.size)
  have i7 := (i6.later v6).later hb7
  have o7 := (o6.later v6).later hb7
  have xr7 := xr.later hb7
  have inX7 := (inX.later v6).later hb7
  clear i6 o6 xr inX v6 hTW hb7 hz
  have yr : Row (w7.alloc (.cells #[.int .i64 y.number, .int .i64 y.kind, .slice (some ⟨g0, 0, none⟩) y.stuffs.length y.stuffs.length, .slice (some ⟨g1, 0, none⟩) y.uses.length y.uses.length, .slice (some ⟨g2, 0, none⟩) y.opens.length y.opens.length, .slice (some ⟨g3, 0, none⟩) y.shuts.length y.shuts.length] 42)) w7.heap.size 42 [.int .i64 y.number, .int .i64 y.kind, .slice (some ⟨g0, 0, none⟩) y.stuffs.length y.stuffs.length, .slice (some ⟨g1, 0, none⟩) y.uses.length y.uses.length, .slice (some ⟨g2, 0, none⟩) y.opens.length y.opens.length, .slice (some ⟨g3, 0, none⟩) y.shuts.length y.shuts.length] := Row.new w7 _ [.int .i64 y.number, .int .i64 y.kind, .slice (some ⟨g0, 0, none⟩) y.stuffs.length y.stuffs.length, .slice (some ⟨g1, 0, none⟩) y.uses.length y.uses.length, .slice (some ⟨g2, 0, none⟩) y.opens.length y.opens.length, .slice (some ⟨g3, 0, none⟩) y.shuts.length y.shuts.length]
  have v7 : Below w7.heap.size w7 (w7.alloc (.cells #[.int .i64 y.number, .int .i64 y.kind, .slice (some ⟨g0, 0, none⟩) y.stuffs.length y.stuffs.length, .slice (some ⟨g1, 0, none⟩) y.uses.length y.uses.length, .slice (some ⟨g2, 0, none⟩) y.opens.length y.opens.length, .slice (some ⟨g3, 0, none⟩) y.shuts.length y.shuts.length] 42)) := (Below.refl _ _).alloc (Nat.le_refl _) _
  have y0 := xr7.cell 0 rfl
  have y1 := xr7.cell 1 rfl
  have y2 := xr7.cell 2 rfl
  have y3 := xr7.cell 3 rfl
  have y4 := xr7.cell 4 rfl
  have hz := xr7.lt
  go_wp2_with fail
  clear y0 y1 y2 y3 y4
  generalize (w7.alloc (.cells #[.int .i64 y.number, .int .i64 y.kind, .slice (some ⟨g0, 0, none⟩) y.stuffs.length y.stuffs.length, .slice (some ⟨g1, 0, none⟩) y.uses.length y.uses.length, .slice (some ⟨g2, 0, none⟩) y.opens.length y.opens.length, .slice (some ⟨g3, 0, none⟩) y.shuts.length y.shuts.length] 42)) = u7 at yr v7 ⊢
  have h7' := h7.trans (v7.mono h7.size)
  have inX7' := inX7.later v7
  have inY' := inY.later v7
  refine (implCode_any x _ _ _ _ _ _ _ _ y _ _ _ _ _ _ _ _ _ inX7' fx inY' fy (Nat.le_refl _) n0 n1 (ht.later h7') (hg.later h7')).mono ?_
  rintro e w8 ⟨rfl, hb8⟩
  have h8 := h7'.trans (hb8.mono h7'.size)
  have i8 := (i7.later v7).later hb8
  have o8 := (o7.later v7).later hb8
  have xr8 := (xr7.later v7).later hb8
  have yr8 := yr.later hb8
  have inX8 := inX7'.later hb8
  have inY8 := inY'.later hb8
  clear i7 o7 xr7 yr inX7 inX7' inY inY' hb8 v7 hz
  have hcc : (codeC x y != codeC x y) = false := by simp
  have hTB : ∀ W', Below w8.heap.size w8 W' → Calls Tryz.prog 8 #[.agg #[.slice af x.foes.length cf, .slice ap x.spots.length cp, .slice av x.valves.length cv, .slice aq x.parts.length cq, .int .i64 x.seen]] W' fun e w' => (∃ b0 b1 b2 b3, e = .returned (.agg #[.slice (some ⟨b0, 0, none⟩) x.foes.length x.foes.length, .slice (some ⟨b1, 0, none⟩) x.spots.length x.spots.length, .slice (some ⟨b2, 0, none⟩) x.valves.length x.valves.length, .slice (some ⟨b3, 0, none⟩) x.parts.length x.parts.length, .int .i64 x.seen]) ∧ BookIn w' x (some ⟨b0, 0, none⟩) (some ⟨b1, 0, none⟩) (some ⟨b2, 0, none⟩) (some ⟨b3, 0, none⟩)) ∧ Below w8.heap.size w8 w' ∧ Below W'.heap.size W' w' := fun W' h' =>
    (toClaimBook_any x af ap av aq cf cp cv cq W' (HX.out.later (h8.trans (h'.mono h8.size))) RB).mono fun _ _ h => ⟨h.1.elim fun b0 h => h.elim fun b1 h => h.elim fun b2 h => h.elim fun b3 h => ⟨b0, b1, b2, b3, h.1, h.2.in_⟩, h'.trans (h.2.mono h'.size), h.2⟩
  have hS : ∀ w', Below w8.heap.size w8 w' → (w'.cell? ⟨w.heap.size, 0, none⟩ = some (.slice af x.foes.length cf) ∧ w'.cell? ⟨w.heap.size, 1, none⟩ = some (.slice ap x.spots.length cp) ∧ w'.cell? ⟨w.heap.size, 2, none⟩ = some (.slice av x.valves.length cv) ∧ w'.cell? ⟨w.heap.size, 3, none⟩ = some (.slice aq x.parts.length cq) ∧ w'.cell? ⟨w.heap.size, 4, none⟩ = some (.int .i64 x.seen) ∧ w'.cell? ⟨w6.heap.size, 0, none⟩ = some (.slice (some ⟨f0, 0, none⟩) x.foes.length x.foes.length) ∧ w'.cell? ⟨w6.heap.size, 1, none⟩ = some (.slice (some ⟨f1, 0, none⟩) x.spots.length x.spots.length) ∧ w'.cell? ⟨w6.heap.size, 2, none⟩ = some (.slice (some ⟨f2, 0, none⟩) x.valves.length x.valves.length) ∧ w'.cell? ⟨w6.heap.size, 3, none⟩ = some (.slice (some ⟨f3, 0, none⟩) x.parts.length x.parts.length) ∧ w'.cell? ⟨w6.heap.size, 4, none⟩ = some (.int .i64 x.seen) ∧ Below w8.heap.size w8 w') := fun w' hb' => ⟨cell_later hb' (i8.cell 0 rfl), cell_later hb' (i8.cell 1 rfl), cell_later hb' (i8.cell 2 rfl), cell_later hb' (i8.cell 3 rfl), cell_later hb' (i8.cell 4 rfl), cell_later hb' (xr8.cell 0 rfl), cell_later hb' (xr8.cell 1 rfl), cell_later hb' (xr8.cell 2 rfl), cell_later hb' (xr8.cell 3 rfl), cell_later hb' (xr8.cell 4 rfl), hb'⟩
  go_wp2_with fail
  go_region_held3 (fun w' => (w'.cell? ⟨w.heap.size, 0, none⟩ = some (.slice af x.foes.length cf) ∧ w'.cell? ⟨w.heap.size, 1, none⟩ = some (.slice ap x.spots.length cp) ∧ w'.cell? ⟨w.heap.size, 2, none⟩ = some (.slice av x.valves.length cv) ∧ w'.cell? ⟨w.heap.size, 3, none⟩ = some (.slice aq x.parts.length cq) ∧ w'.cell? ⟨w.heap.size, 4, none⟩ = some (.int .i64 x.seen) ∧ w'.cell? ⟨w6.heap.size, 0, none⟩ = some (.slice (some ⟨f0, 0, none⟩) x.foes.length x.foes.length) ∧ w'.cell? ⟨w6.heap.size, 1, none⟩ = some (.slice (some ⟨f1, 0, none⟩) x.spots.length x.spots.length) ∧ w'.cell? ⟨w6.heap.size, 2, none⟩ = some (.slice (some ⟨f2, 0, none⟩) x.valves.length x.valves.length) ∧ w'.cell? ⟨w6.heap.size, 3, none⟩ = some (.slice (some ⟨f3, 0, none⟩) x.parts.length x.parts.length) ∧ w'.cell? ⟨w6.heap.size, 4, none⟩ = some (.int .i64 x.seen) ∧ Below w8.heap.size w8 w'))
    ((refine hS _ ?_; repeat (first | with_reducible assumption | with_reducible exact Below.refl _ _ | (with_reducible refine Below.setCell ?_ ?_ _) | (with_reducible refine Below.alloc ?_ ?_ _) | (with_reducible refine Below.drew ?_) | exact Nat.le_refl _ | (simp; done) | (simp; omega) | omega)))
    (first
      | (go_at_call 8; refine (hTB _ (by repeat (first | with_reducible assumption | with_reducible exact Below.refl _ _ | (with_reducible refine Below.setCell ?_ ?_ _) | (with_reducible refine Below.alloc ?_ ?_ _) | (with_reducible refine Below.drew ?_) | exact Nat.le_refl _ | (simp; done) | (simp; omega) | omega))).mono ?_; rintro e w3 ⟨⟨b0, b1, b2, b3, rfl, inB⟩, hb3, hb3'⟩)
      | (go_at_call 11; refine (eqClaimBook_any x _ _ _ _ _ _ _ _ _ _ _ _ _ _ _ _ _ (inX8.later hb3) inB fx).mono ?_; rintro e w9 ⟨rfl, hb9'⟩; have hb9 := hb3.trans (hb9'.mono hb3.size)))
  have h9 := h8.trans (hb9.mono h8.size)
  have o9 := o8.later hb9
  have yr9 := yr8.later hb9
  have inY9 := inY8.later hb9
  rename_i hHeld
  clear hHeld hS hTB i8 o8 xr8 yr8 inX8 inY8 inB hb3 hb3' hb9 hb9'
  have hTW : ∀ W', Below w9.heap.size w9 W' → Calls Tryz.prog 9 #[.agg #[.int .i64 y.number, .int .i64 y.kind, .slice a2 y.stuffs.length c2, .slice a3 y.uses.length c3, .slice a4 y.opens.length c4, .slice a5 y.shuts.length c5]] W' fun e w' => (∃ b0 b1 b2 b3, e = .returned (.agg #[.int .i64 y.number, .int .i64 y.kind, .slice (some ⟨b0, 0, none⟩) y.stuffs.length y.stuffs.length, .slice (some ⟨b1, 0, none⟩) y.uses.length y.uses.length, .slice (some ⟨b2, 0, none⟩) y.opens.length y.opens.length, .slice (some ⟨b3, 0, none⟩) y.shuts.length y.shuts.length]) ∧ WantIn w' y (some ⟨b0, 0, none⟩) (some ⟨b1, 0, none⟩) (some ⟨b2, 0, none⟩) (some ⟨b3, 0, none⟩)) ∧ Below w9.heap.size w9 w' ∧ Below W'.heap.size W' w' := fun W' h' =>
    (toClaimWant_any y a2 a3 a4 a5 c2 c3 c4 c5 W' (HY.out.later (h9.trans (h'.mono h9.size))) RW).mono fun _ _ h => ⟨h.1.elim fun b0 h => h.elim fun b1 h => h.elim fun b2 h => h.elim fun b3 h => ⟨b0, b1, b2, b3, h.1, h.2.2⟩, h'.trans (h.2.mono h'.size), h.2⟩
  have hS : ∀ w', Below w9.heap.size w9 w' → (w'.cell? ⟨(w.heap.size + 1), 0, none⟩ = some (.int .i64 y.number) ∧ w'.cell? ⟨(w.heap.size + 1), 1, none⟩ = some (.int .i64 y.kind) ∧ w'.cell? ⟨(w.heap.size + 1), 2, none⟩ = some (.slice a2 y.stuffs.length c2) ∧ w'.cell? ⟨(w.heap.size + 1), 3, none⟩ = some (.slice a3 y.uses.length c3) ∧ w'.cell? ⟨(w.heap.size + 1), 4, none⟩ = some (.slice a4 y.opens.length c4) ∧ w'.cell? ⟨(w.heap.size + 1), 5, none⟩ = some (.slice a5 y.shuts.length c5) ∧ w'.cell? ⟨w7.heap.size, 0, none⟩ = some (.int .i64 y.number) ∧ w'.cell? ⟨w7.heap.size, 1, none⟩ = some (.int .i64 y.kind) ∧ w'.cell? ⟨w7.heap.size, 2, none⟩ = some (.slice (some ⟨g0, 0, none⟩) y.stuffs.length y.stuffs.length) ∧ w'.cell? ⟨w7.heap.size, 3, none⟩ = some (.slice (some ⟨g1, 0, none⟩) y.uses.length y.uses.length) ∧ w'.cell? ⟨w7.heap.size, 4, none⟩ = some (.slice (some ⟨g2, 0, none⟩) y.opens.length y.opens.length) ∧ w'.cell? ⟨w7.heap.size, 5, none⟩ = some (.slice (some ⟨g3, 0, none⟩) y.shuts.length y.shuts.length) ∧ Below w9.heap.size w9 w') := fun w' hb' => ⟨cell_later hb' (o9.cell 0 rfl), cell_later hb' (o9.cell 1 rfl), cell_later hb' (o9.cell 2 rfl), cell_later hb' (o9.cell 3 rfl), cell_later hb' (o9.cell 4 rfl), cell_later hb' (o9.cell 5 rfl), cell_later hb' (yr9.cell 0 rfl), cell_later hb' (yr9.cell 1 rfl), cell_later hb' (yr9.cell 2 rfl), cell_later hb' (yr9.cell 3 rfl), cell_later hb' (yr9.cell 4 rfl), cell_later hb' (yr9.cell 5 rfl), hb'⟩
  go_wp2_with fail
  go_region_held3 (fun w' => (w'.cell? ⟨(w.heap.size + 1), 0, none⟩ = some (.int .i64 y.number) ∧ w'.cell? ⟨(w.heap.size + 1), 1, none⟩ = some (.int .i64 y.kind) ∧ w'.cell? ⟨(w.heap.size + 1), 2, none⟩ = some (.slice a2 y.stuffs.length c2) ∧ w'.cell? ⟨(w.heap.size + 1), 3, none⟩ = some (.slice a3 y.uses.length c3) ∧ w'.cell? ⟨(w.heap.size + 1), 4, none⟩ = some (.slice a4 y.opens.length c4) ∧ w'.cell? ⟨(w.heap.size + 1), 5, none⟩ = some (.slice a5 y.shuts.length c5) ∧ w'.cell? ⟨w7.heap.size, 0, none⟩ = some (.int .i64 y.number) ∧ w'.cell? ⟨w7.heap.size, 1, none⟩ = some (.int .i64 y.kind) ∧ w'.cell? ⟨w7.heap.size, 2, none⟩ = some (.slice (some ⟨g0, 0, none⟩) y.stuffs.length y.stuffs.length) ∧ w'.cell? ⟨w7.heap.size, 3, none⟩ = some (.slice (some ⟨g1, 0, none⟩) y.uses.length y.uses.length) ∧ w'.cell? ⟨w7.heap.size, 4, none⟩ = some (.slice (some ⟨g2, 0, none⟩) y.opens.length y.opens.length) ∧ w'.cell? ⟨w7.heap.size, 5, none⟩ = some (.slice (some ⟨g3, 0, none⟩) y.shuts.length y.shuts.length) ∧ Below w9.heap.size w9 w'))
    ((refine hS _ ?_; repeat (first | with_reducible assumption | with_reducible exact Below.refl _ _ | (with_reducible refine Below.setCell ?_ ?_ _) | (with_reducible refine Below.alloc ?_ ?_ _) | (with_reducible refine Below.drew ?_) | exact Nat.le_refl _ | (simp; done) | (simp; omega) | omega)))
    (first
      | (go_at_call 9; refine (hTW _ (by repeat (first | with_reducible assumption | with_reducible exact Below.refl _ _ | (with_reducible refine Below.setCell ?_ ?_ _) | (with_reducible refine Below.alloc ?_ ?_ _) | (with_reducible refine Below.drew ?_) | exact Nat.le_refl _ | (simp; done) | (simp; omega) | omega))).mono ?_; rintro e w3 ⟨⟨k0, k1, k2, k3, rfl, inK⟩, hb3, hb3'⟩)
      | (go_at_call 12; refine (eqClaimWant_any y _ _ _ _ _ _ _ _ _ _ _ _ _ _ _ _ _ (inY9.later hb3) inK fy).mono ?_; rintro e w10 ⟨rfl, hb10'⟩; have hb10 := hb3.trans (hb10'.mono hb3.size)))
  have h10 := h9.trans (hb10.mono h9.size)
  rename_i hHeld
  clear hHeld hS hTW
  go_wp2
  go_ret
  exact ⟨rfl, h10⟩

end Go.Proofs.YtfmhkicncgccjaaGreatDoor
