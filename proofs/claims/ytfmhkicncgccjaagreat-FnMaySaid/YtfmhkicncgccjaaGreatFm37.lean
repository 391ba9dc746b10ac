/- Joined: CdS4. -/
import Derived.Test.YtfmhkicncgccjaaGreatFm36
/- What the specification's l3Stuffs answers. -/
namespace Go.Proofs.YtfmhkicncgccjaaGreat
open Go.RowKit Go.Sort
set_option linter.unusedSimpArgs false
set_option linter.unusedVariables false

theorem stuffs_clash {x : Book} {y : Want} (h : clashesB x.foes y.stuffs y.stuffs = true) : stuffsC x y = 8 := by unfold stuffsC; rw [h]; rfl
theorem stuffs_other {x : Book} {y : Want} (h : clashesB x.foes y.stuffs y.stuffs = false) (hk : (y.kind == 1) = false) : stuffsC x y = 0 := by unfold stuffsC; rw [h, hk]; rfl
theorem stuffs_hit {x : Book} {y : Want} (h : clashesB x.foes y.stuffs y.stuffs = false) (hk : (y.kind == 1) = true) {k : Nat} {c : Int} (hz : zerosTo k (mayAt x y) = true) (hlt : k < y.uses.length) (hc : mayAt x y k = c) (h0 : c ≠ 0) : stuffsC x y = c := by
 unfold stuffsC; rw [h, hk]; show firstTo y.uses.length (mayAt x y) = c; rw [firstTo_hit hz (by rw [hc]; exact h0) hlt, hc]
theorem stuffs_zero {x : Book} {y : Want} (h : clashesB x.foes y.stuffs y.stuffs = false) (hk : (y.kind == 1) = true) (hz : zerosTo y.uses.length (mayAt x y) = true) : stuffsC x y = 0 := by
 unfold stuffsC; rw [h, hk]; exact firstTo_zeros hz
theorem may_by {fs : List Foe} {s : Spot} {y : Want} {u : Use} (h : (u.role == 2) = false) : mayCode fs s y u = if allB s.may y.stuffs then 0 else 8 := by unfold mayCode; rw [h]; rfl
theorem may_to {fs : List Foe} {s : Spot} {y : Want} {u : Use} (h : (u.role == 2) = true) : mayCode fs s y u = if clashesB fs y.stuffs s.may then 8 else if 8 < unionN s.may y.stuffs then 5 else 0 := by unfold mayCode; rw [h]; rfl

set_option maxRecDepth 100000 in
set_option maxHeartbeats 4000000 in
theorem l3Stuffs_any (x : Book) (af ap av aq : Option Addr) (cf cp cv cq : Nat) (y : Want) (a2 a3 a4 a5 : Option Addr) (c2 c3 c4 c5 : Nat) (w : World) (hx : BookIn w x af ap av aq) (hy : WantIn w y a2 a3 a4 a5) (fx : BookFit x) (fy : WantFit y) (hkn : knowsB x y = true)
 (hms : ∀ s ∈ x.spots, s.may.length ≤ 8) (hss : y.stuffs.length ≤ 8) :
 Calls Tryz.prog 173 #[bookV x af ap av aq cf cp cv cq, wantW y a2 a3 a4 a5 c2 c3 c4 c5] w fun e w' => e = .returned (.int .i64 (stuffsC x y)) ∧ Below w.heap.size w w' := by
 have hl3 := fy.usesLen
 unfold maxLen at hl3
 unfold bookV wantW
 have b0 : Below w.heap.size w ((w.alloc (.cells (bookL x af ap av aq cf cp cv cq).toArray 28)).alloc (.cells (wantL y a2 a3 a4 a5 c2 c3 c4 c5).toArray 38)) :=
  ((Below.refl _ _).alloc (Nat.le_refl _) _).alloc (by simp) _
 have i0 : Row ((w.alloc (.cells (bookL x af ap av aq cf cp cv cq).toArray 28)).alloc (.cells (wantL y a2 a3 a4 a5 c2 c3 c4 c5).toArray 38)) w.heap.size 28 (bookL x af ap av aq cf cp cv cq) := (Row.new w 28 (bookL x af ap av aq cf cp cv cq)).alloc _
 have o0 : Row ((w.alloc (.cells (bookL x af ap av aq cf cp cv cq).toArray 28)).alloc (.cells (wantL y a2 a3 a4 a5 c2 c3 c4 c5).toArray 38)) (w.heap.size + 1) 38 (wantL y a2 a3 a4 a5 c2 c3 c4 c5) := by
  have := Row.new (w.alloc (.cells (bookL x af ap av aq cf cp cv cq).toArray 28)) 38 (wantL y a2 a3 a4 a5 c2 c3 c4 c5)
  simpa using this
 have HXY : Hid (BookIn w x af ap av aq ∧ WantIn w y a2 a3 a4 a5) := ⟨hx, hy⟩
 go_enter Tryz.func173, Tryz.ntmps173
 go_wp2_with fail
 refine (l2Clashes_any x af ap av aq cf cp cv cq a2 a2 c2 c2 y.stuffs y.stuffs _ (hx.later b0).foes fx.foes.len (hy.later b0).stuffs (hy.later b0).stuffs fy.stuffs.1 fy.stuffs.1).mono ?_
 rintro e wA ⟨rfl, hbA⟩
 have bA := b0.trans (hbA.mono b0.size)
 have iA := i0.later hbA
 have oA := o0.later hbA
 clear b0 i0 o0 hbA
 cases hcl : clashesB x.foes y.stuffs y.stuffs with
 | true =>
  go_wp2
  go_ret
  exact ⟨ret_int (stuffs_clash hcl).symm, bA⟩
 | false =>
 have HCL : Hid (clashesB x.foes y.stuffs y.stuffs = false) := hcl
 clear hcl
 have HK1 : Hid ((y.kind == 1) = true ∨ (y.kind == 1) = false) := (by cases (y.kind == 1) <;> simp : (y.kind == 1) = true ∨ (y.kind == 1) = false)
 cases k1 : y.kind == 1 with
 | false =>
  have u1 := oA.cell 1 rfl
  have u3 := oA.cell 3 rfl
  go_wp2
  refine wp_loop_rounds 1 ?_
  rw [rounds_succ]
  by_cases hz : (0 : Int) < y.uses.length
  · go_wp2
    go_ret
    exact ⟨ret_int (stuffs_other HCL.out k1).symm, bA⟩
  · go_wp2
    go_ret
    exact ⟨ret_int (stuffs_other HCL.out k1).symm, bA⟩
 | true =>
 go_wp2
 go_loopw [5] (fun i wr => ∃ (k : Nat), k ≤ y.uses.length ∧ i = .int .i64 k ∧ zerosTo k (mayAt x y) = true ∧ Below wA.heap.size wA wr) (fun i _ => y.uses.length - (intOf i).toNat)
 case atStart => exact ⟨0, Nat.zero_le _, rfl, rfl, Below.refl _ _⟩
 case round wr =>
  obtain ⟨k, hk, rfl, hall, hbel⟩ := hrel
  have hbw := bA.trans (hbel.mono bA.size)
  have i3 := iA.later hbel
  have o3 := oA.later hbel
  clear iA oA
  have y3 := o3.cell 3 rfl
  have w1 := o3.cell 1 rfl
  by_cases hlt : k < y.uses.length
  · obtain ⟨b, o, ha, hb, hc0, hc1, hc2⟩ := (hy.later hbw).uses.at hlt
    obtain ⟨j, hj, hspot⟩ := knowsB_spot hkn hlt
    obtain ⟨bs, os, m, c, has, hbs, hd0, hd1, hd2, hd3, hd4, hst⟩ := (hx.later hbw).spots.at hj
    have hfs := (fx.spots.names _ (gp_mem hj)).2
    have hcall : ∀ W', Below wr.heap.size wr W' → Calls Tryz.prog 130 #[bookV x af ap av aq cf cp cv cq, .string (gu y.uses k).name] W' fun e w' => e = .returned (.int .i64 (spotI x.spots (gu y.uses k).name)) ∧ Later wr W' w' := fun W' hb' =>
     (l2Spot_any x af ap av aq cf cp cv cq (gu y.uses k).name W' (hx.later (hbw.trans (hb'.mono hbw.size))).spots fx.spots.len).mono fun _ _ h => ⟨h.1, Later.of hb' h.2⟩
    subst ha has
    rw [hspot] at hcall
    unfold bookV at hcall
    have hlt2 : (k : Int) < y.uses.length := by omega
    have hk0 : (0 : Int) ≤ k := by omega
    have hj2 : (j : Int) < x.spots.length := by omega
    have hj0 : (0 : Int) ≤ j := by omega
    have y0 := i3.cell 0 rfl
    have y1 := i3.cell 1 rfl
    have y2 := i3.cell 2 rfl
    have y4 := i3.cell 3 rfl
    have y5 := i3.cell 4 rfl
    have hS : ∀ w', Below wr.heap.size wr w' → (w'.cell? ⟨w.heap.size, 0, none⟩ = some (.slice af x.foes.length cf) ∧ w'.cell? ⟨w.heap.size, 1, none⟩ = some (.slice (some ⟨bs, os, none⟩) x.spots.length cp) ∧ w'.cell? ⟨w.heap.size, 2, none⟩ = some (.slice av x.valves.length cv) ∧
     w'.cell? ⟨w.heap.size, 3, none⟩ = some (.slice aq x.parts.length cq) ∧ w'.cell? ⟨w.heap.size, 4, none⟩ = some (.int .i64 x.seen) ∧ w'.cell? ⟨w.heap.size + 1, 3, none⟩ = some (.slice (some ⟨b, o, none⟩) y.uses.length c3) ∧
     w'.cell? ⟨b, o + k * 3, none⟩ = some (.string (gu y.uses k).name) ∧ w'.cell? ⟨bs, os + j * 5, none⟩ = some (.string (gp x.spots j).name) ∧ w'.cell? ⟨bs, os + j * 5 + 1, none⟩ = some (.int .i64 (gp x.spots j).cap) ∧
     w'.cell? ⟨bs, os + j * 5 + 2, none⟩ = some (.int .i64 (gp x.spots j).least) ∧ w'.cell? ⟨bs, os + j * 5 + 3, none⟩ = some (.int .i64 (gp x.spots j).most) ∧ w'.cell? ⟨bs, os + j * 5 + 4, none⟩ = some (.slice m (gp x.spots j).may.length c) ∧ Below wr.heap.size wr w' ∧ wr.heap.size ≤ w'.heap.size) := fun w' hb' =>
     ⟨cell_later hb' y0, cell_later hb' y1, cell_later hb' y2, cell_later hb' y4, cell_later hb' y5, cell_later hb' y3, cell_later hb' hc0, cell_later hb' hd0, cell_later hb' hd1, cell_later hb' hd2, cell_later hb' hd3, cell_later hb' hd4, hb', hb'.size⟩
    go_wp2_with fail
    go_region_held3 (fun w' => (w'.cell? ⟨w.heap.size, 0, none⟩ = some (.slice af x.foes.length cf) ∧ w'.cell? ⟨w.heap.size, 1, none⟩ = some (.slice (some ⟨bs, os, none⟩) x.spots.length cp) ∧ w'.cell? ⟨w.heap.size, 2, none⟩ = some (.slice av x.valves.length cv) ∧
     w'.cell? ⟨w.heap.size, 3, none⟩ = some (.slice aq x.parts.length cq) ∧ w'.cell? ⟨w.heap.size, 4, none⟩ = some (.int .i64 x.seen) ∧ w'.cell? ⟨w.heap.size + 1, 3, none⟩ = some (.slice (some ⟨b, o, none⟩) y.uses.length c3) ∧
     w'.cell? ⟨b, o + k * 3, none⟩ = some (.string (gu y.uses k).name) ∧ w'.cell? ⟨bs, os + j * 5, none⟩ = some (.string (gp x.spots j).name) ∧ w'.cell? ⟨bs, os + j * 5 + 1, none⟩ = some (.int .i64 (gp x.spots j).cap) ∧
     w'.cell? ⟨bs, os + j * 5 + 2, none⟩ = some (.int .i64 (gp x.spots j).least) ∧ w'.cell? ⟨bs, os + j * 5 + 3, none⟩ = some (.int .i64 (gp x.spots j).most) ∧ w'.cell? ⟨bs, os + j * 5 + 4, none⟩ = some (.slice m (gp x.spots j).may.length c) ∧ Below wr.heap.size wr w' ∧ wr.heap.size ≤ w'.heap.size))
     ((refine hS _ ?_; repeat (first | assumption | exact Below.refl _ _ | refine Below.drew ?_ | refine Below.alloc ?_ (by (try simp); (try omega)) _ | refine Below.setCell ?_ (by (try simp); (try omega)) _)))
     (first | (go_at_call 130; refine (hcall _ ?_).mono ?_; (simp [*]); rintro e w' ⟨rfl, hb', hsz', hlat, hfro⟩; have z0 := hlat ⟨wr.heap.size, 0, none⟩ (.string { data := #[] }); have f0 := hfro ⟨wr.heap.size, 0, none⟩ (.string { data := #[] }); have z1 := hlat ⟨wr.heap.size, 1, none⟩ (.int .i64 0); have f1 := hfro ⟨wr.heap.size, 1, none⟩ (.int .i64 0); have z2 := hlat ⟨wr.heap.size, 2, none⟩ (.int .i64 0); have f2 := hfro ⟨wr.heap.size, 2, none⟩ (.int .i64 0); have z3 := hlat ⟨wr.heap.size, 3, none⟩ (.int .i64 0); have f3 := hfro ⟨wr.heap.size, 3, none⟩ (.int .i64 0); have z4 := hlat ⟨wr.heap.size, 4, none⟩ (.slice none 0 0); have f4 := hfro ⟨wr.heap.size, 4, none⟩ (.slice none 0 0); try simp at z0 z1 z2 z3 z4 f0 f1 f2 f3 f4))
    all_goals first
     | (have q := SpotBox.sets (s := gp x.spots j) (m := m) (c := c) z0 z1 z2 z3 z4
        have hbX := ((((hb'.setCell (p := ⟨wr.heap.size, 0, none⟩) (Nat.le_refl _) (.string (gp x.spots j).name)).setCell (p := ⟨wr.heap.size, 1, none⟩) (Nat.le_refl _) (.int .i64 (gp x.spots j).cap)).setCell (p := ⟨wr.heap.size, 2, none⟩) (Nat.le_refl _) (.int .i64 (gp x.spots j).least)).setCell (p := ⟨wr.heap.size, 3, none⟩) (Nat.le_refl _) (.int .i64 (gp x.spots j).most)).setCell (p := ⟨wr.heap.size, 4, none⟩) (Nat.le_refl _) (.slice m (gp x.spots j).may.length c)
        rename_i hHeld
        clear hHeld hlat hfro z0 z1 z2 z3 z4 f0 f1 f2 f3 f4 hb' hsz'
        generalize ((((w'.setCell ⟨wr.heap.size, 0, none⟩ (.string (gp x.spots j).name)).setCell ⟨wr.heap.size, 1, none⟩ (.int .i64 (gp x.spots j).cap)).setCell ⟨wr.heap.size, 2, none⟩ (.int .i64 (gp x.spots j).least)).setCell ⟨wr.heap.size, 3, none⟩ (.int .i64 (gp x.spots j).most)).setCell ⟨wr.heap.size, 4, none⟩ (.slice m (gp x.spots j).may.length c) = X at q hbX ⊢
        obtain ⟨B, hB⟩ : ∃ B, B = wr.heap.size := ⟨_, rfl⟩
        rw [← hB] at q ⊢
        clear hB)
     | (have q := SpotBox.new w' (gp x.spots j) m c
        have hbX := hb'.alloc hsz' (.cells #[.string (gp x.spots j).name, .int .i64 (gp x.spots j).cap, .int .i64 (gp x.spots j).least, .int .i64 (gp x.spots j).most, .slice m (gp x.spots j).may.length c] 72)
        rename_i hHeld
        clear hHeld hlat hfro z0 z1 z2 z3 z4 f0 f1 f2 f3 f4 hb' hsz'
        generalize w'.alloc (.cells #[.string (gp x.spots j).name, .int .i64 (gp x.spots j).cap, .int .i64 (gp x.spots j).least, .int .i64 (gp x.spots j).most, .slice m (gp x.spots j).may.length c] 72) = X at q hbX ⊢
        generalize w'.heap.size = B at q ⊢)
    all_goals
     have x0 := cell_later hbX y0
     have x1 := cell_later hbX y1
     have x2 := cell_later hbX y2
     have x3 := cell_later hbX y4
     have x4 := cell_later hbX y5
     clear hS hcall y0 y1 y2 y4 y5
     obtain ⟨p0, p1, p2, p3, p4⟩ := q
     have hpl := block_lt_of_cell p0
     dsimp only at hpl
     have hO := hbw.trans (hbX.mono hbw.size)
     have y3' := cell_later hbX y3
     have e0 := cell_later hbX hc0
     have e1 := cell_later hbX hc1
     have e2 := cell_later hbX hc2
     have t1 := (o3.later hbX).cell 1 rfl
     have ht1 := block_lt_of_cell t1
     dsimp only at ht1
     have t2 := (o3.later hbX).cell 2 rfl
     have HA : Hid (mayAt x y k = mayCode x.foes (gp x.spots j) y (gu y.uses k)) := (by unfold mayAt spotOf spotAtI; rw [hspot]; rfl : mayAt x y k = mayCode x.foes (gp x.spots j) y (gu y.uses k))
     clear hspot w1
     have hsz := Nat.le_trans hbw.size hbX.size
     have hbel1 := hbel.trans (hbX.mono hbel.size)
     have hstX := hst.later hbX
     have hxX := hx.later hO
     have hyX := hy.later hO
     have HS : Hid (RowKit.Below w.heap.size w X ∧ w.heap.size ≤ X.heap.size) := ⟨hO, hsz⟩
     have HB : Hid (RowKit.Below wA.heap.size wA X) := hbel1
     clear hsz hO hbel1 hbel hbX hbw i3
     cases r2 : (gu y.uses k).role == 2 with
     | false =>
      have r2' : ((gu y.uses k).role != 2) = true := by rw [bne, r2]; rfl
      go_wp2_with fail
      refine (l1All_any m a2 c c2 (gp x.spots j).may y.stuffs _ hstX hyX.stuffs hfs.1 fy.stuffs.1).mono ?_
      rintro e w1 ⟨rfl, rfl⟩
      cases hq : allB (gp x.spots j).may y.stuffs with
      | false =>
       go_wp2
       go_ret
       exact ⟨ret_int (stuffs_hit HCL.out k1 hall hlt (HA.out.trans (by rw [may_by r2, hq]; rfl)) (by decide)).symm, HS.out.1⟩
      | true =>
       go_wp2
       go_roundw
       case rel => exact ⟨k + 1, by omega, by go_num, zerosTo_succ hall (HA.out.trans (by rw [may_by r2, hq]; rfl)), HB.out⟩
       case measure => simp [intOf]; omega
     | true =>
      have r2' : ((gu y.uses k).role != 2) = false := by rw [bne, r2]; rfl
      go_wp2_with fail
      refine (l2Clashes_any x af _ av aq cf cp cv cq a2 m c2 c y.stuffs (gp x.spots j).may _ hxX.foes fx.foes.len hyX.stuffs hstX fy.stuffs.1 hfs.1).mono ?_
      rintro e w1 ⟨rfl, hb1⟩
      cases hq : clashesB x.foes y.stuffs (gp x.spots j).may with
      | true =>
       go_wp2
       go_ret
       exact ⟨ret_int (stuffs_hit HCL.out k1 hall hlt (HA.out.trans (by rw [may_to r2, hq]; rfl)) (by decide)).symm, HS.out.1.trans (hb1.mono HS.out.2)⟩
      | false =>
      have e1' := cell_later hb1 e1
      have y3'' := cell_later hb1 y3'
      have t2' := cell_later hb1 t2
      have p4' := cell_later hb1 p4
      clear e1 y3' t2 p4
      go_wp2_with fail
      refine (l3Union_any m a2 c c2 (gp x.spots j).may y.stuffs _ (hstX.later hb1) (hyX.later hb1).stuffs (by have := hms _ (gp_mem hj); omega) (by omega)).mono ?_
      rintro e w2 ⟨rfl, hb2⟩
      generalize hun : unionN (gp x.spots j).may y.stuffs = un
      have HU : Hid (unionN (gp x.spots j).may y.stuffs = un) := hun
      clear hun
      have HE : Hid (Below X.heap.size X w2) := hb1.trans (hb2.mono hb1.size)
      clear hb1 hb2
      by_cases hgt : (8 : Int) < un
      · go_wp2
        go_ret
        exact ⟨ret_int (stuffs_hit HCL.out k1 hall hlt (HA.out.trans (by rw [may_to r2, hq, HU.out]; simp; omega)) (by decide)).symm, HS.out.1.trans (HE.out.mono HS.out.2)⟩
      · go_wp2
        go_roundw
        case rel => exact ⟨k + 1, by omega, by go_num, zerosTo_succ hall (HA.out.trans (by rw [may_to r2, hq, HU.out]; simp; omega)), HB.out.trans (HE.out.mono HB.out.size)⟩
        case measure => simp [intOf]; omega
  · have : k = y.uses.length := by omega
    subst this
    go_wp2
    go_ret
    exact ⟨ret_int (stuffs_zero HCL.out k1 hall).symm, hbw⟩

end Go.Proofs.YtfmhkicncgccjaaGreat

