/- Joined: GrL. -/
import Derived.Test.YtfmhkicncgccjaaGreatDoorPe11
import Derived.Test.YtfmhkicncgccjaaGreatDoorPe09
import Derived.Test.YtfmhkicncgccjaaGreatDoorPe12
import Derived.Test.YtfmhkicncgccjaaGreatDoorPc05
import Derived.Test.YtfmhkicncgccjaaGreatDoorPc04
import Derived.Deep.RegionHeld3
import Derived.Deep.RegionWith
import Derived.Deep.DeepCutAuto
/- The law FnExactClaimGrant, walked: it returns true. -/
namespace Go.Proofs.YtfmhkicncgccjaaGreatDoor
open Go.RowKit Go.Sort
set_option linter.unusedSimpArgs false
set_option linter.unusedVariables false

set_option maxRecDepth 100000 in
set_option maxHeartbeats 8000000 in
theorem grantLaw_any (x : Book) (af ap av aq : Option Addr) (cf cp cv cq : Nat) (y : Want) (a2 a3 a4 a5 : Option Addr) (c2 c3 c4 c5 : Nat) (w : World) (hx : BookIn w x af ap av aq) (fx : BookFit x) (hy : WantIn w y a2 a3 a4 a5) (fy : WantFit y) (n0 : -9223372036854775808 ≤ y.number) (n1 : y.number ≤ 9223372036854775807) (ht : TabW w) (hg : ErrType w) :
    Calls Tryz.prog 4 #[bookV x af ap av aq cf cp cv cq, wantW y a2 a3 a4 a5 c2 c3 c4 c5] w fun e w' => e = .returned (.bool true) ∧ Below w.heap.size w w' := by
  have hfr := grantB_fit fx fy
  have hwr := grantB_room (x := x) (y := y)
  have hkr1 := kB4_one (grantB x y)
  have hkr2 := kB4_le (grantB x y) 1
  have hkx1 := kB4_one x
  have hkx2 := kB4_le x 1
  have hSpec : ∀ (W : World) (e0 e1 e2 e3 : Option Addr) (d0 d1 d2 d3 : Nat) (r2 r3 r4 r5 : Option Addr) (s2 s3 s4 s5 : Nat), BookRoom x → BookIn W x e0 e1 e2 e3 → WantIn W y r2 r3 r4 r5 → Calls Tryz.prog 13 #[bookV x e0 e1 e2 e3 d0 d1 d2 d3, wantW y r2 r3 r4 r5 s2 s3 s4 s5] W fun e w' => Gives W.heap.size (grantB x y) (codeC x y) e w' ∧ Below W.heap.size W w' :=
    fun W e0 e1 e2 e3 d0 d1 d2 d3 r2 r3 r4 r5 s2 s3 s4 s5 R h1 h2 => specGrant_own x e0 e1 e2 e3 d0 d1 d2 d3 y r2 r3 r4 r5 s2 s3 s4 s5 W h1 fx R h2 fy
  have hImpl : ∀ (W : World) (e0 e1 e2 e3 : Option Addr) (d0 d1 d2 d3 : Nat) (r2 : Addr) (r3 r4 r5 : Option Addr) (s2 s3 s4 s5 : Nat), BookRoom x → BookIn W x e0 e1 e2 e3 → WantIn W y (some r2) r3 r4 r5 → y.stuffs.length ≤ s2 → Below w.heap.size w W → Calls Tryz.prog 14 #[bookV x e0 e1 e2 e3 d0 d1 d2 d3, wantW y (some r2) r3 r4 r5 s2 s3 s4 s5] W fun e w' => Gives W.heap.size (grantB x y) (codeC x y) e w' ∧ Below W.heap.size W w' :=
    fun W e0 e1 e2 e3 d0 d1 d2 d3 r2 r3 r4 r5 s2 s3 s4 s5 R h1 h2 hc hb => implGrant_own x e0 e1 e2 e3 d0 d1 d2 d3 y r2 r3 r4 r5 s2 s3 s4 s5 W h1 fx R h2 fy hc n0 n1 (ht.later hb) (hg.later hb)
  generalize grantB x y = res at hfr hwr hkr1 hkr2 hSpec hImpl
  generalize codeC x y = code at hSpec hImpl
  have hcc : (code != code) = false := by simp
  clear n0 n1 ht hg
  unfold bookV wantW
  obtain ⟨X0, hX0⟩ : ∃ W, W = (w.alloc (.cells #[.slice af x.foes.length cf, .slice ap x.spots.length cp, .slice av x.valves.length cv, .slice aq x.parts.length cq, .int .i64 x.seen] 27)).alloc (.cells #[.int .i64 y.number, .int .i64 y.kind, .slice a2 y.stuffs.length c2, .slice a3 y.uses.length c3, .slice a4 y.opens.length c4, .slice a5 y.shuts.length c5] 30) := ⟨_, rfl⟩
  have h0 : Below w.heap.size w X0 := by rw [hX0]; exact ((Below.refl _ _).alloc (Nat.le_refl _) _).alloc (by simp) _
  have i0 : Row X0 w.heap.size 27 [.slice af x.foes.length cf, .slice ap x.spots.length cp, .slice av x.valves.length cv, .slice aq x.parts.length cq, .int .i64 x.seen] := by rw [hX0]; exact (Row.new _ _ _).alloc _
  have o0 : Row X0 (w.heap.size + 1) 30 [.int .i64 y.number, .int .i64 y.kind, .slice a2 y.stuffs.length c2, .slice a3 y.uses.length c3, .slice a4 y.opens.length c4, .slice a5 y.shuts.length c5] := by
    rw [hX0]
    have := Row.new (w.alloc (.cells #[.slice af x.foes.length cf, .slice ap x.spots.length cp, .slice av x.valves.length cv, .slice aq x.parts.length cq, .int .i64 x.seen] 27)) 30 [.int .i64 y.number, .int .i64 y.kind, .slice a2 y.stuffs.length c2, .slice a3 y.uses.length c3, .slice a4 y.opens.length c4, .slice a5 y.shuts.length c5]
    simpa using this
  go_enter Tryz.func4, Tryz.ntmps4
  go_wp2_with fail
  rw [← hX0]
  clear hX0
  refine (szClaimBook_w x af ap av aq cf cp cv cq 1048576 _ (hx.later h0) fx (by omega) (by omega)).mono ?_
  rintro e w1 ⟨⟨r1, rfl, hr1, hr1', hR1⟩, hb1⟩
  have h1 := h0.trans (hb1.mono h0.size)
  have i1 := i0.later hb1
  have o1 := o0.later hb1
  clear i0 o0 hb1 h0
  have y0 := o1.cell 0 rfl
  have y1 := o1.cell 1 rfl
  have y2 := o1.cell 2 rfl
  have y3 := o1.cell 3 rfl
  have y4 := o1.cell 4 rfl
  have y5 := o1.cell 5 rfl
  by_cases hn1 : r1 < 0
  · go_wp2
    go_ret
    exact ⟨rfl, h1⟩
  have hwB : wB x ≤ 1048576 := by have := hR1 (by omega); omega
  have RB := bookRoom_of hwB
  clear hR1
  go_wp2_with fail
  refine (szClaimWant_any y a2 a3 a4 a5 c2 c3 c4 c5 r1 _ (hy.later h1) fy (by omega) (by omega)).mono ?_
  rintro e w2 ⟨⟨r2, rfl, hr2, hr2', hR2⟩, hb2⟩
  have h2 := h1.trans (hb2.mono h1.size)
  have i2 := i1.later hb2
  have o2 := o1.later hb2
  clear i1 o1 hb2 h1
  clear y0 y1 y2 y3 y4 y5
  by_cases hn2 : r2 < 0
  · go_wp2
    go_ret
    exact ⟨rfl, h2⟩
  have RW := hR2 (by omega)
  clear hR2
  have HX : Hid _ := hx
  have HY : Hid _ := hy
  have hTB : ∀ W', Below w2.heap.size w2 W' → Calls Tryz.prog 8 #[.agg #[.slice af x.foes.length cf, .slice ap x.spots.length cp, .slice av x.valves.length cv, .slice aq x.parts.length cq, .int .i64 x.seen]] W' fun e w' => (∃ b0 b1 b2 b3, e = .returned (.agg #[.slice (some ⟨b0, 0, none⟩) x.foes.length x.foes.length, .slice (some ⟨b1, 0, none⟩) x.spots.length x.spots.length, .slice (some ⟨b2, 0, none⟩) x.valves.length x.valves.length, .slice (some ⟨b3, 0, none⟩) x.parts.length x.parts.length, .int .i64 x.seen]) ∧ BookIn w' x (some ⟨b0, 0, none⟩) (some ⟨b1, 0, none⟩) (some ⟨b2, 0, none⟩) (some ⟨b3, 0, none⟩)) ∧ Below w2.heap.size w2 w' ∧ Below W'.heap.size W' w' := fun W' h' =>
    (toClaimBook_any x af ap av aq cf cp cv cq W' (HX.out.later (h2.trans (h'.mono h2.size))) RB).mono fun _ _ h => ⟨h.1.elim fun b0 h => h.elim fun b1 h => h.elim fun b2 h => h.elim fun b3 h => ⟨b0, b1, b2, b3, h.1, h.2.in_⟩, h'.trans (h.2.mono h'.size), h.2⟩
  have hTW : ∀ W', Below w2.heap.size w2 W' → Calls Tryz.prog 9 #[.agg #[.int .i64 y.number, .int .i64 y.kind, .slice a2 y.stuffs.length c2, .slice a3 y.uses.length c3, .slice a4 y.opens.length c4, .slice a5 y.shuts.length c5]] W' fun e w' => (∃ b0 b1 b2 b3, e = .returned (.agg #[.int .i64 y.number, .int .i64 y.kind, .slice (some ⟨b0, 0, none⟩) y.stuffs.length y.stuffs.length, .slice (some ⟨b1, 0, none⟩) y.uses.length y.uses.length, .slice (some ⟨b2, 0, none⟩) y.opens.length y.opens.length, .slice (some ⟨b3, 0, none⟩) y.shuts.length y.shuts.length]) ∧ WantIn w' y (some ⟨b0, 0, none⟩) (some ⟨b1, 0, none⟩) (some ⟨b2, 0, none⟩) (some ⟨b3, 0, none⟩)) ∧ Below w2.heap.size w2 w' ∧ Below W'.heap.size W' w' := fun W' h' =>
    (toClaimWant_any y a2 a3 a4 a5 c2 c3 c4 c5 W' (HY.out.later (h2.trans (h'.mono h2.size))) RW).mono fun _ _ h => ⟨h.1.elim fun b0 h => h.elim fun b1 h => h.elim fun b2 h => h.elim fun b3 h => ⟨b0, b1, b2, b3, h.1, h.2.2⟩, h'.trans (h.2.mono h'.size), h.2⟩
  have hS : ∀ w', Below w2.heap.size w2 w' → (w'.cell? ⟨w.heap.size, 0, none⟩ = some (.slice af x.foes.length cf) ∧ w'.cell? ⟨w.heap.size, 1, none⟩ = some (.slice ap x.spots.length cp) ∧ w'.cell? ⟨w.heap.size, 2, none⟩ = some (.slice av x.valves.length cv) ∧ w'.cell? ⟨w.heap.size, 3, none⟩ = some (.slice aq x.parts.length cq) ∧ w'.cell? ⟨w.heap.size, 4, none⟩ = some (.int .i64 x.seen) ∧ w'.cell? ⟨(w.heap.size + 1), 0, none⟩ = some (.int .i64 y.number) ∧ w'.cell? ⟨(w.heap.size + 1), 1, none⟩ = some (.int .i64 y.kind) ∧ w'.cell? ⟨(w.heap.size + 1), 2, none⟩ = some (.slice a2 y.stuffs.length c2) ∧ w'.cell? ⟨(w.heap.size + 1), 3, none⟩ = some (.slice a3 y.uses.length c3) ∧ w'.cell? ⟨(w.heap.size + 1), 4, none⟩ = some (.slice a4 y.opens.length c4) ∧ w'.cell? ⟨(w.heap.size + 1), 5, none⟩ = some (.slice a5 y.shuts.length c5) ∧ Below w2.heap.size w2 w') := fun w' hb' => ⟨cell_later hb' (i2.cell 0 rfl), cell_later hb' (i2.cell 1 rfl), cell_later hb' (i2.cell 2 rfl), cell_later hb' (i2.cell 3 rfl), cell_later hb' (i2.cell 4 rfl), cell_later hb' (o2.cell 0 rfl), cell_later hb' (o2.cell 1 rfl), cell_later hb' (o2.cell 2 rfl), cell_later hb' (o2.cell 3 rfl), cell_later hb' (o2.cell 4 rfl), cell_later hb' (o2.cell 5 rfl), hb'⟩
  clear hx hy
  go_upto_region 8 with fail
  go_cut [6, 7] (fun p c wx => ∃ (B : Nat) (p0 p1 p2 p3 : Option Addr) (q0 q1 q2 q3 : Nat) (P1 : Nat → Option Addr) (Q1 : Nat → Nat) (P2 : Nat → Nat → Option Addr) (Q2 : Nat → Nat → Nat), p = .pointer (some ⟨B, 0, none⟩) ∧ c = .int .i64 code ∧ Boxed wx B res p0 p1 p2 p3 q0 q1 q2 q3 P1 Q1 P2 Q2 ∧ Below w2.heap.size w2 wx ∧ w2.heap.size ≤ B ∧ ∀ q, InBk res p0 p1 p2 p3 P1 P2 q → w2.heap.size ≤ q ∧ q ≠ B)
  case first =>
    go_region_held3 (fun w' => (w'.cell? ⟨w.heap.size, 0, none⟩ = some (.slice af x.foes.length cf) ∧ w'.cell? ⟨w.heap.size, 1, none⟩ = some (.slice ap x.spots.length cp) ∧ w'.cell? ⟨w.heap.size, 2, none⟩ = some (.slice av x.valves.length cv) ∧ w'.cell? ⟨w.heap.size, 3, none⟩ = some (.slice aq x.parts.length cq) ∧ w'.cell? ⟨w.heap.size, 4, none⟩ = some (.int .i64 x.seen) ∧ w'.cell? ⟨(w.heap.size + 1), 0, none⟩ = some (.int .i64 y.number) ∧ w'.cell? ⟨(w.heap.size + 1), 1, none⟩ = some (.int .i64 y.kind) ∧ w'.cell? ⟨(w.heap.size + 1), 2, none⟩ = some (.slice a2 y.stuffs.length c2) ∧ w'.cell? ⟨(w.heap.size + 1), 3, none⟩ = some (.slice a3 y.uses.length c3) ∧ w'.cell? ⟨(w.heap.size + 1), 4, none⟩ = some (.slice a4 y.opens.length c4) ∧ w'.cell? ⟨(w.heap.size + 1), 5, none⟩ = some (.slice a5 y.shuts.length c5) ∧ Below w2.heap.size w2 w'))
      ((refine hS _ ?_; repeat (first | with_reducible assumption | with_reducible exact Below.refl _ _ | (with_reducible refine Below.setCell ?_ ?_ _) | (with_reducible refine Below.alloc ?_ ?_ _) | (with_reducible refine Below.drew ?_) | exact Nat.le_refl _ | (simp; done) | (simp; omega) | omega)))
      (first
        | (go_at_call 8; refine (hTB _ (by repeat (first | with_reducible assumption | with_reducible exact Below.refl _ _ | (with_reducible refine Below.setCell ?_ ?_ _) | (with_reducible refine Below.alloc ?_ ?_ _) | (with_reducible refine Below.drew ?_) | exact Nat.le_refl _ | (simp; done) | (simp; omega) | omega))).mono ?_; rintro e w3 ⟨⟨b0, b1, b2, b3, rfl, inB⟩, hb3, hb3'⟩; have hs3 := hb3.size; obtain ⟨hcA, hfA⟩ := bcell hb3'; have hz3 := hb3'.size; (try simp at hz3); (try (have hq23 : w2.heap.size < w3.heap.size := by omega)))
        | (go_at_call 9; refine (hTW _ (by repeat (first | with_reducible assumption | with_reducible exact Below.refl _ _ | (with_reducible refine Below.setCell ?_ ?_ _) | (with_reducible refine Below.alloc ?_ ?_ _) | (with_reducible refine Below.drew ?_) | exact Nat.le_refl _ | (simp; done) | (simp; omega) | omega))).mono ?_; rintro e w4 ⟨⟨d0, d1, d2, d3, rfl, inW⟩, hb4, hb4'⟩; have hs4 := hb4.size; have hb34 : RowKit.Below w3.heap.size w3 w4 := (by first | exact hb4' | exact Below.trans ((Below.refl _ _).alloc (Nat.le_refl _) _) (hb4'.mono (by simp))); obtain ⟨hcB, hfB⟩ := bcell hb4'; have hz4 := hb4'.size; (try simp at hz4); (try (have hq34 : w3.heap.size < w4.heap.size := by omega)); (try (have hq24 : w2.heap.size < w4.heap.size := by omega)))
        | (go_at_call 13; refine (hSpec _ _ _ _ _ _ _ _ _ _ _ _ _ _ _ _ _ RB (inB.later (by first | exact hb34 | exact Below.alloc hb34 hb34.size _)) (inW.later (by first | exact Below.refl _ _ | exact (Below.refl _ _).alloc (Nat.le_refl _) _))).mono ?_; rintro e w5 ⟨⟨p0, p1, p2, p3, q0, q1, q2, q3, P1, Q1, P2, Q2, rfl, ow, low⟩, hb5'⟩; have hb45 : RowKit.Below w4.heap.size w4 w5 := (by first | exact hb5' | exact Below.trans ((Below.refl _ _).alloc (Nat.le_refl _) _) (hb5'.mono (by simp))); have hb5 := Below.trans hb4 (hb45.mono hb4.size); have hs5 := hb5.size; obtain ⟨hcC, hfC⟩ := bcell hb5'; unfold bookV))
    all_goals
      rename_i hHeld
      clear hHeld hS hTB hTW hcA hfA hcB hfB hcC hfC
      have LOW : Hid _ := low
      have hs45 := hb45.size
      clear low
      go_wp2_with fail
      go_meet
      with_reducible refine ⟨_, p0, p1, p2, p3, q0, q1, q2, q3, P1, Q1, P2, Q2, rfl, rfl, ?h1, ?h2, ?h3, ?h4⟩
      case h1 =>
        first
          | exact Boxed.new q0 q1 q2 q3 ow
          | (with_reducible refine Boxed.stored q0 q1 q2 q3 (v0 := .slice none 0 0) (v1 := .slice none 0 0) (v2 := .slice none 0 0) (v3 := .slice none 0 0) (v4 := .int .i64 0) ?hr ow ?hf
             case hr => repeat (first | exact Row.new _ _ _ | with_reducible refine Row.new' (by simp) | with_reducible refine Row.drew ?_ | with_reducible refine Row.later ?_ hb5' | with_reducible refine Row.later ?_ hb4' | with_reducible refine Row.later ?_ hb3' | with_reducible refine Row.alloc ?_ _)
             case hf => exact fun q hq => by have h := LOW.out q hq; (try simp at h); (try simp at hs45); omega)
      case h2 => (repeat (first | with_reducible assumption | with_reducible exact Below.refl _ _ | (with_reducible refine Below.setCell ?_ ?_ _) | (with_reducible refine Below.alloc ?_ ?_ _) | (with_reducible refine Below.drew ?_) | exact Nat.le_refl _ | (simp; done) | (simp; omega) | omega))
      case h3 => ((try simp); (try omega))
      case h4 => exact fun q hq => by have h := LOW.out q hq; (try simp at h); have hlt := ow.lt hq; constructor <;> omega
  case rest =>
    obtain ⟨B, p0, p1, p2, p3, q0, q1, q2, q3, P1, Q1, P2, Q2, rfl, rfl, bw, hb5, hB, low⟩ := hcut
    clear hS hTB hTW
    have h5 := h2.trans (hb5.mono h2.size)
    have i5 := i2.later hb5
    have o5 := o2.later hb5
    have s25 := hb5.size
    have ho5 := o5.lt
    have LW : Hid ((∀ q, InBk res p0 p1 p2 p3 P1 P2 q → w2.heap.size ≤ q ∧ q < wc.heap.size ∧ q ≠ B) ∧ w2.heap.size ≤ B ∧ B < wc.heap.size) := ⟨fun q hq => ⟨(low q hq).1, bw.own.lt hq, (low q hq).2⟩, hB, bw.row.lt⟩
    have hw2 := h2.size
    clear hb5 low hB i2 o2 h2
    have y0 := i5.cell 0 rfl
    have y1 := i5.cell 1 rfl
    have y2 := i5.cell 2 rfl
    have y3 := i5.cell 3 rfl
    have y4 := i5.cell 4 rfl
    have hz := i5.lt
    go_wp2_with fail
    refine (toClaimBook_own x af ap av aq cf cp cv cq _ (HX.out.later h5) RB).mono ?_
    rintro e w6 ⟨⟨f0, f1, f2, f3, F1, D1, F2, D2, rfl, ox, lox⟩, hb⟩
    have LF : Hid ((∀ q, InBk x (some ⟨f0, 0, none⟩) (some ⟨f1, 0, none⟩) (some ⟨f2, 0, none⟩) (some ⟨f3, 0, none⟩) F1 F2 q → wc.heap.size ≤ q ∧ q < w6.heap.size) ∧ wc.heap.size ≤ w6.heap.size) := ⟨fun q hq => ⟨lox q hq, ox.lt hq⟩, hb.size⟩
    unfold bookV
    obtain ⟨X6, hX6⟩ : ∃ W, W = w6.alloc (.cells #[.slice (some ⟨f0, 0, none⟩) x.foes.length x.foes.length, .slice (some ⟨f1, 0, none⟩) x.spots.length x.spots.length, .slice (some ⟨f2, 0, none⟩) x.valves.length x.valves.length, .slice (some ⟨f3, 0, none⟩) x.parts.length x.parts.length, .int .i64 x.seen] 38) := ⟨_, rfl⟩
    have hb6 : Below wc.heap.size wc X6 := hb.trans (by rw [hX6]; exact ((Below.refl _ _).alloc (Nat.le_refl _) _).mono hb.size)
    have bx6 : Boxed X6 w6.heap.size x (some ⟨f0, 0, none⟩) (some ⟨f1, 0, none⟩) (some ⟨f2, 0, none⟩) (some ⟨f3, 0, none⟩) x.foes.length x.spots.length x.valves.length x.parts.length F1 D1 F2 D2 := by rw [hX6]; exact Boxed.new _ _ _ _ ox
    have h6 := h5.trans (hb6.mono h5.size)
    have i6 := i5.later hb6
    have o6 := o5.later hb6
    have bw6 := bw.later hb6
    have s6 : X6.heap.size = w6.heap.size + 1 := by rw [hX6]; simp
    clear y0 y1 y2 y3 y4 hz hb hb6 h5 i5 o5 bw ox lox
    have y0 := o6.cell 0 rfl
    have y1 := o6.cell 1 rfl
    have y2 := o6.cell 2 rfl
    have y3 := o6.cell 3 rfl
    have y4 := o6.cell 4 rfl
    have y5 := o6.cell 5 rfl
    rw [hX6] at y0 y1 y2 y3 y4 y5
    go_wp2_with fail
    rw [← hX6]
    clear hX6 y0 y1 y2 y3 y4 y5
    refine (toClaimWant_own y a2 a3 a4 a5 c2 c3 c4 c5 X6 (HY.out.later h6) RW).mono ?_
    rintro e w7 ⟨⟨e2, e3, e4, e5, rfl, ⟨l2, l23, l34, l45, l5⟩, oy⟩, hb⟩
    unfold wantW
    obtain ⟨X7, hX7⟩ : ∃ W, W = w7.alloc (.cells #[.int .i64 y.number, .int .i64 y.kind, .slice (some ⟨e2, 0, none⟩) y.stuffs.length y.stuffs.length, .slice (some ⟨e3, 0, none⟩) y.uses.length y.uses.length, .slice (some ⟨e4, 0, none⟩) y.opens.length y.opens.length, .slice (some ⟨e5, 0, none⟩) y.shuts.length y.shuts.length] 42) := ⟨_, rfl⟩
    have hb7w : Below w7.heap.size w7 X7 := by rw [hX7]; exact (Below.refl _ _).alloc (Nat.le_refl _) _
    have hb7 : Below X6.heap.size X6 X7 := hb.trans (hb7w.mono hb.size)
    have yr7 : Row X7 w7.heap.size 42 [.int .i64 y.number, .int .i64 y.kind, .slice (some ⟨e2, 0, none⟩) y.stuffs.length y.stuffs.length, .slice (some ⟨e3, 0, none⟩) y.uses.length y.uses.length, .slice (some ⟨e4, 0, none⟩) y.opens.length y.opens.length, .slice (some ⟨e5, 0, none⟩) y.shuts.length y.shuts.length] := by rw [hX7]; exact Row.new _ _ _
    have s7 : X7.heap.size = w7.heap.size + 1 := by rw [hX7]; simp
    have s67 := hb.size
    have oy7 := oy.later hb7w
    have h7 := h6.trans (hb7.mono h6.size)
    have i7 := i6.later hb7
    have o7 := o6.later hb7
    have bw7 := bw6.later hb7
    have bx7 := bx6.later hb7
    clear hb hb7 hb7w h6 i6 o6 bw6 bx6 oy
    have hcall := hImpl X7 _ _ _ _ x.foes.length x.spots.length x.valves.length x.parts.length ⟨e2, 0, none⟩ (some ⟨e3, 0, none⟩) (some ⟨e4, 0, none⟩) (some ⟨e5, 0, none⟩) y.stuffs.length y.uses.length y.opens.length y.shuts.length RB bx7.own.in_ oy7.in_ (Nat.le_refl _) h7
    unfold bookV wantW at hcall
    obtain ⟨u0, u1, u2, u3, u4, ul⟩ := bx7.cells
    rw [hX7] at u0 u1 u2 u3 u4 ul
    go_wp2_with fail
    rw [← hX7]
    clear hX7 u0 u1 u2 u3 u4 ul
    refine hcall.mono ?_
    rintro e w8 ⟨⟨g0, g1, g2, g3, j0, j1, j2, j3, G1, J1, G2, J2, rfl, og, log⟩, hb⟩
    have LG : Hid ((∀ q, InBk res g0 g1 g2 g3 G1 G2 q → X7.heap.size ≤ q ∧ q < w8.heap.size) ∧ X7.heap.size ≤ w8.heap.size) := ⟨fun q hq => ⟨log q hq, og.lt hq⟩, hb.size⟩
    unfold bookV
    obtain ⟨X8, hX8⟩ : ∃ W, W = w8.alloc (.cells #[.slice g0 res.foes.length j0, .slice g1 res.spots.length j1, .slice g2 res.valves.length j2, .slice g3 res.parts.length j3, .int .i64 res.seen] 38) := ⟨_, rfl⟩
    have hb8 : Below X7.heap.size X7 X8 := hb.trans (by rw [hX8]; exact ((Below.refl _ _).alloc (Nat.le_refl _) _).mono hb.size)
    have bg8 : Boxed X8 w8.heap.size res g0 g1 g2 g3 j0 j1 j2 j3 G1 J1 G2 J2 := by rw [hX8]; exact Boxed.new _ _ _ _ og
    have s8 : X8.heap.size = w8.heap.size + 1 := by rw [hX8]; simp
    have h8 := h7.trans (hb8.mono h7.size)
    have i8 := i7.later hb8
    have o8 := o7.later hb8
    have bw8 := bw7.later hb8
    have bx8 := bx7.later hb8
    have yr8 := yr7.later hb8
    have oy8 := oy7.later hb8
    clear hb hb8 hcall h7 i7 o7 bw7 bx7 yr7 oy7 og log
    obtain ⟨u0, u1, u2, u3, u4, ul⟩ := bw8.cells
    rw [hX8] at u0 u1 u2 u3 u4 ul
    go_wp2_with fail
    rw [← hX8]
    clear hX8 u0 u1 u2 u3 u4 ul
    refine (eqClaimBook_any res _ _ _ _ _ _ _ _ _ _ _ _ _ _ _ _ X8 bg8.own.in_ bw8.own.in_ hfr).mono ?_
    rintro e w9 ⟨rfl, hb⟩
    have h9 := h8.trans (hb.mono h8.size)
    have i9 := i8.later hb
    have o9 := o8.later hb
    have bw9 := bw8.later hb
    have bx9 := bx8.later hb
    have bg9 := bg8.later hb
    have yr9 := yr8.later hb
    have oy9 := oy8.later hb
    have s9 := hb.size
    clear hb h8 i8 o8 bw8 bx8 bg8 yr8 oy8
    have hTB : ∀ W', Below w9.heap.size w9 W' → Calls Tryz.prog 8 #[.agg #[.slice af x.foes.length cf, .slice ap x.spots.length cp, .slice av x.valves.length cv, .slice aq x.parts.length cq, .int .i64 x.seen]] W' fun e w' => (∃ b0 b1 b2 b3, e = .returned (.agg #[.slice (some ⟨b0, 0, none⟩) x.foes.length x.foes.length, .slice (some ⟨b1, 0, none⟩) x.spots.length x.spots.length, .slice (some ⟨b2, 0, none⟩) x.valves.length x.valves.length, .slice (some ⟨b3, 0, none⟩) x.parts.length x.parts.length, .int .i64 x.seen]) ∧ BookIn w' x (some ⟨b0, 0, none⟩) (some ⟨b1, 0, none⟩) (some ⟨b2, 0, none⟩) (some ⟨b3, 0, none⟩)) ∧ Below w9.heap.size w9 w' ∧ Below W'.heap.size W' w' := fun W' h' =>
      (toClaimBook_any x af ap av aq cf cp cv cq W' (HX.out.later (h9.trans (h'.mono h9.size))) RB).mono fun _ _ h => ⟨h.1.elim fun b0 h => h.elim fun b1 h => h.elim fun b2 h => h.elim fun b3 h => ⟨b0, b1, b2, b3, h.1, h.2.in_⟩, h'.trans (h.2.mono h'.size), h.2⟩
    have hS : ∀ w', Below w9.heap.size w9 w' → (w'.cell? ⟨w.heap.size, 0, none⟩ = some (.slice af x.foes.length cf) ∧ w'.cell? ⟨w.heap.size, 1, none⟩ = some (.slice ap x.spots.length cp) ∧ w'.cell? ⟨w.heap.size, 2, none⟩ = some (.slice av x.valves.length cv) ∧ w'.cell? ⟨w.heap.size, 3, none⟩ = some (.slice aq x.parts.length cq) ∧ w'.cell? ⟨w.heap.size, 4, none⟩ = some (.int .i64 x.seen) ∧ w'.cell? ⟨w6.heap.size, 0, none⟩ = some (.slice (some ⟨f0, 0, none⟩) x.foes.length x.foes.length) ∧ w'.cell? ⟨w6.heap.size, 1, none⟩ = some (.slice (some ⟨f1, 0, none⟩) x.spots.length x.spots.length) ∧ w'.cell? ⟨w6.heap.size, 2, none⟩ = some (.slice (some ⟨f2, 0, none⟩) x.valves.length x.valves.length) ∧ w'.cell? ⟨w6.heap.size, 3, none⟩ = some (.slice (some ⟨f3, 0, none⟩) x.parts.length x.parts.length) ∧ w'.cell? ⟨w6.heap.size, 4, none⟩ = some (.int .i64 x.seen) ∧ Below w9.heap.size w9 w') := fun w' hb' => ⟨cell_later hb' (i9.cell 0 rfl), cell_later hb' (i9.cell 1 rfl), cell_later hb' (i9.cell 2 rfl), cell_later hb' (i9.cell 3 rfl), cell_later hb' (i9.cell 4 rfl), cell_later hb' (bx9.row.cell 0 rfl), cell_later hb' (bx9.row.cell 1 rfl), cell_later hb' (bx9.row.cell 2 rfl), cell_later hb' (bx9.row.cell 3 rfl), cell_later hb' (bx9.row.cell 4 rfl), hb'⟩
    go_wp2_with fail
    go_region_held3 (fun w' => (w'.cell? ⟨w.heap.size, 0, none⟩ = some (.slice af x.foes.length cf) ∧ w'.cell? ⟨w.heap.size, 1, none⟩ = some (.slice ap x.spots.length cp) ∧ w'.cell? ⟨w.heap.size, 2, none⟩ = some (.slice av x.valves.length cv) ∧ w'.cell? ⟨w.heap.size, 3, none⟩ = some (.slice aq x.parts.length cq) ∧ w'.cell? ⟨w.heap.size, 4, none⟩ = some (.int .i64 x.seen) ∧ w'.cell? ⟨w6.heap.size, 0, none⟩ = some (.slice (some ⟨f0, 0, none⟩) x.foes.length x.foes.length) ∧ w'.cell? ⟨w6.heap.size, 1, none⟩ = some (.slice (some ⟨f1, 0, none⟩) x.spots.length x.spots.length) ∧ w'.cell? ⟨w6.heap.size, 2, none⟩ = some (.slice (some ⟨f2, 0, none⟩) x.valves.length x.valves.length) ∧ w'.cell? ⟨w6.heap.size, 3, none⟩ = some (.slice (some ⟨f3, 0, none⟩) x.parts.length x.parts.length) ∧ w'.cell? ⟨w6.heap.size, 4, none⟩ = some (.int .i64 x.seen) ∧ Below w9.heap.size w9 w'))
      ((refine hS _ ?_; repeat (first | with_reducible assumption | with_reducible exact Below.refl _ _ | (with_reducible refine Below.setCell ?_ ?_ _) | (with_reducible refine Below.alloc ?_ ?_ _) | (with_reducible refine Below.drew ?_) | exact Nat.le_refl _ | (simp; done) | (simp; omega) | omega)))
      (first
        | (go_at_call 8; refine (hTB _ (by repeat (first | with_reducible assumption | with_reducible exact Below.refl _ _ | (with_reducible refine Below.setCell ?_ ?_ _) | (with_reducible refine Below.alloc ?_ ?_ _) | (with_reducible refine Below.drew ?_) | exact Nat.le_refl _ | (simp; done) | (simp; omega) | omega))).mono ?_; rintro e w3 ⟨⟨b0, b1, b2, b3, rfl, inB⟩, hb3, hb3'⟩)
        | (go_at_call 11; refine (eqClaimBook_any x _ _ _ _ _ _ _ _ _ _ _ _ _ _ _ _ _ (bx9.own.in_.later hb3) inB fx).mono ?_; rintro e w10 ⟨rfl, hb10'⟩; have hb10 := hb3.trans (hb10'.mono hb3.size)))
    have h10 := h9.trans (hb10.mono h9.size)
    have i10 := i9.later hb10
    have o10 := o9.later hb10
    have bw10 := bw9.later hb10
    have bx10 := bx9.later hb10
    have bg10 := bg9.later hb10
    have yr10 := yr9.later hb10
    have oy10 := oy9.later hb10
    have s10 := hb10.size
    rename_i hHeld
    clear hHeld hS hTB hb10 hb10' hb3 hb3' inB h9 i9 o9 bw9 bx9 bg9 yr9 oy9
    have hTW : ∀ W', Below w10.heap.size w10 W' → Calls Tryz.prog 9 #[.agg #[.int .i64 y.number, .int .i64 y.kind, .slice a2 y.stuffs.length c2, .slice a3 y.uses.length c3, .slice a4 y.opens.length c4, .slice a5 y.shuts.length c5]] W' fun e w' => (∃ b0 b1 b2 b3, e = .returned (.agg #[.int .i64 y.number, .int .i64 y.kind, .slice (some ⟨b0, 0, none⟩) y.stuffs.length y.stuffs.length, .slice (some ⟨b1, 0, none⟩) y.uses.length y.uses.length, .slice (some ⟨b2, 0, none⟩) y.opens.length y.opens.length, .slice (some ⟨b3, 0, none⟩) y.shuts.length y.shuts.length]) ∧ WantIn w' y (some ⟨b0, 0, none⟩) (some ⟨b1, 0, none⟩) (some ⟨b2, 0, none⟩) (some ⟨b3, 0, none⟩)) ∧ Below w10.heap.size w10 w' ∧ Below W'.heap.size W' w' := fun W' h' =>
      (toClaimWant_any y a2 a3 a4 a5 c2 c3 c4 c5 W' (HY.out.later (h10.trans (h'.mono h10.size))) RW).mono fun _ _ h => ⟨h.1.elim fun b0 h => h.elim fun b1 h => h.elim fun b2 h => h.elim fun b3 h => ⟨b0, b1, b2, b3, h.1, h.2.2⟩, h'.trans (h.2.mono h'.size), h.2⟩
    have hS : ∀ w', Below w10.heap.size w10 w' → (w'.cell? ⟨(w.heap.size + 1), 0, none⟩ = some (.int .i64 y.number) ∧ w'.cell? ⟨(w.heap.size + 1), 1, none⟩ = some (.int .i64 y.kind) ∧ w'.cell? ⟨(w.heap.size + 1), 2, none⟩ = some (.slice a2 y.stuffs.length c2) ∧ w'.cell? ⟨(w.heap.size + 1), 3, none⟩ = some (.slice a3 y.uses.length c3) ∧ w'.cell? ⟨(w.heap.size + 1), 4, none⟩ = some (.slice a4 y.opens.length c4) ∧ w'.cell? ⟨(w.heap.size + 1), 5, none⟩ = some (.slice a5 y.shuts.length c5) ∧ w'.cell? ⟨w7.heap.size, 0, none⟩ = some (.int .i64 y.number) ∧ w'.cell? ⟨w7.heap.size, 1, none⟩ = some (.int .i64 y.kind) ∧ w'.cell? ⟨w7.heap.size, 2, none⟩ = some (.slice (some ⟨e2, 0, none⟩) y.stuffs.length y.stuffs.length) ∧ w'.cell? ⟨w7.heap.size, 3, none⟩ = some (.slice (some ⟨e3, 0, none⟩) y.uses.length y.uses.length) ∧ w'.cell? ⟨w7.heap.size, 4, none⟩ = some (.slice (some ⟨e4, 0, none⟩) y.opens.length y.opens.length) ∧ w'.cell? ⟨w7.heap.size, 5, none⟩ = some (.slice (some ⟨e5, 0, none⟩) y.shuts.length y.shuts.length) ∧ Below w10.heap.size w10 w') := fun w' hb' => ⟨cell_later hb' (o10.cell 0 rfl), cell_later hb' (o10.cell 1 rfl), cell_later hb' (o10.cell 2 rfl), cell_later hb' (o10.cell 3 rfl), cell_later hb' (o10.cell 4 rfl), cell_later hb' (o10.cell 5 rfl), cell_later hb' (yr10.cell 0 rfl), cell_later hb' (yr10.cell 1 rfl), cell_later hb' (yr10.cell 2 rfl), cell_later hb' (yr10.cell 3 rfl), cell_later hb' (yr10.cell 4 rfl), cell_later hb' (yr10.cell 5 rfl), hb'⟩
    go_wp2_with fail
    go_region_held3 (fun w' => (w'.cell? ⟨(w.heap.size + 1), 0, none⟩ = some (.int .i64 y.number) ∧ w'.cell? ⟨(w.heap.size + 1), 1, none⟩ = some (.int .i64 y.kind) ∧ w'.cell? ⟨(w.heap.size + 1), 2, none⟩ = some (.slice a2 y.stuffs.length c2) ∧ w'.cell? ⟨(w.heap.size + 1), 3, none⟩ = some (.slice a3 y.uses.length c3) ∧ w'.cell? ⟨(w.heap.size + 1), 4, none⟩ = some (.slice a4 y.opens.length c4) ∧ w'.cell? ⟨(w.heap.size + 1), 5, none⟩ = some (.slice a5 y.shuts.length c5) ∧ w'.cell? ⟨w7.heap.size, 0, none⟩ = some (.int .i64 y.number) ∧ w'.cell? ⟨w7.heap.size, 1, none⟩ = some (.int .i64 y.kind) ∧ w'.cell? ⟨w7.heap.size, 2, none⟩ = some (.slice (some ⟨e2, 0, none⟩) y.stuffs.length y.stuffs.length) ∧ w'.cell? ⟨w7.heap.size, 3, none⟩ = some (.slice (some ⟨e3, 0, none⟩) y.uses.length y.uses.length) ∧ w'.cell? ⟨w7.heap.size, 4, none⟩ = some (.slice (some ⟨e4, 0, none⟩) y.opens.length y.opens.length) ∧ w'.cell? ⟨w7.heap.size, 5, none⟩ = some (.slice (some ⟨e5, 0, none⟩) y.shuts.length y.shuts.length) ∧ Below w10.heap.size w10 w'))
      ((refine hS _ ?_; repeat (first | with_reducible assumption | with_reducible exact Below.refl _ _ | (with_reducible refine Below.setCell ?_ ?_ _) | (with_reducible refine Below.alloc ?_ ?_ _) | (with_reducible refine Below.drew ?_) | exact Nat.le_refl _ | (simp; done) | (simp; omega) | omega)))
      (first
        | (go_at_call 9; refine (hTW _ (by repeat (first | with_reducible assumption | with_reducible exact Below.refl _ _ | (with_reducible refine Below.setCell ?_ ?_ _) | (with_reducible refine Below.alloc ?_ ?_ _) | (with_reducible refine Below.drew ?_) | exact Nat.le_refl _ | (simp; done) | (simp; omega) | omega))).mono ?_; rintro e w3 ⟨⟨b0, b1, b2, b3, rfl, inK⟩, hb3, hb3'⟩)
        | (go_at_call 12; refine (eqClaimWant_any y _ _ _ _ _ _ _ _ _ _ _ _ _ _ _ _ _ (oy10.in_.later hb3) inK fy).mono ?_; rintro e w11 ⟨rfl, hb11'⟩; have hb11 := hb3.trans (hb11'.mono hb3.size)))
    have h11 := h10.trans (hb11.mono h10.size)
    have i11 := i10.later hb11
    have o11 := o10.later hb11
    have bw11 := bw10.later hb11
    have bx11 := bx10.later hb11
    have bg11 := bg10.later hb11
    have yr11 := yr10.later hb11
    have oy11 := oy10.later hb11
    have s11 := hb11.size
    rename_i hHeld
    clear hHeld hS hTW hb11 hb11' hb3 hb3' inK h10 i10 o10 bw10 bx10 bg10 yr10 oy10
    obtain ⟨⟨lw, lB, lB2⟩, ⟨lf, sf⟩, ⟨lg, sg⟩⟩ := And.intro LW.out (And.intro LF.out LG.out)
    have HL : Hid _ := And.intro lw (And.intro lf lg)
    have hBne6 : B ≠ w6.heap.size := by omega
    clear lw lf lg LW LF LG
    obtain ⟨z0, z1, z2, z3, z4, hzz⟩ := bx11.cells
    go_wp2_with fail
    refine (markBook_any x _ _ _ _ _ _ _ _ F1 D1 F2 D2 1 w11 bx11.own (by omega) (by omega)).mono ?_
    rintro e w12 ⟨rfl, -, O12⟩
    obtain ⟨lw, lf, lg⟩ := HL.out
    have h12 := h11.trans (O12.below (fun q hq => by have := lf q hq; omega) h11.size)
    have i12 := i11.only O12 (fun hq => by have := lf _ hq; omega)
    have o12 := o11.only O12 (fun hq => by have := lf _ hq; omega)
    have bw12 := bw11.only O12 (fun hq => by have := lf _ hq; omega) (fun q hq hq' => by have := lw q hq; have := lf q hq'; omega)
    have bg12 := bg11.only O12 (fun hq => by have := lf _ hq; omega) (fun q hq hq' => by have := lg q hq; have := lf q hq'; omega)
    have yr12 := yr11.only O12 (fun hq => by have := lf _ hq; omega)
    have oy12 := oy11.only O12 (fun hq => by have := lf _ hq; omega) (fun hq => by have := lf _ hq; omega) (fun hq => by have := lf _ hq; omega) (fun hq => by have := lf _ hq; omega)
    have s12 := O12.size
    clear lw lf lg O12 h11 i11 o11 bw11 bx11 bg11 yr11 oy11 z0 z1 z2 z3 z4 hzz
    generalize kB4 x 1 = K at hkx1 hkx2 ⊢
    have z0 := yr12.cell 0 rfl
    have z1 := yr12.cell 1 rfl
    have z2 := yr12.cell 2 rfl
    have z3 := yr12.cell 3 rfl
    have z4 := yr12.cell 4 rfl
    have z5 := yr12.cell 5 rfl
    go_wp2_with fail
    refine (markWant_any y e2 e3 e4 e5 _ _ _ _ K w12 oy12 l23 l34 l45 (by omega) RW (by omega) (by omega)).mono ?_
    rintro e w13 ⟨⟨K2, rfl, hK2⟩, O13⟩
    obtain ⟨lw, lf, lg⟩ := HL.out
    have hE : ∀ q, InW e2 e3 e4 e5 q → e2 ≤ q ∧ q ≤ e5 := fun q hq => by rcases hq with h | h | h | h <;> omega
    have h13 := h12.trans (O13.below (fun q hq => by have := hE q hq; omega) h12.size)
    have i13 := i12.only O13 (fun hq => by have := hE _ hq; omega)
    have o13 := o12.only O13 (fun hq => by have := hE _ hq; omega)
    have bw13 := bw12.only O13 (fun hq => by have := hE _ hq; omega) (fun q hq hq' => by have := lw q hq; have := hE q hq'; omega)
    have bg13 := bg12.only O13 (fun hq => by have := hE _ hq; omega) (fun q hq hq' => by have := lg q hq; have := hE q hq'; omega)
    have s13 := O13.size
    clear lw lf lg hE O13 h12 i12 o12 bw12 bg12 yr12 oy12 z0 z1 z2 z3 z4 z5
    have hK20 : ¬ K2 < 0 := by omega
    obtain ⟨u0, u1, u2, u3, u4, ul⟩ := bw13.cells
    obtain ⟨z0, z1, z2, z3, z4, hzz⟩ := bg13.cells
    go_wp2_with fail
    refine (eqClaimBook_any res _ _ _ _ _ _ _ _ _ _ _ _ _ _ _ _ w13 bg13.own.in_ bw13.own.in_ hfr).mono ?_
    rintro e w14 ⟨rfl, hb⟩
    have h14 := h13.trans (hb.mono h13.size)
    have i14 := i13.later hb
    have o14 := o13.later hb
    have bw14 := bw13.later hb
    have bg14 := bg13.later hb
    have s14 := hb.size
    clear hb h13 i13 o13 bw13 bg13 u0 u1 u2 u3 u4 ul z0 z1 z2 z3 z4 hzz
    obtain ⟨z0, z1, z2, z3, z4, hzz⟩ := bg14.cells
    go_wp2_with fail
    refine (markBook_any res _ _ _ _ _ _ _ _ G1 J1 G2 J2 1 w14 bg14.own (by omega) (by omega)).mono ?_
    rintro e w15 ⟨rfl, gg, O15⟩
    obtain ⟨lw, lf, lg⟩ := HL.out
    have h15 := h14.trans (O15.below (fun q hq => by have := lg q hq; omega) h14.size)
    have i15 := i14.only O15 (fun hq => by have := lg _ hq; omega)
    have o15 := o14.only O15 (fun hq => by have := lg _ hq; omega)
    have bw15 := bw14.only O15 (fun hq => by have := lg _ hq; omega) (fun q hq hq' => by have := lw q hq; have := lg q hq'; omega)
    have rg15 := bg14.row.only O15 (fun hq => by have := lg _ hq; omega)
    have s15 := O15.size
    clear lw lf lg O15 h14 i14 o14 bw14 bg14 z0 z1 z2 z3 z4 hzz
    have z0 := rg15.cell 0 rfl
    have z1 := rg15.cell 1 rfl
    have z2 := rg15.cell 2 rfl
    have z3 := rg15.cell 3 rfl
    have z4 := rg15.cell 4 rfl
    have hzz := rg15.lt
    go_wp2_with fail
    refine (heldBook_any res _ _ _ _ _ _ _ _ G1 J1 G2 J2 1 w15 gg (by omega) (by omega)).mono ?_
    rintro e w16 ⟨rfl, hb⟩
    have h16 := h15.trans (hb.mono h15.size)
    have i16 := i15.later hb
    have o16 := o15.later hb
    have bw16 := bw15.later hb
    have rg16 := rg15.later hb
    have gg16 := gg.later hb
    have s16 := hb.size
    clear hb h15 i15 o15 bw15 rg15 gg z0 z1 z2 z3 z4 hzz
    have hheld := fun (W : World) (h : BookG W res g0 g1 g2 g3 G1 J1 G2 J2 1) => heldBook_any res g0 g1 g2 g3 j0 j1 j2 j3 G1 J1 G2 J2 1 W h (by omega) (by omega)
    generalize kB4 res 1 = KR at hkr1 hkr2 hheld ⊢
    have hKR0 : ¬ KR < 0 := by omega
    have hKR1 : (KR != KR) = false := by simp
    have hTB : ∀ W', Below w16.heap.size w16 W' → Calls Tryz.prog 8 #[.agg #[.slice af x.foes.length cf, .slice ap x.spots.length cp, .slice av x.valves.length cv, .slice aq x.parts.length cq, .int .i64 x.seen]] W' fun e w' => (∃ b0 b1 b2 b3, e = .returned (.agg #[.slice (some ⟨b0, 0, none⟩) x.foes.length x.foes.length, .slice (some ⟨b1, 0, none⟩) x.spots.length x.spots.length, .slice (some ⟨b2, 0, none⟩) x.valves.length x.valves.length, .slice (some ⟨b3, 0, none⟩) x.parts.length x.parts.length, .int .i64 x.seen]) ∧ BookIn w' x (some ⟨b0, 0, none⟩) (some ⟨b1, 0, none⟩) (some ⟨b2, 0, none⟩) (some ⟨b3, 0, none⟩)) ∧ Below w16.heap.size w16 w' ∧ Below W'.heap.size W' w' := fun W' h' =>
      (toClaimBook_any x af ap av aq cf cp cv cq W' (HX.out.later (h16.trans (h'.mono h16.size))) RB).mono fun _ _ h => ⟨h.1.elim fun b0 h => h.elim fun b1 h => h.elim fun b2 h => h.elim fun b3 h => ⟨b0, b1, b2, b3, h.1, h.2.in_⟩, h'.trans (h.2.mono h'.size), h.2⟩
    have hTW : ∀ W', Below w16.heap.size w16 W' → Calls Tryz.prog 9 #[.agg #[.int .i64 y.number, .int .i64 y.kind, .slice a2 y.stuffs.length c2, .slice a3 y.uses.length c3, .slice a4 y.opens.length c4, .slice a5 y.shuts.length c5]] W' fun e w' => (∃ b0 b1 b2 b3, e = .returned (.agg #[.int .i64 y.number, .int .i64 y.kind, .slice (some ⟨b0, 0, none⟩) y.stuffs.length y.stuffs.length, .slice (some ⟨b1, 0, none⟩) y.uses.length y.uses.length, .slice (some ⟨b2, 0, none⟩) y.opens.length y.opens.length, .slice (some ⟨b3, 0, none⟩) y.shuts.length y.shuts.length]) ∧ WantIn w' y (some ⟨b0, 0, none⟩) (some ⟨b1, 0, none⟩) (some ⟨b2, 0, none⟩) (some ⟨b3, 0, none⟩)) ∧ Below w16.heap.size w16 w' ∧ Below W'.heap.size W' w' := fun W' h' =>
      (toClaimWant_any y a2 a3 a4 a5 c2 c3 c4 c5 W' (HY.out.later (h16.trans (h'.mono h16.size))) RW).mono fun _ _ h => ⟨h.1.elim fun b0 h => h.elim fun b1 h => h.elim fun b2 h => h.elim fun b3 h => ⟨b0, b1, b2, b3, h.1, h.2.2⟩, h'.trans (h.2.mono h'.size), h.2⟩
    have hS : ∀ w', Below w16.heap.size w16 w' → (w'.cell? ⟨w.heap.size, 0, none⟩ = some (.slice af x.foes.length cf) ∧ w'.cell? ⟨w.heap.size, 1, none⟩ = some (.slice ap x.spots.length cp) ∧ w'.cell? ⟨w.heap.size, 2, none⟩ = some (.slice av x.valves.length cv) ∧ w'.cell? ⟨w.heap.size, 3, none⟩ = some (.slice aq x.parts.length cq) ∧ w'.cell? ⟨w.heap.size, 4, none⟩ = some (.int .i64 x.seen) ∧ w'.cell? ⟨(w.heap.size + 1), 0, none⟩ = some (.int .i64 y.number) ∧ w'.cell? ⟨(w.heap.size + 1), 1, none⟩ = some (.int .i64 y.kind) ∧ w'.cell? ⟨(w.heap.size + 1), 2, none⟩ = some (.slice a2 y.stuffs.length c2) ∧ w'.cell? ⟨(w.heap.size + 1), 3, none⟩ = some (.slice a3 y.uses.length c3) ∧ w'.cell? ⟨(w.heap.size + 1), 4, none⟩ = some (.slice a4 y.opens.length c4) ∧ w'.cell? ⟨(w.heap.size + 1), 5, none⟩ = some (.slice a5 y.shuts.length c5) ∧ Below w16.heap.size w16 w') := fun w' hb' => ⟨cell_later hb' (i16.cell 0 rfl), cell_later hb' (i16.cell 1 rfl), cell_later hb' (i16.cell 2 rfl), cell_later hb' (i16.cell 3 rfl), cell_later hb' (i16.cell 4 rfl), cell_later hb' (o16.cell 0 rfl), cell_later hb' (o16.cell 1 rfl), cell_later hb' (o16.cell 2 rfl), cell_later hb' (o16.cell 3 rfl), cell_later hb' (o16.cell 4 rfl), cell_later hb' (o16.cell 5 rfl), hb'⟩
    go_upto_region 31 with fail
    go_cut [15, 16] (fun p c wx => ∃ (B : Nat) (p0 p1 p2 p3 : Option Addr) (q0 q1 q2 q3 : Nat) (P1 : Nat → Option Addr) (Q1 : Nat → Nat) (P2 : Nat → Nat → Option Addr) (Q2 : Nat → Nat → Nat), p = .pointer (some ⟨B, 0, none⟩) ∧ c = .int .i64 code ∧ Boxed wx B res p0 p1 p2 p3 q0 q1 q2 q3 P1 Q1 P2 Q2 ∧ Below w16.heap.size w16 wx)
    case first =>
      go_region_held3 (fun w' => (w'.cell? ⟨w.heap.size, 0, none⟩ = some (.slice af x.foes.length cf) ∧ w'.cell? ⟨w.heap.size, 1, none⟩ = some (.slice ap x.spots.length cp) ∧ w'.cell? ⟨w.heap.size, 2, none⟩ = some (.slice av x.valves.length cv) ∧ w'.cell? ⟨w.heap.size, 3, none⟩ = some (.slice aq x.parts.length cq) ∧ w'.cell? ⟨w.heap.size, 4, none⟩ = some (.int .i64 x.seen) ∧ w'.cell? ⟨(w.heap.size + 1), 0, none⟩ = some (.int .i64 y.number) ∧ w'.cell? ⟨(w.heap.size + 1), 1, none⟩ = some (.int .i64 y.kind) ∧ w'.cell? ⟨(w.heap.size + 1), 2, none⟩ = some (.slice a2 y.stuffs.length c2) ∧ w'.cell? ⟨(w.heap.size + 1), 3, none⟩ = some (.slice a3 y.uses.length c3) ∧ w'.cell? ⟨(w.heap.size + 1), 4, none⟩ = some (.slice a4 y.opens.length c4) ∧ w'.cell? ⟨(w.heap.size + 1), 5, none⟩ = some (.slice a5 y.shuts.length c5) ∧ Below w16.heap.size w16 w'))
        ((refine hS _ ?_; repeat (first | with_reducible assumption | with_reducible exact Below.refl _ _ | (with_reducible refine Below.setCell ?_ ?_ _) | (with_reducible refine Below.alloc ?_ ?_ _) | (with_reducible refine Below.drew ?_) | exact Nat.le_refl _ | (simp; done) | (simp; omega) | omega)))
        (first
          | (go_at_call 8; refine (hTB _ (by repeat (first | with_reducible assumption | with_reducible exact Below.refl _ _ | (with_reducible refine Below.setCell ?_ ?_ _) | (with_reducible refine Below.alloc ?_ ?_ _) | (with_reducible refine Below.drew ?_) | exact Nat.le_refl _ | (simp; done) | (simp; omega) | omega))).mono ?_; rintro e v3 ⟨⟨b0, b1, b2, b3, rfl, inB⟩, hb3, hb3'⟩; have hs3 := hb3.size; obtain ⟨hcA, hfA⟩ := bcell hb3'; have hz3 := hb3'.size; (try simp at hz3); (try (have hq23 : w16.heap.size < v3.heap.size := by omega)))
          | (go_at_call 9; refine (hTW _ (by repeat (first | with_reducible assumption | with_reducible exact Below.refl _ _ | (with_reducible refine Below.setCell ?_ ?_ _) | (with_reducible refine Below.alloc ?_ ?_ _) | (with_reducible refine Below.drew ?_) | exact Nat.le_refl _ | (simp; done) | (simp; omega) | omega))).mono ?_; rintro e v4 ⟨⟨d0, d1, d2, d3, rfl, inW⟩, hb4, hb4'⟩; have hs4 := hb4.size; have hb34 : RowKit.Below v3.heap.size v3 v4 := (by first | exact hb4' | exact Below.trans ((Below.refl _ _).alloc (Nat.le_refl _) _) (hb4'.mono (by simp))); obtain ⟨hcB, hfB⟩ := bcell hb4'; have hz4 := hb4'.size; (try simp at hz4); (try (have hq34 : v3.heap.size < v4.heap.size := by omega)); (try (have hq24 : w16.heap.size < v4.heap.size := by omega)))
          | (go_at_call 14; refine (hImpl _ _ _ _ _ _ _ _ _ _ _ _ _ _ _ _ _ RB (inB.later (by first | exact hb34 | exact Below.alloc hb34 hb34.size _)) (inW.later (by first | exact Below.refl _ _ | exact (Below.refl _ _).alloc (Nat.le_refl _) _)) (Nat.le_refl _) (by first | exact Below.trans h16 (hb4.mono h16.size) | exact Below.alloc (Below.trans h16 (hb4.mono h16.size)) (Nat.le_trans h16.size hb4.size) _)).mono ?_; rintro e v5 ⟨⟨p0', p1', p2', p3', q0', q1', q2', q3', P1', Q1', P2', Q2', rfl, ow, low⟩, hb5'⟩; have hb45 : RowKit.Below v4.heap.size v4 v5 := (by first | exact hb5' | exact Below.trans ((Below.refl _ _).alloc (Nat.le_refl _) _) (hb5'.mono (by simp))); have hb5 := Below.trans hb4 (hb45.mono hb4.size); have hs5 := hb5.size; obtain ⟨hcC, hfC⟩ := bcell hb5'; unfold bookV))
      all_goals
        rename_i hHeld
        clear hHeld hS hTB hTW hcA hfA hcB hfB hcC hfC
        have LOW : Hid _ := low
        have hs45 := hb45.size
        clear low
        go_wp2_with fail
        go_meet
        with_reducible refine ⟨_, p0', p1', p2', p3', q0', q1', q2', q3', P1', Q1', P2', Q2', rfl, rfl, ?h1, ?h2⟩
        case h1 =>
          first
            | exact Boxed.new q0' q1' q2' q3' ow
            | (with_reducible refine Boxed.stored q0' q1' q2' q3' (v0 := .slice none 0 0) (v1 := .slice none 0 0) (v2 := .slice none 0 0) (v3 := .slice none 0 0) (v4 := .int .i64 0) ?hr ow ?hf
               case hr => repeat (first | exact Row.new _ _ _ | with_reducible refine Row.new' (by simp) | with_reducible refine Row.drew ?_ | with_reducible refine Row.later ?_ hb5' | with_reducible refine Row.later ?_ hb4' | with_reducible refine Row.later ?_ hb3' | with_reducible refine Row.alloc ?_ _)
               case hf => exact fun q hq => by have h := LOW.out q hq; (try simp at h); (try simp at hs45); omega)
        case h2 => (repeat (first | with_reducible assumption | with_reducible exact Below.refl _ _ | (with_reducible refine Below.setCell ?_ ?_ _) | (with_reducible refine Below.alloc ?_ ?_ _) | (with_reducible refine Below.drew ?_) | exact Nat.le_refl _ | (simp; done) | (simp; omega) | omega))
    case rest =>
      obtain ⟨B2, p0', p1', p2', p3', q0', q1', q2', q3', P1', Q1', P2', Q2', rfl, rfl, bh, hb⟩ := hcut
      clear hS hTB hTW
      rename_i w17
      have h17 := h16.trans (hb.mono h16.size)
      have bw17 := bw16.later hb
      have rg17 := rg16.later hb
      have gg17 := gg16.later hb
      clear hb h16 bw16 rg16 gg16 i16 o16
      obtain ⟨u0, u1, u2, u3, u4, ul⟩ := bw17.cells
      obtain ⟨z0, z1, z2, z3, z4, hzz⟩ := bh.cells
      go_wp2_with fail
      refine (eqClaimBook_any res _ _ _ _ _ _ _ _ _ _ _ _ _ _ _ _ _ bh.own.in_ bw17.own.in_ hfr).mono ?_
      rintro e w18 ⟨rfl, hb⟩
      have h18 := h17.trans (hb.mono h17.size)
      have rg18 := rg17.later hb
      have gg18 := gg17.later hb
      clear hb h17 bw17 rg17 gg17 bh u0 u1 u2 u3 u4 ul z0 z1 z2 z3 z4 hzz
      have z0 := rg18.cell 0 rfl
      have z1 := rg18.cell 1 rfl
      have z2 := rg18.cell 2 rfl
      have z3 := rg18.cell 3 rfl
      have z4 := rg18.cell 4 rfl
      have hzz := rg18.lt
      go_wp2_with fail
      refine (hheld w18 gg18).mono ?_
      rintro e w19 ⟨rfl, hb⟩
      have h19 := h18.trans (hb.mono h18.size)
      clear hb h18 rg18 gg18 z0 z1 z2 z3 z4 hzz hheld
      go_wp2
      go_ret
      exact ⟨rfl, h19⟩

end Go.Proofs.YtfmhkicncgccjaaGreatDoor
