/- Joined: OwS. -/
import Derived.Deep.RegionHeld3
import Derived.Deep.DeepCutAuto
import Derived.Test.YtfmhkicncgccjaaGreatFm06
import Derived.Test.YtfmhkicncgccjaaGreatFm22
import Derived.Test.YtfmhkicncgccjaaGreatFm05
/- What the specification's l2Copy answers: a book that owns its memory. -/
namespace Go.Proofs.YtfmhkicncgccjaaGreat
open Go.RowKit Go.Sort
set_option linter.unusedSimpArgs false
set_option linter.unusedVariables false

set_option maxRecDepth 100000 in
set_option maxHeartbeats 8000000 in
theorem l2Copy_x (x : Book) (af ap av aq : Option Addr) (cf cp cv cq : Nat) (w : World) (hin : BookIn w x af ap av aq) (hr : BookRoom x) :
 Calls Tryz.prog 35 #[bookV x af ap av aq cf cp cv cq] w fun e w' => (∃ f0 f1 f2 f3 k0 k1 k2 k3 A1 C1 A2 C2, e = .returned (bookV x f0 f1 f2 f3 k0 k1 k2 k3) ∧ OwnBook w' x f0 f1 f2 f3 A1 C1 A2 C2 ∧ CapOf w' 61 7 f3 x.parts.length k3 ∧ (CapX w' 70 2 f0 x.foes.length k0 ∧ CapX w' 9 1 f2 x.valves.length k2 ∧ CapM w' x.spots A1 C1) ∧ (x.parts.length = 0 → f3 = none) ∧ ∀ y, InBk x f0 f1 f2 f3 A1 A2 y → w.heap.size ≤ y) ∧ Below w.heap.size w w' := by
 obtain ⟨m, c, hsr, hsm, hsc⟩ := hin.spots
 obtain ⟨M, D, hpr, hpm⟩ := hin.parts
 have hr0 := hr.foes
 have hr1 := hr.spots
 have hr2 := hr.valves
 have hr3 := hr.parts
 unfold bookV
 obtain ⟨W0, hW0⟩ : ∃ W, W = (w.alloc (.cells #[.slice af x.foes.length cf, .slice ap x.spots.length cp, .slice av x.valves.length cv, .slice aq x.parts.length cq, .int .i64 x.seen] 28)).alloc (.cells #[.slice none 0 0, .slice none 0 0, .slice none 0 0, .slice none 0 0, .int .i64 0] 28) := ⟨_, rfl⟩
 have b0 : Below w.heap.size w W0 := by rw [hW0]; exact ((Below.refl _ _).alloc (Nat.le_refl _) _).alloc (by simp) _
 have i0 : Row W0 w.heap.size 28 [.slice af x.foes.length cf, .slice ap x.spots.length cp, .slice av x.valves.length cv, .slice aq x.parts.length cq, .int .i64 x.seen] := by rw [hW0]; exact (Row.new _ _ _).alloc _
 have z0 : Row W0 (w.heap.size + 1) 28 [.slice none 0 0, .slice none 0 0, .slice none 0 0, .slice none 0 0, .int .i64 0] := by
  rw [hW0]
  have := Row.new (w.alloc (.cells #[.slice af x.foes.length cf, .slice ap x.spots.length cp, .slice av x.valves.length cv, .slice aq x.parts.length cq, .int .i64 x.seen] 28)) 28 [.slice none 0 0, .slice none 0 0, .slice none 0 0, .slice none 0 0, .int .i64 0]
  simpa using this
 have sz0 : W0.heap.size = w.heap.size + 2 := by rw [hW0]; simp
 have hne : w.heap.size + 1 ≠ w.heap.size := by omega
 have hS : ∀ w', Below W0.heap.size W0 w' → (w'.cell? ⟨w.heap.size, 0, none⟩ = some (.slice af x.foes.length cf) ∧ w'.cell? ⟨w.heap.size, 2, none⟩ = some (.slice av x.valves.length cv) ∧ w'.cell? ⟨w.heap.size, 4, none⟩ = some (.int .i64 x.seen) ∧ Below W0.heap.size W0 w' ∧ W0.heap.size ≤ w'.heap.size) := fun w' h => ⟨(i0.later h).cell 0 rfl, (i0.later h).cell 2 rfl, (i0.later h).cell 4 rfl, h, h.size⟩
 have hApp : ∀ W, Below W0.heap.size W0 W → RowAt W af x.foes.length 2 (foeF x.foes) := fun W h => (hin.later (b0.trans (h.mono b0.size))).foes
 have hNam : ∀ W, Below W0.heap.size W0 W → Calls Tryz.prog 78 #[.slice av x.valves.length cv] W fun e w' => (∃ a' c', e = .returned (.slice a' x.valves.length c') ∧ OwnL w' 9 1 a' x.valves.length (strF x.valves) ∧ CapX w' 9 1 a' x.valves.length c' ∧ ∀ y, InSlot a' x.valves.length y → W.heap.size ≤ y) ∧ Below W.heap.size W w' := fun W h =>
  l1Names_x av x.valves.length cv (strF x.valves) W (hin.later (b0.trans (h.mono b0.size))).valves (oneStr _) hr2
 go_enter Tryz.func35, Tryz.ntmps35
 go_upto_region 1 with fail
 rw [← hW0]
 go_cut [3] (fun p wx => ∃ (B : Nat) (d0 d2 : Option Addr) (k0 k2 : Nat), p = .pointer (some ⟨B, 0, none⟩) ∧ CopyA W0 wx B x d0 d2 k0 k2)
 case first =>
  have HZ : Hid (W0.heap.size = w.heap.size + 2) := sz0
  clear hW0 hsr hsm hsc hpr hpm z0 i0 b0 hr hin sz0
  go_region_held3 (fun w' => (w'.cell? ⟨w.heap.size, 0, none⟩ = some (.slice af x.foes.length cf) ∧ w'.cell? ⟨w.heap.size, 2, none⟩ = some (.slice av x.valves.length cv) ∧ w'.cell? ⟨w.heap.size, 4, none⟩ = some (.int .i64 x.seen) ∧ Below W0.heap.size W0 w' ∧ W0.heap.size ≤ w'.heap.size))
   ((refine hS _ ?_; repeat (first | assumption | exact Below.refl _ _ | refine Below.drew ?_ | refine Below.alloc ?_ (by (try simp); (try omega)) _ | refine Below.setCell ?_ (by (try simp); (try omega)) _)))
   (first
    | (go_at_call 78; refine (hNam _ (by (repeat (first | assumption | exact Below.refl _ _ | refine Below.drew ?_ | refine Below.alloc ?_ (by (try simp); (try omega)) _ | refine Below.setCell ?_ (by (try simp); (try omega)) _)))).mono ?_; rintro e w2 ⟨⟨d2, k2, rfl, oB, pB, loB⟩, hbB⟩; have hbB' : RowKit.Below W0.heap.size W0 w2 := (by refine below_next ?_ hbB; (repeat (first | assumption | exact Below.refl _ _ | refine Below.drew ?_ | refine Below.alloc ?_ (by (try simp); (try omega)) _ | refine Below.setCell ?_ (by (try simp); (try omega)) _))); obtain ⟨hcB, hfB⟩ := bcell hbB; have hsB := hbB'.size; have hzA := hbA.size; simp at hzA; have hq1 : W0.heap.size < w1.heap.size := (by omega); (try (have hq2 : W0.heap.size + 1 < w1.heap.size := by omega)))
    | (refine step_append_zeroX (by rfl) _ _ (by rfl) sliceFoe _ (by rfl) af x.foes.length cf (foeF x.foes) (by rfl) (hApp _ (by (repeat (first | assumption | exact Below.refl _ _ | refine Below.drew ?_ | refine Below.alloc ?_ (by (try simp); (try omega)) _ | refine Below.setCell ?_ (by (try simp); (try omega)) _)))) (oneFoe _) (by omega) ?_; intro d0 k0 w1 oA loA pA hbA; have hbA' : RowKit.Below W0.heap.size W0 w1 := (by refine below_next ?_ hbA; (repeat (first | assumption | exact Below.refl _ _ | refine Below.drew ?_ | refine Below.alloc ?_ (by (try simp); (try omega)) _ | refine Below.setCell ?_ (by (try simp); (try omega)) _))); obtain ⟨hcA, hfA⟩ := bcell hbA; have hsA := hbA'.size))
  all_goals
   have hb12 : RowKit.Below w1.heap.size w1 w2 := (by first | exact hbB | exact Below.trans (Below.drew (Below.refl _ _)) hbB | exact Below.trans ((Below.refl _ _).alloc (Nat.le_refl _) _) (hbB.mono (by simp)) | exact Below.trans (Below.drew ((Below.refl _ _).alloc (Nat.le_refl _) _)) (hbB.mono (by simp)))
   have lo12 : ∀ y, InSlot d2 x.valves.length y → w1.heap.size ≤ y := fun y hy => Nat.le_trans (by first | exact Nat.le_refl _ | simp) (loB y hy)
   rename_i hHeld
   clear hHeld hS hApp hNam hcA hfA hcB hfB
   have HJ : Hid _ := And.intro hbA hbB
   go_wp2_with fail
   go_meet
   with_reducible refine ⟨_, d0, d2, k0, k2, rfl, ?_⟩
   first
    | (with_reducible refine CopyA.last oA loA pA ?_ hb12 oB pB lo12 hsA hbB'; (try simp); (try omega))
    | (with_reducible refine CopyA.early oA loA pA ?h1 hb12 oB pB ?h2 hsA hbB' ?h3 ?h4 (v0 := .slice none 0 0) (v1 := .slice none 0 0) (v2 := .slice none 0 0) (v3 := .slice none 0 0) (v4 := .int .i64 0) ?h5
       case h1 => ((try simp); (try omega))
       case h2 => exact fun y hy => by have h1 := loB y hy; (try simp at h1); omega
       case h3 => omega
       case h4 => ((try simp); (try omega))
       case h5 => repeat (first | exact Row.new _ _ _ | with_reducible refine Row.new' (by simp) | with_reducible refine Row.drew ?_ | with_reducible refine Row.later ?_ hbB | with_reducible refine Row.later ?_ hbA | with_reducible refine Row.alloc ?_ _))
 case rest =>
  clear hS hApp hNam
  obtain ⟨B, d0, d2, k0, k2, rfl, ca⟩ := hcut
  have iA := i0.later ca.below
  have zA := z0.later ca.below
  have bA := b0.trans (ca.below.mono b0.size)
  have szA : w.heap.size + 2 ≤ wc.heap.size := by have := ca.below.size; omega
  have rB := ca.row
  have hBl := rB.lt
  have hB0 : w.heap.size + 2 ≤ B := by have := ca.b0; omega
  have HF : Hid (OwnL wc 70 2 d0 x.foes.length (foeF x.foes) ∧ OwnL wc 9 1 d2 x.valves.length (strF x.valves) ∧ (∀ y, InSlot d0 x.foes.length y → w.heap.size + 2 ≤ y ∧ y ≠ B ∧ y < wc.heap.size) ∧ (∀ y, InSlot d2 x.valves.length y → w.heap.size + 2 ≤ y ∧ y ≠ B ∧ y < wc.heap.size) ∧ (∀ y, InSlot d0 x.foes.length y → ¬ InSlot d2 x.valves.length y) ∧ CapX wc 70 2 d0 x.foes.length k0 ∧ CapX wc 9 1 d2 x.valves.length k2) :=
   ⟨ca.foes, ca.valves, fun y hy => ⟨by have := (ca.f0 y hy).1; omega, (ca.f0 y hy).2, ca.foes.lt hy⟩, fun y hy => ⟨by have := (ca.v0 y hy).1; omega, (ca.v0 y hy).2, ca.valves.lt hy⟩, ca.fv, ca.fc, ca.vc⟩
  have HB0 : Hid (Below w.heap.size w W0 ∧ Row W0 w.heap.size 28 [.slice af x.foes.length cf, .slice ap x.spots.length cp, .slice av x.valves.length cv, .slice aq x.parts.length cq, .int .i64 x.seen] ∧ W0.heap.size = w.heap.size + 2 ∧ Below W0.heap.size W0 wc) := ⟨b0, i0, sz0, ca.below⟩
  clear ca b0 i0 z0 hW0 sz0
  have ms0 : OwnSpots wc none (x.spots.take 0) (fun _ => none) (fun _ => 0) := ⟨Or.inl (by simp), fun k hk => absurd hk (by simp), fun k hk => absurd hk (by simp), fun k hk => absurd hk (by simp), fun i j hi => absurd hi (by simp)⟩
  go_wp2_with fail
  go_loopw [4, 5] (fun i _ wr => ∃ (k : Nat) (A : Nat → Option Addr) (C : Nat → Nat) (d1 : Option Addr) (k1 : Nat) (X : World), X = wr ∧ k ≤ x.spots.length ∧ i = .int .i64 k ∧ Only (fun y => y = B) wc X ∧ Row X B 28 [.slice d0 x.foes.length k0, .slice d1 k k1, .slice d2 x.valves.length k2, .slice none 0 0, .int .i64 x.seen] ∧
   OwnSpots X d1 (x.spots.take k) A C ∧ CapOf X 72 5 d1 k k1 ∧ (∀ y, InAddr d1 y → wc.heap.size ≤ y) ∧ (∀ y, InSp d1 (x.spots.take k) A y → wc.heap.size ≤ y) ∧ CapM X (x.spots.take k) A C) (fun i _ _ => x.spots.length - (intOf i).toNat)
  case atStart =>
   refine ⟨0, _, _, none, 0, _, rfl, Nat.zero_le _, rfl, Only.refl _ _, rB, ms0, capOf_nil _ _ _, (fun y ⟨o, h⟩ => by cases h), (fun y hy => ?_), fun k hk => absurd hk (by simp)⟩
   rcases hy with hy | ⟨k, hk, _⟩
   · exact absurd hy.1 (by simp)
   · exact absurd hk (by simp)
  case round =>
   obtain ⟨k, A, C, d1, k1, X, rfl, hk, rfl, hon, rX, own, cap, lo, loA, cm⟩ := hrel
   clear ms0 rB
   have iX := iA.only hon (by omega)
   have zX := zA.only hon (by omega)
   have bX : Below w.heap.size w X := bA.trans (hon.below (fun y hy => by omega) bA.size)
   have szX := hon.size
   have hlen : (x.spots.take k).length = k := by simp; omega
   have y1 := iX.cell 1 rfl
   by_cases hlt : k < x.spots.length
   · obtain ⟨bs, os, has, hbs, hcs⟩ := (hsr.later bX) k hlt
     have c0 := hcs 0 (by omega)
     have c1 := hcs 1 (by omega)
     have c2 := hcs 2 (by omega)
     have c3 := hcs 3 (by omega)
     have c4 := hcs 4 (by omega)
     simp only [spotCell, Nat.add_zero] at c0 c1 c2 c3 c4
     clear hcs
     subst has
     have hlt2 : (k : Int) < x.spots.length := by omega
     have hk0 : (0 : Int) ≤ k := by omega
     obtain ⟨X1, hX1⟩ : ∃ W, W = X.alloc (.cells #[.string (gp x.spots k).name, .int .i64 (gp x.spots k).cap, .int .i64 (gp x.spots k).least, .int .i64 (gp x.spots k).most, .slice (m k) (gp x.spots k).may.length (c k)] 72) := ⟨_, rfl⟩
     have bX1 : Below X.heap.size X X1 := by rw [hX1]; exact (Below.refl _ _).alloc (Nat.le_refl _) _
     have sX1 : X1.heap.size = X.heap.size + 1 := by rw [hX1]; simp
     have rX1 : Row X1 X.heap.size 72 [.string (gp x.spots k).name, .int .i64 (gp x.spots k).cap, .int .i64 (gp x.spots k).least, .int .i64 (gp x.spots k).most, .slice (m k) (gp x.spots k).may.length (c k)] := by rw [hX1]; exact Row.new _ _ _
     have hbw1 := bX.trans (bX1.mono bX.size)
     go_wp2_with fail
     rw [← hX1]
     clear hX1 c0 c1 c2 c3 c4
     refine (l1Names_x (m k) (gp x.spots k).may.length (c k) (strF (gp x.spots k).may) X1 ((hsm k hlt).later hbw1) (oneStr _) (hr.mays _ (gp_mem hlt))).mono ?_
     rintro e w4 ⟨⟨a', c', rfl, o4, p4, lo4⟩, hb4⟩
     have b4 := bX1.trans (hb4.mono bX1.size)
     have r4 := rX1.later hb4
     have rB4 := rX.later b4
     have own4 := own.later b4
     have cap4 := cap.later b4
     have cm4 := cm.later b4
     have s4 : X.heap.size < w4.heap.size := by have := hb4.size; omega
     have LT : Hid ((∀ y, InSp d1 (x.spots.take k) A y → y < X.heap.size) ∧ (∀ y, InAddr d1 y → y < X.heap.size)) := ⟨fun y hy => own.lt hy, fun y hy => cap.lt hy⟩
     have L4 : Hid (∀ y, InSlot a' (gp x.spots k).may.length y → X.heap.size + 1 ≤ y ∧ y < w4.heap.size) := fun y hy => ⟨by have := lo4 y hy; omega, o4.lt hy⟩
     clear bX1 rX1 hbw1 hb4 rX own cap lo4
     have g4 := r4.cell 4 rfl
     have f4 := r4.frozen 4
     have on4 := Only.cell w4 ⟨X.heap.size, 4, none⟩ (.slice a' (gp x.spots k).may.length c')
     have r5 := r4.set 4 (.slice a' (gp x.spots k).may.length c')
     have rB5 := rB4.only on4 (by simp; omega)
     have own5 := own4.only on4 (fun y hy e => by have := LT.out.1 y hy; simp only at e; omega)
     have cap5 := cap4.only on4 (fun y hy e => by have := LT.out.2 y hy; simp only at e; omega)
     have cm5 := cm4.only on4 (fun j hj y hy e => by have := LT.out.1 y (Or.inr ⟨j, hj, hy⟩); simp only at e; omega)
     have p5 := p4.only on4 (fun y hy e => by have := L4.out y hy; simp only at e; omega)
     have o5 := o4.only on4 (fun y hy e => by have := L4.out y hy; simp only at e; omega)
     have hon5 : Only (fun y => y = B) wc (w4.setCell ⟨X.heap.size, 4, none⟩ (.slice a' (gp x.spots k).may.length c')) := by
      refine ⟨?_, ?_, ?_, ?_, fun q hq hn => ?_⟩
      · exact b4.os.trans hon.os
      · exact b4.tape.trans hon.tape
      · exact b4.output.trans hon.output
      · rw [Go.Deep.nblk_setCell]; omega
      · exact (on4.block q (by omega) (by simp; omega)).trans ((b4.block q (by omega)).trans (hon.block q hq hn))
     have sW : (w4.setCell ⟨X.heap.size, 4, none⟩ (.slice a' (gp x.spots k).may.length c')).heap.size = w4.heap.size := Go.Deep.nblk_setCell _ _ _
     obtain ⟨W5, hW5⟩ : ∃ W, W = (w4.setCell ⟨X.heap.size, 4, none⟩ (.slice a' (gp x.spots k).may.length c')).alloc (.cells #[.string (gp x.spots k).name, .int .i64 (gp x.spots k).cap, .int .i64 (gp x.spots k).least, .int .i64 (gp x.spots k).most, .slice a' (gp x.spots k).may.length c'] 72) := ⟨_, rfl⟩
     have bW5 : Below (w4.setCell ⟨X.heap.size, 4, none⟩ (.slice a' (gp x.spots k).may.length c')).heap.size (w4.setCell ⟨X.heap.size, 4, none⟩ (.slice a' (gp x.spots k).may.length c')) W5 := by rw [hW5]; exact (Below.refl _ _).alloc (Nat.le_refl _) _
     have rE : Row W5 w4.heap.size 72 [.string (gp x.spots k).name, .int .i64 (gp x.spots k).cap, .int .i64 (gp x.spots k).least, .int .i64 (gp x.spots k).most, .slice a' (gp x.spots k).may.length c'] := by rw [hW5, ← sW]; exact Row.new _ _ _
     have rB6 := rB5.later bW5
     have own6 := own5.later bW5
     have cap6 := cap5.later bW5
     have o6 := o5.later bW5
     have CM6 : Hid (CapM W5 (x.spots.take k) A C ∧ CapX W5 9 1 a' (gp x.spots k).may.length c') := ⟨cm5.later bW5, p5.later bW5⟩
     have s6 : W5.heap.size = w4.heap.size + 1 := by rw [hW5]; simp
     have hon6 : Only (fun y => y = B) wc W5 := hon5.trans (Only.of bW5)
     have hrow6 := own6.row
     rw [hlen] at hrow6
     have hE : RowAt W5 (some ⟨w4.heap.size, 0, none⟩) 1 5 (fun _ => spotCell (gp x.spots k) a' c') := by
      intro q hq
      have : q = 0 := by omega
      subst this
      refine ⟨_, _, rfl, rE.lt, fun j hj => ?_⟩
      match j, hj with
      | 0, _ => exact rE.cell 0 rfl
      | 1, _ => exact rE.cell 1 rfl
      | 2, _ => exact rE.cell 2 rfl
      | 3, _ => exact rE.cell 3 rfl
      | 4, _ => exact rE.cell 4 rfl
     have h0 := r4.cell 0 rfl
     have h1 := r4.cell 1 rfl
     have h2 := r4.cell 2 rfl
     have h3 := r4.cell 3 rfl
     have j1 := rB4.cell 1 rfl
     have hBX : B ≠ X.heap.size := by omega
     have rw5 : ∀ {p : Prop}, (W5 = W5 → p) → p := fun h => h rfl
     clear rw5 cm cm4 cm5 p5 own4 cap4 o4 own5 cap5 o5 rB5 r5 on4 hon5 bW5 rE b4 hon iX zX bX r4
     rw [hW5] at hrow6 cap6 hE
     go_wp2_with (at_builtin; refine wpList_append_row (by rfl) _ _ (by rfl) sliceSpot d1 k k1 _ (by rfl) hrow6 cap6 (some ⟨w4.heap.size, 0, none⟩) 1 1 (fun _ => spotCell (gp x.spots k) a' c') (by rfl) hE (fun _ j => oneSpot _ _ _ j) (by omega) ?_)
     rw [← hW5] at cap6 ⊢
     intro a'' c'' w6 apd
     have apd' : Appended 72 5 W5 w6 d1 (x.spots.take k).length 1 (fun j => spotCell (gp (x.spots.take k) j) (A j) (C j)) (fun _ => spotCell (gp x.spots k) a' c') a'' c'' := by rw [hlen]; exact apd
     have sn := own6.snoc apd' o6 p4.le (fun y hy hy' => by have := L4.out y hy; have := LT.out.2 y hy'; omega) (fun j hj y hy hy' => by have := L4.out y hy; have := LT.out.1 y (Or.inr ⟨j, hj, hy'⟩); omega)
     have cmn := CM6.out.1.snoc CM6.out.2 apd.only (fun j hj y hy hy' => own6.apart j hj y hy ⟨by omega, hy'⟩) (fun y hy hy' => by have := L4.out y hy; have := LT.out.2 y hy'; omega)
     rw [show x.spots.take k ++ [gp x.spots k] = x.spots.take (k + 1) by rw [List.take_succ_eq_append_getElem hlt, gp_lt hlt]] at sn cmn
     have capN := apd.cap
     have nB : ¬ InAddr d1 B := fun h => by have := lo B h; omega
     have rB7 := rB6.only apd.only nB
     have lo7 : Hid (∀ y, InAddr a'' y → wc.heap.size ≤ y ∧ y < w6.heap.size) := fun y hy => ⟨by
      rcases apd.at_ y hy with h | h
      · exact lo y h
      · omega, capN.lt hy⟩
     have hon7 : Only (fun y => y = B) wc w6 := by
      refine ⟨apd.only.os.trans hon6.os, apd.only.tape.trans hon6.tape, apd.only.output.trans hon6.output, Nat.le_trans hon6.size apd.only.size, fun q hq hn => ?_⟩
      exact (apd.only.block q (by have := hon6.size; omega) (fun h => by have := lo q h; omega)).trans (hon6.block q hq hn)
     rw [hlen] at sn cmn
     have loA7 : Hid (∀ y, InSp a'' (x.spots.take (k + 1)) (fun j => if j = k then a' else A j) y → wc.heap.size ≤ y) := fun y hy => by
      rcases hy with hy | ⟨j, hj, hy⟩
      · exact (lo7.out y hy.2).1
      · have hj' : j < k + 1 := by simp at hj; omega
        by_cases e : j = k
        · subst e
          simp only [if_true] at hy
          have e2 : gp (x.spots.take (j + 1)) j = gp x.spots j := by unfold gp; simp [List.getElem?_take]
          rw [e2] at hy
          have := L4.out y hy
          omega
        · simp only [if_neg e] at hy
          have e2 : gp (x.spots.take (k + 1)) j = gp (x.spots.take k) j := by unfold gp; simp [List.getElem?_take, show j < k by omega, show j < k + 1 by omega]
          rw [e2] at hy
          exact loA y (Or.inr ⟨j, by rw [hlen]; omega, hy⟩)
     have nB7 : ¬ InAddr a'' B := fun h => by have := lo7.out B h; omega
     have onB := Only.cell w6 ⟨B, 1, none⟩ (.slice a'' (k + 1) c'')
     have rB8 := rB7.set 1 (.slice a'' (k + 1) c'')
     have sn8 := sn.only onB (fun y hy e => by have := loA7.out y hy; simp only at e; omega)
     have cap8 := capN.only onB (fun y hy e => by have := lo7.out y hy; simp only at e; omega)
     have CM8 : Hid (CapM (w6.setCell ⟨B, 1, none⟩ (.slice a'' (k + 1) c'')) (x.spots.take (k + 1)) (fun j => if j = k then a' else A j) (fun j => if j = k then c' else C j)) := cmn.only onB (fun j hj y hy e => by have := loA7.out y (Or.inr ⟨j, hj, hy⟩); simp only at e; omega)
     have hon8 : Only (fun y => y = B) wc (w6.setCell ⟨B, 1, none⟩ (.slice a'' (k + 1) c'')) := hon7.set rfl 1 _
     have q1 := rB7.cell 1 rfl
     have q1f := rB7.frozen 1
     have HN : Hid (Only (fun y => y = B) wc (w6.setCell ⟨B, 1, none⟩ (.slice a'' (k + 1) c'')) ∧ Row (w6.setCell ⟨B, 1, none⟩ (.slice a'' (k + 1) c'')) B 28 [.slice d0 x.foes.length k0, .slice a'' (k + 1) c'', .slice d2 x.valves.length k2, .slice none 0 0, .int .i64 x.seen] ∧
      OwnSpots (w6.setCell ⟨B, 1, none⟩ (.slice a'' (k + 1) c'')) a'' (x.spots.take (k + 1)) (fun j => if j = k then a' else A j) (fun j => if j = k then c' else C j) ∧ CapOf (w6.setCell ⟨B, 1, none⟩ (.slice a'' (k + 1) c'')) 72 5 a'' (k + 1) c'' ∧ (∀ y, InAddr a'' y → wc.heap.size ≤ y)) := ⟨hon8, rB8, sn8, cap8, fun y hy => (lo7.out y hy).1⟩
     clear hW5 hrow6 cap6 hE apd apd' sn cmn CM6 capN rB7 hon7 onB rB8 sn8 cap8 hon8 rB6 own6 o6 hon6 g4 f4 h0 h1 h2 h3 j1 lo7 L4 LT p4 rB4
     go_wp2
     go_roundw
     case rel => exact ⟨k + 1, _, _, a'', c'', _, rfl, by omega, by go_num, HN.out.1, HN.out.2.1, HN.out.2.2.1, HN.out.2.2.2.1, HN.out.2.2.2.2, loA7.out, CM8.out⟩
     case measure => simp [intOf]; omega
   · have : k = x.spots.length := by omega
     subst this
     rw [List.take_of_length_le (Nat.le_refl _)] at own loA cm
     have fc := HF.out.2.2.2.2.2.1.only hon (fun y hy e => by have := HF.out.2.2.1 y hy; omega)
     have vc := HF.out.2.2.2.2.2.2.only hon (fun y hy e => by have := HF.out.2.2.2.1 y hy; omega)
     have HC : Hid (CapX X 70 2 d0 x.foes.length k0 ∧ CapX X 9 1 d2 x.valves.length k2 ∧ CapM X x.spots A C) := ⟨fc, vc, cm⟩
     have f0 := HF.out.1.only hon (fun y hy e => by have := HF.out.2.2.1 y hy; omega)
     have v0 := HF.out.2.1.only hon (fun y hy e => by have := HF.out.2.2.2.1 y hy; omega)
     have HG : Hid (OwnL X 70 2 d0 x.foes.length (foeF x.foes) ∧ OwnL X 9 1 d2 x.valves.length (strF x.valves) ∧ OwnSpots X d1 x.spots A C ∧ (∀ y, InSp d1 x.spots A y → wc.heap.size ≤ y ∧ y < X.heap.size)) := ⟨f0, v0, own, fun y hy => ⟨loA y hy, own.lt hy⟩⟩
     have HO : Hid (Only (fun y => y = B) wc X) := hon
     clear fc vc cm f0 v0 own loA cap lo hon iA zA bA
     have mp0 : OwnParts X none (x.parts.take 0) (fun _ _ => none) (fun _ _ => 0) := ⟨Or.inl (by simp), fun k hk => absurd hk (by simp), fun k hk => absurd hk (by simp), fun i c j d hi => absurd hi (by simp)⟩
     have bW0X : Below W0.heap.size W0 X := HB0.out.2.2.2.trans (HO.out.below (fun y hy => by have := HB0.out.2.2.1; omega) HB0.out.2.2.2.size)
     go_wp2_with fail
     go_loopw [6] (fun i wr => ∃ (k : Nat) (A2 : Nat → Nat → Option Addr) (C2 : Nat → Nat → Nat) (d3 : Option Addr) (k3 : Nat) (Y : World), Y = wr ∧ k ≤ x.parts.length ∧ i = .int .i64 k ∧ Only (fun y => y = B) X Y ∧ Row Y B 28 [.slice d0 x.foes.length k0, .slice d1 x.spots.length k1, .slice d2 x.valves.length k2, .slice d3 k k3, .int .i64 x.seen] ∧
      OwnParts Y d3 (x.parts.take k) A2 C2 ∧ CapOf Y 61 7 d3 k k3 ∧ (∀ y, InAddr d3 y → X.heap.size ≤ y) ∧ (∀ y, InPt d3 (x.parts.take k) A2 y → X.heap.size ≤ y) ∧ (k = 0 → d3 = none)) (fun i _ => x.parts.length - (intOf i).toNat)
     case atStart =>
      refine ⟨0, _, _, none, 0, _, rfl, Nat.zero_le _, rfl, Only.refl _ _, rX, mp0, capOf_nil _ _ _, (fun y ⟨o, h⟩ => by cases h), (fun y hy => ?_), fun _ => rfl⟩
      rcases hy with hy | ⟨k, hk, _⟩
      · exact absurd hy.1 (by simp)
      · exact absurd hk (by simp)
     case round =>
      obtain ⟨k, A2, C2, d3, k3, Y, rfl, hk, rfl, hon, rY, own, cap, lo, loA, hnil⟩ := hrel
      clear mp0 rX
      have iY := iX.only hon (by omega)
      have zY := zX.only hon (by omega)
      have bY : Below w.heap.size w Y := bX.trans (hon.below (fun y hy => by omega) bX.size)
      have bW0Y : Below W0.heap.size W0 Y := bW0X.trans (hon.below (fun y hy => by have := HB0.out.2.2.1; omega) bW0X.size)
      have szY := hon.size
      have hlen : (x.parts.take k).length = k := by simp; omega
      have y3 := iY.cell 3 rfl
      by_cases hlt : k < x.parts.length
      · obtain ⟨bs, os, has, hbs, hcs⟩ := hpr k hlt
        subst has
        have hlt2 : (k : Int) < x.parts.length := by omega
        have hk0 : (0 : Int) ≤ k := by omega
        have q3 := rY.cell 3 rfl
        have q3f := rY.frozen 3
        have hBY := rY.lt
        have hT : ∀ w', Below W0.heap.size W0 w' → (w'.cell? ⟨w.heap.size, 3, none⟩ = some (.slice (some ⟨bs, os, none⟩) x.parts.length cq) ∧ w'.cell? ⟨bs, os + k * 7, none⟩ = some (.int .i64 (gq x.parts k).want.number) ∧ w'.cell? ⟨bs, os + k * 7 + 1, none⟩ = some (.int .i64 (gq x.parts k).want.kind) ∧ w'.cell? ⟨bs, os + k * 7 + 2, none⟩ = some (.slice (M k 2) (gq x.parts k).want.stuffs.length (D k 2)) ∧ w'.cell? ⟨bs, os + k * 7 + 3, none⟩ = some (.slice (M k 3) (gq x.parts k).want.uses.length (D k 3)) ∧
         w'.cell? ⟨bs, os + k * 7 + 4, none⟩ = some (.slice (M k 4) (gq x.parts k).want.opens.length (D k 4)) ∧ w'.cell? ⟨bs, os + k * 7 + 5, none⟩ = some (.slice (M k 5) (gq x.parts k).want.shuts.length (D k 5)) ∧ w'.cell? ⟨bs, os + k * 7 + 6, none⟩ = some (.bool (gq x.parts k).stopped)) := fun w' h => by
         have h' := HB0.out.1.trans (h.mono HB0.out.1.size)
         exact ⟨(HB0.out.2.1.later h).cell 3 rfl, cell_later h' (hcs 0 (by omega)), cell_later h' (hcs 1 (by omega)), cell_later h' (hcs 2 (by omega)), cell_later h' (hcs 3 (by omega)), cell_later h' (hcs 4 (by omega)), cell_later h' (hcs 5 (by omega)), cell_later h' (hcs 6 (by omega))⟩
        have hS : ∀ w', Below Y.heap.size Y w' → (w'.cell? ⟨B, 3, none⟩ = some (.slice d3 k k3) ∧ w'.cell? ⟨w.heap.size, 3, none⟩ = some (.slice (some ⟨bs, os, none⟩) x.parts.length cq) ∧ w'.cell? ⟨bs, os + k * 7, none⟩ = some (.int .i64 (gq x.parts k).want.number) ∧ w'.cell? ⟨bs, os + k * 7 + 1, none⟩ = some (.int .i64 (gq x.parts k).want.kind) ∧ w'.cell? ⟨bs, os + k * 7 + 2, none⟩ = some (.slice (M k 2) (gq x.parts k).want.stuffs.length (D k 2)) ∧ w'.cell? ⟨bs, os + k * 7 + 3, none⟩ = some (.slice (M k 3) (gq x.parts k).want.uses.length (D k 3)) ∧
         w'.cell? ⟨bs, os + k * 7 + 4, none⟩ = some (.slice (M k 4) (gq x.parts k).want.opens.length (D k 4)) ∧ w'.cell? ⟨bs, os + k * 7 + 5, none⟩ = some (.slice (M k 5) (gq x.parts k).want.shuts.length (D k 5)) ∧ w'.cell? ⟨bs, os + k * 7 + 6, none⟩ = some (.bool (gq x.parts k).stopped)) := fun w' hY => ⟨cell_later hY q3, hT w' (bW0Y.trans (hY.mono bW0Y.size))⟩
        have hWant : ∀ W, Below W0.heap.size W0 W → Calls Tryz.prog 79 #[wantW (gq x.parts k).want (M k 2) (M k 3) (M k 4) (M k 5) (D k 2) (D k 3) (D k 4) (D k 5)] W fun e w' => (∃ (A : Nat → Option Addr) (C : Nat → Nat), e = .returned (wantW (gq x.parts k).want (A 0) (A 1) (A 2) (A 3) (C 0) (C 1) (C 2) (C 3)) ∧ OwnLists w' (gq x.parts k) A ∧ ∀ y, InLists (gq x.parts k) A y → W.heap.size ≤ y) ∧ Below W.heap.size W w' := fun W h =>
         l1Want_own (gq x.parts k) (M k 2) (M k 3) (M k 4) (M k 5) (D k 2) (D k 3) (D k 4) (D k 5) W ((hpm k hlt).later (HB0.out.1.trans (h.mono HB0.out.1.size))) (hr.wants _ (gq_mem hlt))
        have hOwn : ∀ W, Below Y.heap.size Y W → OwnL W 61 7 d3 k (fun j => partCell (gq (x.parts.take k) j) (fun f => A2 j (f - 2)) (fun f => C2 j (f - 2))) ∧ CapOf W 61 7 d3 k k3 := fun W h => ⟨by have := (own.later h).row; rw [hlen] at this; exact this, cap.later h⟩
        have HB0s : W0.heap.size ≤ B := by have := HB0.out.2.2.1; omega
        have HK : Hid (Only (fun y => y = B) X Y ∧ OwnParts Y d3 (x.parts.take k) A2 C2 ∧ CapOf Y 61 7 d3 k k3 ∧ Row Y B 28 [.slice d0 x.foes.length k0, .slice d1 x.spots.length k1, .slice d2 x.valves.length k2, .slice d3 k k3, .int .i64 x.seen]) := ⟨hon, own, cap, rY⟩
        have HKn : Hid ((x.parts.take k).length = k) := hlen
        have bYY := Below.refl Y.heap.size Y
        have hLo : ∀ y, InAddr d3 y → W0.heap.size ≤ y := fun y hy => by have := lo y hy; have := bW0X.size; omega
        have hnB : ¬ InAddr d3 B := fun h => by have := lo B h; omega
        unfold wantW at hWant
        clear hcs hbs iY zY y3 own cap rY hon hlen bY hpr hpm hsr hsm hsc hin hr hnil
        go_wp2_with fail
        have hS0 := hS Y.drew (Below.drew bYY)
        refine wp_region_E (fun w' => (w'.cell? ⟨B, 3, none⟩ = some (.slice d3 k k3) ∧ w'.cell? ⟨w.heap.size, 3, none⟩ = some (.slice (some ⟨bs, os, none⟩) x.parts.length cq) ∧ w'.cell? ⟨bs, os + k * 7, none⟩ = some (.int .i64 (gq x.parts k).want.number) ∧ w'.cell? ⟨bs, os + k * 7 + 1, none⟩ = some (.int .i64 (gq x.parts k).want.kind) ∧ w'.cell? ⟨bs, os + k * 7 + 2, none⟩ = some (.slice (M k 2) (gq x.parts k).want.stuffs.length (D k 2)) ∧ w'.cell? ⟨bs, os + k * 7 + 3, none⟩ = some (.slice (M k 3) (gq x.parts k).want.uses.length (D k 3)) ∧ w'.cell? ⟨bs, os + k * 7 + 4, none⟩ = some (.slice (M k 4) (gq x.parts k).want.opens.length (D k 4)) ∧ w'.cell? ⟨bs, os + k * 7 + 5, none⟩ = some (.slice (M k 5) (gq x.parts k).want.shuts.length (D k 5)) ∧ w'.cell? ⟨bs, os + k * 7 + 6, none⟩ = some (.bool (gq x.parts k).stopped))) 19 (by kernel_rfl) ?_
        refine tk 0 ?va0 rfl (by kernel_rfl) (fun _ _ _ h => h) (by rfl) hS0 ?ya0 ?ra0
        case ya0 => intro w' h; (try dsimp only at h); go_simp; (try with_reducible rfl)
        try simp only [Act.put, sA, sB, sC]
        refine tk 1 ?va1 rfl (by kernel_rfl) (fun _ _ _ h => h) (by rfl) hS0 ?ya1 ?ra1
        case ya1 => intro w' h; (try dsimp only at h); go_simp; (try with_reducible rfl)
        try simp only [Act.put, sA, sB, sC]
        refine tk 2 ?va2 rfl (by kernel_rfl) (fun _ _ _ h => h) (by rfl) hS0 ?ya2 ?ra2
        case ya2 => intro w' h; (try dsimp only at h); go_simp; (try with_reducible rfl)
        try simp only [Act.put, sA, sB, sC]
        refine tk 3 ?va3 rfl (by kernel_rfl) (fun _ _ _ h => h) (by rfl) hS0 ?ya3 ?ra3
        case ya3 => intro w' h; (try dsimp only at h); go_simp; (try with_reducible rfl)
        try simp only [Act.put, sA, sB, sC]
        refine tk 4 ?va4 rfl (by kernel_rfl) (fun _ _ _ h => h) (by rfl) hS0 ?ya4 ?ra4
        case ya4 => intro w' h; (try dsimp only at h); go_simp; (try with_reducible rfl)
        try simp only [Act.put, sA, sB, sC]
        refine tk 5 ?va5 rfl (by kernel_rfl) (fun _ _ _ h => h) (by rfl) hS0 ?ya5 ?ra5
        case ya5 => intro w' h; (try dsimp only at h); go_simp; (try with_reducible rfl)
        try simp only [Act.put, sA, sB, sC]
        refine tk 6 ?va6 rfl (by kernel_rfl) (fun _ _ _ h => h) (by rfl) hS0 ?ya6 ?ra6
        case ya6 => intro w' h; (try dsimp only at h); go_simp; (try with_reducible rfl)
        try simp only [Act.put, sA, sB, sC]
        refine tk 7 ?va7 rfl (by kernel_rfl) (fun _ _ _ h => h) (by rfl) hS0 ?ya7 ?ra7
        case ya7 => intro w' h; (try dsimp only at h); go_simp; (try with_reducible rfl)
        try simp only [Act.put, sA, sB, sC]
        refine tk 9 ?va9 rfl (by kernel_rfl) (fun _ _ _ h => h) (by rfl) hS0 ?ya9 ?ra9
        case ya9 => intro w' h; (try dsimp only at h); go_simp; (try with_reducible rfl)
        try simp only [Act.put, sA, sB, sC]
        refine tk 10 ?va10 rfl (by kernel_rfl) (fun _ _ _ h => h) (by rfl) hS0 ?ya10 ?ra10
        case ya10 => intro w' h; (try dsimp only at h); go_simp; (try with_reducible rfl)
        try simp only [Act.put, sA, sB, sC]
        refine tk 11 ?va11 rfl (by kernel_rfl) (fun _ _ _ h => h) (by rfl) hS0 ?ya11 ?ra11
        case ya11 => intro w' h; (try dsimp only at h); go_simp; (try with_reducible rfl)
        try simp only [Act.put, sA, sB, sC]
        refine tk 12 ?va12 rfl (by kernel_rfl) (fun _ _ _ h => h) (by rfl) hS0 ?ya12 ?ra12
        case ya12 => intro w' h; (try dsimp only at h); go_simp; (try with_reducible rfl)
        try simp only [Act.put, sA, sB, sC]
        refine tk 13 ?va13 rfl (by kernel_rfl) (fun _ _ _ h => h) (by rfl) hS0 ?ya13 ?ra13
        case ya13 => intro w' h; (try dsimp only at h); go_simp; (try with_reducible rfl)
        try simp only [Act.put, sA, sB, sC]
        refine tk 14 ?va14 rfl (by kernel_rfl) (fun _ _ _ h => h) (by rfl) hS0 ?ya14 ?ra14
        case ya14 => intro w' h; (try dsimp only at h); go_simp; (try with_reducible rfl)
        try simp only [Act.put, sA, sB, sC]
        refine wpAnyE_oneC (i := 8) rfl (by kernel_rfl) ?_
        intro K hK
        rw [if_pos (by rfl)]
        go_wp2_with (go_at_call 79; refine (hWant _ (by (repeat (first | assumption | exact Below.refl _ _ | refine Below.drew ?_ | refine Below.alloc ?_ (by (try simp); (try omega)) _ | refine Below.setCell ?_ (by (try simp); (try omega)) _)))).mono ?_; rintro e w4 ⟨⟨A', C', rfl, o4, lo4⟩, hb4⟩; have hbW : RowKit.Below W0.heap.size W0 w4 := (by refine below_next ?_ hb4; (repeat (first | assumption | exact Below.refl _ _ | refine Below.drew ?_ | refine Below.alloc ?_ (by (try simp); (try omega)) _ | refine Below.setCell ?_ (by (try simp); (try omega)) _))); have hbY : RowKit.Below Y.heap.size Y w4 := (by refine below_next ?_ hb4; (repeat (first | assumption | exact Below.refl _ _ | refine Below.drew ?_ | refine Below.alloc ?_ (by (try simp); (try omega)) _ | refine Below.setCell ?_ (by (try simp); (try omega)) _))); have hsW := hbW.size; have hsY := hbY.size; have hB4 : B < w4.heap.size := Nat.lt_of_lt_of_le hBY hsY; have hB4n : B ≠ w4.heap.size := Nat.ne_of_lt hB4; have q34 := cell_later hbY q3; have q34f : w4.frozen? ⟨B, 3, none⟩ = false := (by rw [hbY.frozen (p := ⟨B, 3, none⟩) hBY]; exact q3f))
        refine hK.out _ _ (fun _ => hS w4 hbY) ?_
        clear hK K
        have hS4 := hS w4 hbY
        try simp only [Act.put, sA, sB, sC]
        refine tk 15 ?va15 rfl (by kernel_rfl) (fun _ _ _ h => h) (by rfl) hS4 ?ya15 ?ra15
        case ya15 => intro w' h; (try dsimp only at h); go_simp; (try with_reducible rfl)
        try simp only [Act.put, sA, sB, sC]
        refine wpAnyE_oneC (i := 16) rfl (by kernel_rfl) ?_
        intro K hK
        rw [if_pos (by rfl)]
        go_wp2_with fail
        refine hK.out _ _ (fun _ => hS _ (by (repeat (first | assumption | exact Below.refl _ _ | refine Below.drew ?_ | refine Below.alloc ?_ (by (try simp); (try omega)) _ | refine Below.setCell ?_ (by (try simp); (try omega)) _)))) ?_
        clear hK K hS4 hS0
        try simp only [Act.put, sA, sB, sC]
        refine wpAnyE_oneC (i := 17) rfl (by kernel_rfl) ?_
        intro K hK
        refine step_append_row (by rfl) _ _ (by rfl) slicePart d3 k k3 _ (by rfl) (hOwn _ (by (repeat (first | assumption | exact Below.refl _ _ | refine Below.drew ?_ | refine Below.alloc ?_ (by (try simp); (try omega)) _ | refine Below.setCell ?_ (by (try simp); (try omega)) _)))).1 (hOwn _ (by (repeat (first | assumption | exact Below.refl _ _ | refine Below.drew ?_ | refine Below.alloc ?_ (by (try simp); (try omega)) _ | refine Below.setCell ?_ (by (try simp); (try omega)) _)))).2 (some ⟨w4.heap.size, 0, none⟩) 1 1 (fun _ => partCell (gq x.parts k) (fun f => A' (f - 2)) (fun f => C' (f - 2))) (by rfl) (rowAt_part w4 (gq x.parts k) A' C') (fun _ j => onePart _ _ _ j) (by omega) ?_
        intro a'' c'' w6 apd
        have hb6 : RowKit.Below W0.heap.size W0 w6 := (by refine below_only ?_ apd.only hLo; (repeat (first | assumption | exact Below.refl _ _ | refine Below.drew ?_ | refine Below.alloc ?_ (by (try simp); (try omega)) _ | refine Below.setCell ?_ (by (try simp); (try omega)) _)))
        have hs6 := hb6.size
        have rB6 := (by refine Row.only (Row.later HK.out.2.2.2 ?_) apd.only hnB; (repeat (first | assumption | exact Below.refl _ _ | refine Below.drew ?_ | refine Below.alloc ?_ (by (try simp); (try omega)) _ | refine Below.setCell ?_ (by (try simp); (try omega)) _)) : Row w6 B 28 [.slice d0 x.foes.length k0, .slice d1 x.spots.length k1, .slice d2 x.valves.length k2, .slice d3 k k3, .int .i64 x.seen])
        have q36 := rB6.cell 3 rfl
        have q36f := rB6.frozen 3
        refine hK.out _ _ (fun _ => ⟨q36, hT w6 hb6⟩) ?_
        clear hK K
        try simp only [Act.put, sA, sB, sC]
        refine wpAnyE_oneC (i := 18) rfl (by kernel_rfl) ?_
        intro K hK
        rw [if_pos (by rfl)]
        go_wp2_with fail
        refine hK.out _ _ (fun _ => ⟨q36, hT w6 hb6⟩) ?_
        clear hK K
        try simp only [Act.put, sA, sB, sC]
        refine wpAnyE_oneC (i := 19) rfl (by kernel_rfl) ?_
        intro K hK
        rw [if_pos (by rfl)]
        go_wp2_with fail
        refine hK.out _ _ (fun h => absurd rfl h) ?_
        clear hK K
        try simp only [Act.put, sA, sB, sC]
        refine wpAnyE_done (by kernel_rfl) ?_ _
        have sn : OwnParts w6 a'' (x.parts.take k ++ [gq x.parts k]) (fun j => if j = (x.parts.take k).length then A' else A2 j) (fun j => if j = (x.parts.take k).length then C' else C2 j) := by
         have hlen := HKn.out
         refine OwnParts.snoc (c' := c'') (OwnParts.later HK.out.2.1 ?_) (by rw [hlen]; exact apd) (OwnLists.later o4 ?_) (fun y hy hy' => ?_) (fun j hj y hy hy' => ?_)
         · (repeat (first | assumption | exact Below.refl _ _ | refine Below.drew ?_ | refine Below.alloc ?_ (by (try simp); (try omega)) _ | refine Below.setCell ?_ (by (try simp); (try omega)) _))
         · (repeat (first | assumption | exact Below.refl _ _ | refine Below.drew ?_ | refine Below.alloc ?_ (by (try simp); (try omega)) _ | refine Below.setCell ?_ (by (try simp); (try omega)) _))
         · have h4 : Y.heap.size ≤ y := lo4 y hy
           have := HK.out.2.2.1.lt hy'
           omega
         · have h4 : Y.heap.size ≤ y := lo4 y hy
           obtain ⟨c, hc, hy'⟩ := hy'
           have := HK.out.2.1.lt (Or.inr ⟨j, hj, c, hc, hy'⟩)
           omega
        have capN := apd.cap
        have on1 : Only (fun y => X.heap.size ≤ y) w4 w6 := Only.trans (Only.of (by (repeat (first | assumption | exact Below.refl _ _ | refine Below.drew ?_ | refine Below.alloc ?_ (by (try simp); (try omega)) _ | refine Below.setCell ?_ (by (try simp); (try omega)) _)))) (apd.only.mono (fun y hy => lo y hy))
        have hon7 : Only (fun y => y = B) X w6 :=
         ⟨on1.os.trans (hbY.os.trans HK.out.1.os), on1.tape.trans (hbY.tape.trans HK.out.1.tape), on1.output.trans (hbY.output.trans HK.out.1.output), Nat.le_trans HK.out.1.size (Nat.le_trans hbY.size on1.size),
          fun q hq hn => (on1.block q (by omega) (by omega)).trans ((hbY.block q (by omega)).trans (HK.out.1.block q hq hn))⟩
        have lo7 : Hid (∀ y, InAddr a'' y → X.heap.size ≤ y) := fun y hy => by
         rcases apd.at_ y hy with h | h
         · exact lo y h
         · have h1 : w4.heap.size ≤ y := by rw [h]; simp
           omega
        have hlen := HKn.out
        rw [show x.parts.take k ++ [gq x.parts k] = x.parts.take (k + 1) by rw [List.take_succ_eq_append_getElem hlt, gq_lt hlt], hlen] at sn
        have loA7 : Hid (∀ y, InPt a'' (x.parts.take (k + 1)) (fun j => if j = k then A' else A2 j) y → X.heap.size ≤ y) := fun y hy => by
         rcases hy with hy | ⟨j, hj, c, hc, hy⟩
         · exact lo7.out y hy.2
         · have hj' : j < k + 1 := by simp at hj; omega
           by_cases e : j = k
           · subst e
             simp only [if_true] at hy
             have e2 : gq (x.parts.take (j + 1)) j = gq x.parts j := by unfold gq; simp [List.getElem?_take]
             rw [e2] at hy
             have h4 : Y.heap.size ≤ y := lo4 y ⟨c, hc, hy⟩
             omega
           · simp only [if_neg e] at hy
             have e2 : gq (x.parts.take (k + 1)) j = gq (x.parts.take k) j := by unfold gq; simp [List.getElem?_take, show j < k by omega, show j < k + 1 by omega]
             rw [e2] at hy
             exact loA y (Or.inr ⟨j, by rw [hlen]; omega, c, hc, hy⟩)
        have onB := Only.cell w6 ⟨B, 3, none⟩ (.slice a'' (k + 1) c'')
        have rB8 := rB6.set 3 (.slice a'' (k + 1) c'')
        have sn8 := sn.only onB (fun y hy e => by have := loA7.out y hy; simp only at e; omega)
        have cap8 := capN.only onB (fun y hy e => by have := lo7.out y hy; simp only at e; omega)
        have hon8 : Only (fun y => y = B) X (w6.setCell ⟨B, 3, none⟩ (.slice a'' (k + 1) c'')) := hon7.set rfl 3 _
        have HN : Hid (Only (fun y => y = B) X (w6.setCell ⟨B, 3, none⟩ (.slice a'' (k + 1) c'')) ∧ Row (w6.setCell ⟨B, 3, none⟩ (.slice a'' (k + 1) c'')) B 28 [.slice d0 x.foes.length k0, .slice d1 x.spots.length k1, .slice d2 x.valves.length k2, .slice a'' (k + 1) c'', .int .i64 x.seen] ∧
         OwnParts (w6.setCell ⟨B, 3, none⟩ (.slice a'' (k + 1) c'')) a'' (x.parts.take (k + 1)) (fun j => if j = k then A' else A2 j) (fun j => if j = k then C' else C2 j) ∧ CapOf (w6.setCell ⟨B, 3, none⟩ (.slice a'' (k + 1) c'')) 61 7 a'' (k + 1) c'' ∧ (∀ y, InAddr a'' y → X.heap.size ≤ y) ∧ (∀ y, InPt a'' (x.parts.take (k + 1)) (fun j => if j = k then A' else A2 j) y → X.heap.size ≤ y)) := ⟨hon8, rB8, sn8, cap8, lo7.out, loA7.out⟩
        clear hS hT hWant hOwn sn capN on1 hon7 lo7 loA7 onB rB8 sn8 cap8 hon8 rB6 q36 q36f q34 q34f q3 q3f apd o4 lo4 hb4 hbW hbY hb6 HK hlen
        go_wp2
        go_roundw
        case rel => exact ⟨k + 1, _, _, a'', c'', _, rfl, by omega, by go_num, HN.out.1, HN.out.2.1, HN.out.2.2.1, HN.out.2.2.2.1, HN.out.2.2.2.2.1, HN.out.2.2.2.2.2, by omega⟩
        case measure => simp [intOf]; omega
      · have : k = x.parts.length := by omega
        subst this
        rw [List.take_of_length_le (Nat.le_refl _)] at own loA
        obtain ⟨h0, h2, hs, hsl⟩ := HG.out
        obtain ⟨-, -, l0, l2, l02, -, -⟩ := HF.out
        obtain ⟨fc, vc, cm⟩ := HC.out
        have fc0 := fc.only hon (fun y hy e => by have := l0 y hy; omega)
        have vc0 := vc.only hon (fun y hy e => by have := l2 y hy; omega)
        have cm0 := cm.only hon (fun j hj y hy e => by have := hsl y (Or.inr ⟨j, hj, hy⟩); omega)
        have CC : Hid (CapX Y 70 2 d0 x.foes.length k0 ∧ CapX Y 9 1 d2 x.valves.length k2 ∧ CapM Y x.spots A C) := ⟨fc0, vc0, cm0⟩
        have f0 := h0.only hon (fun y hy e => by have := l0 y hy; omega)
        have v0 := h2.only hon (fun y hy e => by have := l2 y hy; omega)
        have s0 := hs.only hon (fun y hy e => by have := hsl y hy; omega)
        have full : OwnBook Y x d0 d1 d2 d3 A C A2 C2 := by
         refine ⟨f0, s0, v0, own, fun y hy hy' => ?_, l02, fun y hy hy' => ?_, fun y hy hy' => ?_, fun y hy hy' => ?_, fun y hy hy' => ?_⟩
         · have := l0 y hy; have := hsl y hy'; omega
         · have := l0 y hy; have := loA y hy'; omega
         · have := hsl y hy; have := l2 y hy'; omega
         · have := hsl y hy; have := loA y hy'; omega
         · have := l2 y hy; have := loA y hy'; omega
        have LO : Hid (∀ y, InBk x d0 d1 d2 d3 A A2 y → w.heap.size + 2 ≤ y) := fun y hy => by
         rcases hy with hy | hy | hy | hy
         · have := l0 y hy; omega
         · have := hsl y hy; omega
         · have := l2 y hy; omega
         · have := loA y hy; omega
        have OWN : Hid (OwnBook Y x d0 d1 d2 d3 A C A2 C2 ∧ CapOf Y 61 7 d3 x.parts.length k3 ∧ (∀ y, InAddr d3 y → w.heap.size + 2 ≤ y) ∧ (x.parts.length = 0 → d3 = none)) := ⟨full, cap, fun y hy => by have := lo y hy; omega, hnil⟩
        clear fc vc cm fc0 vc0 cm0 HC full own cap hnil f0 v0 s0 h0 h2 hs hsl l0 l2 l02 loA lo HG HF HO hon iX zX bX bW0X bW0Y HB0
        have g0 := rY.cell 0 rfl
        have g1 := rY.cell 1 rfl
        have g2 := rY.cell 2 rfl
        have g3 := rY.cell 3 rfl
        have g4 := rY.cell 4 rfl
        have r0 := zY.cell 0 rfl
        have r1 := zY.cell 1 rfl
        have r2 := zY.cell 2 rfl
        have r3 := zY.cell 3 rfl
        have r4 := zY.cell 4 rfl
        have l0 := zY.frozen 0
        have l1 := zY.frozen 1
        have l2 := zY.frozen 2
        have l3 := zY.frozen 3
        have l4 := zY.frozen 4
        go_wp2
        refine bodyPost_ret (v := .agg #[.slice d0 x.foes.length k0, .slice d1 x.spots.length k1, .slice d2 x.valves.length k2, .slice d3 x.parts.length k3, .int .i64 x.seen])
         (by simp [results, Tryz.results35, go_sem, r0, r1, r2, r3, r4]) rfl ⟨⟨d0, d1, d2, d3, k0, k1, k2, k3, A, C, A2, C2, rfl, ?_, ?_, ?_, OWN.out.2.2.2, fun y hy => by have := LO.out y hy; omega⟩, ?_⟩
        · have g : ∀ y, InBk x d0 d1 d2 d3 A A2 y → ¬ y = w.heap.size + 1 := fun y hy => by have := LO.out y hy; omega
          exact ((((OWN.out.1.only (Only.cell _ ⟨w.heap.size + 1, 0, none⟩ _) g).only (Only.cell _ ⟨w.heap.size + 1, 1, none⟩ _) g).only (Only.cell _ ⟨w.heap.size + 1, 2, none⟩ _) g).only (Only.cell _ ⟨w.heap.size + 1, 3, none⟩ _) g).only (Only.cell _ ⟨w.heap.size + 1, 4, none⟩ _) g
        · have g : ∀ y, InAddr d3 y → ¬ y = w.heap.size + 1 := fun y hy => by have := OWN.out.2.2.1 y hy; omega
          exact ((((OWN.out.2.1.only (Only.cell _ ⟨w.heap.size + 1, 0, none⟩ _) g).only (Only.cell _ ⟨w.heap.size + 1, 1, none⟩ _) g).only (Only.cell _ ⟨w.heap.size + 1, 2, none⟩ _) g).only (Only.cell _ ⟨w.heap.size + 1, 3, none⟩ _) g).only (Only.cell _ ⟨w.heap.size + 1, 4, none⟩ _) g
        · have g : ∀ y, InBk x d0 d1 d2 d3 A A2 y → ¬ y = w.heap.size + 1 := fun y hy => by have := LO.out y hy; omega
          have s : ∀ {W : World} (i : Nat) (v : Value), (CapX W 70 2 d0 x.foes.length k0 ∧ CapX W 9 1 d2 x.valves.length k2 ∧ CapM W x.spots A C) → (CapX (W.setCell ⟨w.heap.size + 1, i, none⟩ v) 70 2 d0 x.foes.length k0 ∧ CapX (W.setCell ⟨w.heap.size + 1, i, none⟩ v) 9 1 d2 x.valves.length k2 ∧ CapM (W.setCell ⟨w.heap.size + 1, i, none⟩ v) x.spots A C) := fun i v h =>
           ⟨h.1.only (Only.cell _ ⟨w.heap.size + 1, i, none⟩ _) fun y hy => g y (Or.inl hy), h.2.1.only (Only.cell _ ⟨w.heap.size + 1, i, none⟩ _) fun y hy => g y (Or.inr (Or.inr (Or.inl hy))), h.2.2.only (Only.cell _ ⟨w.heap.size + 1, i, none⟩ _) fun j hj y hy => g y (Or.inr (Or.inl (Or.inr ⟨j, hj, hy⟩)))⟩
          exact s 4 _ (s 3 _ (s 2 _ (s 1 _ (s 0 _ CC.out))))
        · exact ((((bY.setCell (by simp) _).setCell (by simp) _).setCell (by simp) _).setCell (by simp) _).setCell (by simp) _

theorem l2Copy_own (x : Book) (af ap av aq : Option Addr) (cf cp cv cq : Nat) (w : World) (hin : BookIn w x af ap av aq) (hr : BookRoom x) :
 Calls Tryz.prog 35 #[bookV x af ap av aq cf cp cv cq] w fun e w' => (∃ f0 f1 f2 f3 k0 k1 k2 k3 A1 C1 A2 C2, e = .returned (bookV x f0 f1 f2 f3 k0 k1 k2 k3) ∧ OwnBook w' x f0 f1 f2 f3 A1 C1 A2 C2 ∧ CapOf w' 61 7 f3 x.parts.length k3 ∧ (x.parts.length = 0 → f3 = none) ∧ ∀ y, InBk x f0 f1 f2 f3 A1 A2 y → w.heap.size ≤ y) ∧ Below w.heap.size w w' := by
 refine (l2Copy_x x af ap av aq cf cp cv cq w hin hr).mono ?_
 rintro e w' ⟨⟨f0, f1, f2, f3, k0, k1, k2, k3, A1, C1, A2, C2, h1, h2, h3, -, h4⟩, hb⟩
 exact ⟨⟨f0, f1, f2, f3, k0, k1, k2, k3, A1, C1, A2, C2, h1, h2, h3, h4⟩, hb⟩

end Go.Proofs.YtfmhkicncgccjaaGreat

