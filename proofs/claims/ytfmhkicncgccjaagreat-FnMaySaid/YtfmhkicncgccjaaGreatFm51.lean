/- Joined: OwI. -/
import Derived.Test.YtfmhkicncgccjaaGreatFm14
/- What the program's freshBook answers: a book that owns its memory. -/
namespace Go.Proofs.YtfmhkicncgccjaaGreat
open Go.RowKit Go.Sort
set_option linter.unusedSimpArgs false
set_option linter.unusedVariables false

set_option maxRecDepth 100000 in
set_option maxHeartbeats 8000000 in
theorem freshBook_own (x : Book) (af ap av aq : Option Addr) (cf cp cv cq : Nat) (w : World) (hin : BookIn w x af ap av aq) (hr : BookRoom x) :
 Calls Tryz.prog 75 #[bookV x af ap av aq cf cp cv cq] w fun e w' => (∃ f0 f1 f2 f3 k0 k1 k2 k3 A1 C1 A2 C2, e = .returned (bookV x f0 f1 f2 f3 k0 k1 k2 k3) ∧ OwnBook w' x f0 f1 f2 f3 A1 C1 A2 C2 ∧ CapOf w' 61 7 f3 x.parts.length k3 ∧ (x.parts.length = 0 → f3 = none) ∧ ∀ y, InBk x f0 f1 f2 f3 A1 A2 y → w.heap.size ≤ y) ∧ Below w.heap.size w w' := by
 obtain ⟨m, c, hsr, hsm, hsc⟩ := hin.spots
 obtain ⟨M, D, hpr, hpm⟩ := hin.parts
 have hr0 := hr.foes
 have hr1 := hr.spots
 have hr2 := hr.valves
 have hr3 := hr.parts
 unfold bookV
 obtain ⟨W0, hW0⟩ : ∃ W, W = (w.alloc (.cells #[.slice af x.foes.length cf, .slice ap x.spots.length cp, .slice av x.valves.length cv, .slice aq x.parts.length cq, .int .i64 x.seen] 28)).alloc (.cells #[.slice none 0 0, .slice none 0 0, .slice none 0 0, .slice none 0 0, .int .i64 0] 28) := ⟨_, rfl⟩
 have b0 : Below w.heap.size w W0 := by rw [hW0]; exact ((Below.refl _ _).alloc (Nat.le_refl _) _).alloc (by simp) _
 have i0 : Row W0 w.heap.size 28 [.slice af x.foes.length cf, .slice ap x.spots.length cp, .slice av x.valves.length cv, .slice aq x.parts.length cq, .int .i64 x.seen] := by rw [hW0]; exact (Row.new _ _ _).alloc _
 have z0 : Row W0 (w.heap.size + 1) 28 [.slice none 0 0, .slice none 0 0, .slice none 0 0, .slice none 0 0, .int .i64 0] := by
  rw [hW0]
  have := Row.new (w.alloc (.cells #[.slice af x.foes.length cf, .slice ap x.spots.length cp, .slice av x.valves.length cv, .slice aq x.parts.length cq, .int .i64 x.seen] 28)) 28 [.slice none 0 0, .slice none 0 0, .slice none 0 0, .slice none 0 0, .int .i64 0]
  simpa using this
 have sz0 : W0.heap.size = w.heap.size + 2 := by rw [hW0]; simp
 have hne : w.heap.size + 1 ≠ w.heap.size := by omega
 go_enter Tryz.func75, Tryz.ntmps75
 go_wp2_with fail
 rw [← hW0]
 clear hW0
 refine (freshF_own af x.foes.length cf (foeF x.foes) W0 (hin.later b0).foes (oneFoe _) hr0).mono ?_
 rintro e w1 ⟨⟨d0, k0, rfl, s0, -, lo0, -⟩, hb⟩
 have b1 := b0.trans (hb.mono b0.size)
 have i1 := i0.later hb
 have z1 := z0.later hb
 have sz1 : w.heap.size + 2 ≤ w1.heap.size := by have := hb.size; omega
 have O0 : Hid (∀ y, InSlot d0 x.foes.length y → w.heap.size + 2 ≤ y ∧ y < w1.heap.size) := fun y hy => ⟨by have := lo0 y hy.2; omega, s0.lt hy⟩
 clear b0 i0 z0 hb sz0 lo0
 have q2 := i1.cell 2 rfl
 have f0 := i1.frozen 0
 have g0 := i1.cell 0 rfl
 go_wp2_with fail
 obtain ⟨W1, hW1⟩ : ∃ W, W = w1.setCell ⟨w.heap.size, 0, none⟩ (.slice d0 x.foes.length k0) := ⟨_, rfl⟩
 have b1 : Below w.heap.size w W1 := by rw [hW1]; exact b1.setCell (by simp) _
 have i1 := i1.set 0 (.slice d0 x.foes.length k0)
 have z1 := z1.other (a := ⟨w.heap.size, 0, none⟩) hne (.slice d0 x.foes.length k0)
 have s0 := s0.only (Only.cell _ ⟨w.heap.size, 0, none⟩ (.slice d0 x.foes.length k0)) (fun y hy e => by have := O0.out y hy; simp only at e; omega)
 have sW1 : W1.heap.size = w1.heap.size := by rw [hW1, Go.Deep.nblk_setCell]
 rw [← hW1] at i1 z1 s0 ⊢
 clear hW1 q2 f0 g0
 refine (freshS_own av x.valves.length cv (strF x.valves) W1 (hin.later b1).valves (oneStr _) hr2).mono ?_
 rintro e w2 ⟨⟨d2, k2, rfl, s2, -, lo2, -⟩, hb⟩
 have b2 := b1.trans (hb.mono b1.size)
 have i2 := i1.later hb
 have z2 := z1.later hb
 have s0 := s0.later hb
 have sz2 : w1.heap.size ≤ w2.heap.size := by have := hb.size; omega
 have O2 : Hid (∀ y, InSlot d2 x.valves.length y → w1.heap.size ≤ y ∧ y < w2.heap.size) := fun y hy => ⟨by have := lo2 y hy.2; omega, s2.lt hy⟩
 clear b1 i1 z1 hb sW1 lo2
 have q1 := i2.cell 1 rfl
 have f2 := i2.frozen 2
 have g2 := i2.cell 2 rfl
 go_wp2_with fail
 obtain ⟨W2, hW2⟩ : ∃ W, W = w2.setCell ⟨w.heap.size, 2, none⟩ (.slice d2 x.valves.length k2) := ⟨_, rfl⟩
 have b2 : Below w.heap.size w W2 := by rw [hW2]; exact b2.setCell (by simp) _
 have i2 := i2.set 2 (.slice d2 x.valves.length k2)
 have z2 := z2.other (a := ⟨w.heap.size, 2, none⟩) hne (.slice d2 x.valves.length k2)
 have s0 := s0.only (Only.cell _ ⟨w.heap.size, 2, none⟩ (.slice d2 x.valves.length k2)) (fun y hy e => by have := O0.out y hy; simp only at e; omega)
 have s2 := s2.only (Only.cell _ ⟨w.heap.size, 2, none⟩ (.slice d2 x.valves.length k2)) (fun y hy e => by have := O2.out y hy; simp only at e; omega)
 have sW2 : W2.heap.size = w2.heap.size := by rw [hW2, Go.Deep.nblk_setCell]
 rw [← hW2] at i2 z2 s0 s2 ⊢
 clear hW2 q1 f2 g2
 refine (freshP_own ap x.spots.length cp (fun k => spotCell (gp x.spots k) (m k) (c k)) W2 (hsr.later b2) (fun k j => oneSpot _ _ _ j) hr1).mono ?_
 rintro e w3 ⟨⟨d1, k1, rfl, s1, -, lo1, -⟩, hb⟩
 have b3 := b2.trans (hb.mono b2.size)
 have i3 := i2.later hb
 have z3 := z2.later hb
 have s0 := s0.later hb
 have s2 := s2.later hb
 have sz3 : w2.heap.size ≤ w3.heap.size := by have := hb.size; omega
 have O1 : Hid (∀ y, InSlot d1 x.spots.length y → w2.heap.size ≤ y ∧ y < w3.heap.size) := fun y hy => ⟨by have := lo1 y hy.2; omega, s1.lt hy⟩
 clear b2 i2 z2 hb sW2 lo1
 have f1 := i3.frozen 1
 have g1 := i3.cell 1 rfl
 go_wp2_with fail
 obtain ⟨W3, hW3⟩ : ∃ W, W = w3.setCell ⟨w.heap.size, 1, none⟩ (.slice d1 x.spots.length k1) := ⟨_, rfl⟩
 have b3 : Below w.heap.size w W3 := by rw [hW3]; exact b3.setCell (by simp) _
 have i3 := i3.set 1 (.slice d1 x.spots.length k1)
 have z3 := z3.other (a := ⟨w.heap.size, 1, none⟩) hne (.slice d1 x.spots.length k1)
 have s0 := s0.only (Only.cell _ ⟨w.heap.size, 1, none⟩ (.slice d1 x.spots.length k1)) (fun y hy e => by have := O0.out y hy; simp only at e; omega)
 have s2 := s2.only (Only.cell _ ⟨w.heap.size, 1, none⟩ (.slice d1 x.spots.length k1)) (fun y hy e => by have := O2.out y hy; simp only at e; omega)
 have s1 := s1.only (Only.cell _ ⟨w.heap.size, 1, none⟩ (.slice d1 x.spots.length k1)) (fun y hy e => by have := O1.out y hy; simp only at e; omega)
 have sW3 : W3.heap.size = w3.heap.size := by rw [hW3, Go.Deep.nblk_setCell]
 rw [← hW3] at i3 z3 s0 s1 s2 ⊢
 clear hW3 f1 g1
 have ms0 : MidSpots W3 W3.heap.size d1 x.spots 0 (fun _ => none) (fun _ => 0) m c := ⟨s1.congr (fun k hk j hj => by unfold mixS; rw [if_neg (Nat.not_lt_zero _)]), fun j hj => absurd hj (Nat.not_lt_zero _), fun j hj => absurd hj (Nat.not_lt_zero _), fun j hj => absurd hj (Nat.not_lt_zero _), fun i j hi => absurd hi (Nat.not_lt_zero _)⟩
 clear s1
 have HS0 : Hid (OwnL W3 70 2 d0 x.foes.length (foeF x.foes) ∧ OwnL W3 9 1 d2 x.valves.length (strF x.valves)) := ⟨s0, s2⟩
 clear s0 s2
 go_loopw [3, 4, 22] (fun _ _ i wr => ∃ (k : Nat) (A : Nat → Option Addr) (C : Nat → Nat) (X : World), X = wr ∧ k ≤ x.spots.length ∧ i = .int .i64 k ∧ Only (InSlot d1 x.spots.length) W3 X ∧ MidSpots X W3.heap.size d1 x.spots k A C m c) (fun _ _ i _ => x.spots.length - (intOf i).toNat)
 case atStart => exact ⟨0, _, _, _, rfl, Nat.zero_le _, rfl, Only.refl _ _, ms0⟩
 case round =>
  obtain ⟨k, A, C, X, rfl, hk, rfl, hon, mid⟩ := hrel
  clear ms0
  have nB : ¬ InSlot d1 x.spots.length w.heap.size := fun h => by have := O1.out _ h; omega
  have nB1 : ¬ InSlot d1 x.spots.length (w.heap.size + 1) := fun h => by have := O1.out _ h; omega
  have iX := i3.only hon nB
  have zX := z3.only hon nB1
  have bX : Below w.heap.size w X := b3.trans (hon.below (fun y hy => by have := O1.out y hy; omega) b3.size)
  have szX := hon.size
  by_cases hlt : k < x.spots.length
  · obtain ⟨b1, rfl⟩ := mid.row.some_of (by omega)
    have c0 := (mid.row.cellAt hlt (by omega : 0 < 5)).1
    have c1 := (mid.row.cellAt hlt (by omega : 1 < 5)).1
    have c2 := (mid.row.cellAt hlt (by omega : 2 < 5)).1
    have c3 := (mid.row.cellAt hlt (by omega : 3 < 5)).1
    obtain ⟨c4, hfz, hbl⟩ := mid.row.cellAt hlt (by omega : 4 < 5)
    have hb1 := O1.out b1 ⟨by omega, 0, rfl⟩
    simp only [mixS, if_neg (Nat.lt_irrefl _), spotCell, Nat.add_zero] at c0 c1 c2 c3 c4
    have hlt2 : (k : Int) < x.spots.length := by omega
    have hk0 : (0 : Int) ≤ k := by omega
    have y1 := iX.cell 1 rfl
    obtain ⟨X1, hX1⟩ : ∃ W, W = X.alloc (.cells #[.string (gp x.spots k).name, .int .i64 (gp x.spots k).cap, .int .i64 (gp x.spots k).least, .int .i64 (gp x.spots k).most, .slice (m k) (gp x.spots k).may.length (c k)] 72) := ⟨_, rfl⟩
    have bX1 : Below X.heap.size X X1 := by rw [hX1]; exact (Below.refl _ _).alloc (Nat.le_refl _) _
    have rX1 : Row X1 X.heap.size 72 [.string (gp x.spots k).name, .int .i64 (gp x.spots k).cap, .int .i64 (gp x.spots k).least, .int .i64 (gp x.spots k).most, .slice (m k) (gp x.spots k).may.length (c k)] := by rw [hX1]; exact Row.new _ _ _
    have hbw1 := bX.trans (bX1.mono bX.size)
    have hfz1 : X1.frozen? ⟨b1, k * 5 + 4, none⟩ = false := by rw [bX1.frozen (p := ⟨b1, k * 5 + 4, none⟩) hbl]; exact hfz
    have c41 := cell_later bX1 c4
    have y11 := cell_later bX1 y1
    have v4 := rX1.cell 4 rfl
    go_wp2_with fail
    rw [← hX1]
    clear hX1 c0 c1 c2 c3
    go_region_with (first
     | (go_at_call 121
        refine (freshS_own (m k) (gp x.spots k).may.length (c k) (strF (gp x.spots k).may) _ ((hsm k hlt).later (below_drewN hbw1 _)) (oneStr _) (hr.mays _ (gp_mem hlt))).mono ?_
        rintro e w4 ⟨⟨a', c', rfl, o4, p4, lo4, -⟩, hb4⟩
        have hb4' : Below X1.heap.size X1 w4 := Below.drew (Below.refl _ _) |>.trans hb4
        have y14 := cell_later hb4' y11
        have c44 := cell_later hb4' c41
        have hfz4 : w4.frozen? ⟨b1, k * 5 + 4, none⟩ = false := by rw [hb4'.frozen (p := ⟨b1, k * 5 + 4, none⟩) (Nat.lt_of_lt_of_le hbl bX1.size)]; exact hfz1))
    all_goals
     have nx := mid.next hlt (w4 := w4) (bX1.trans (hb4'.mono bX1.size)) (by omega) szX o4 (fun y hy => Nat.le_trans bX1.size (lo4 y hy.2)) p4.le
     have on4 : Only (InSlot (some ⟨b1, 0, none⟩) x.spots.length) W3 (w4.setCell ⟨b1, k * 5 + 4, none⟩ (.slice a' (gp x.spots k).may.length c')) := (hon.trans (Only.of (bX1.trans (hb4'.mono bX1.size)))).set ⟨by omega, 0, rfl⟩ _ _
     have HN : Hid _ := And.intro nx on4
     clear nx on4 mid hon iX zX bX bX1 rX1 hbw1 hfz1 c41 y11 v4 o4 p4 lo4 hb4 hb4' y14 c44 hfz4 c4 hfz y1
     go_wp2
     go_roundw
     case rel => exact ⟨k + 1, _, _, _, rfl, by omega, by go_num, HN.out.2, HN.out.1⟩
     case measure => simp [intOf]; omega
  · have : k = x.spots.length := by omega
    subst this
    have ownS : OwnSpots X d1 x.spots A C := mid.done (fun y hy => by have := O1.out y hy; omega)
    have s0 := HS0.out.1.only hon (fun y hy hy' => by have := O0.out y hy; have := O1.out y hy'; omega)
    have s2 := HS0.out.2.only hon (fun y hy hy' => by have := O2.out y hy; have := O1.out y hy'; omega)
    have OA : Hid (∀ y, InSp d1 x.spots A y → w2.heap.size ≤ y ∧ y < X.heap.size) := fun y hy => ⟨by
     rcases hy with hy | ⟨j, hj, hy⟩
     · exact (O1.out y hy).1
     · have := mid.from_ j hj y hy; omega, ownS.lt hy⟩
    clear mid hon HS0 i3 z3 b3
    have q3 := iX.cell 3 rfl
    go_wp2_with fail
    refine (freshQ_own aq x.parts.length cq (fun k => partCell (gq x.parts k) (M k) (D k)) X (hpr.later bX) (fun k j => onePart _ _ _ j) hr3).mono ?_
    rintro e w5 ⟨⟨d3, k3, rfl, s3, p3, lo3, nn3⟩, hb⟩
    have b5 := bX.trans (hb.mono bX.size)
    have i5 := iX.later hb
    have z5 := zX.later hb
    have s0 := s0.later hb
    have s2 := s2.later hb
    have ownS := ownS.later hb
    have sz5 : X.heap.size ≤ w5.heap.size := hb.size
    have O3 : Hid (∀ y, InAddr d3 y → X.heap.size ≤ y ∧ y < w5.heap.size) := fun y hy => ⟨lo3 y hy, p3.lt hy⟩
    have NN : Hid (x.parts.length = 0 → d3 = none) := nn3
    clear bX iX zX hb lo3 nn3 q3
    have f3 := i5.frozen 3
    have g3 := i5.cell 3 rfl
    go_wp2_with fail
    obtain ⟨W5, hW5⟩ : ∃ W, W = w5.setCell ⟨w.heap.size, 3, none⟩ (.slice d3 x.parts.length k3) := ⟨_, rfl⟩
    have b5 : Below w.heap.size w W5 := by rw [hW5]; exact b5.setCell (by simp) _
    have i5 := i5.set 3 (.slice d3 x.parts.length k3)
    have z5 := z5.other (a := ⟨w.heap.size, 3, none⟩) hne (.slice d3 x.parts.length k3)
    have s0 := s0.only (Only.cell _ ⟨w.heap.size, 3, none⟩ (.slice d3 x.parts.length k3)) (fun y hy e => by have := O0.out y hy; simp only at e; omega)
    have s2 := s2.only (Only.cell _ ⟨w.heap.size, 3, none⟩ (.slice d3 x.parts.length k3)) (fun y hy e => by have := O2.out y hy; simp only at e; omega)
    have ownS := ownS.only (Only.cell _ ⟨w.heap.size, 3, none⟩ (.slice d3 x.parts.length k3)) (fun y hy e => by have := OA.out y hy; simp only at e; omega)
    have s3 := s3.only (Only.cell _ ⟨w.heap.size, 3, none⟩ (.slice d3 x.parts.length k3)) (fun y hy e => by have := O3.out y hy.2; simp only at e; omega)
    have p3 := p3.only (Only.cell _ ⟨w.heap.size, 3, none⟩ (.slice d3 x.parts.length k3)) (fun y hy e => by have := O3.out y hy; simp only at e; omega)
    have sW5 : W5.heap.size = w5.heap.size := by rw [hW5, Go.Deep.nblk_setCell]
    rw [← hW5] at i5 z5 s0 s2 ownS s3 p3 ⊢
    clear hW5 f3 g3
    have mp0 : MidParts W5 W5.heap.size d3 x.parts 0 (fun _ _ => none) (fun _ _ => 0) M D := ⟨s3.congr (fun k hk j hj => by unfold mixP; rw [if_neg (Nat.not_lt_zero _)]), fun j hj => absurd hj (Nat.not_lt_zero _), fun j hj => absurd hj (Nat.not_lt_zero _), fun i j hi => absurd hi (Nat.not_lt_zero _)⟩
    have HS1 : Hid (OwnL W5 70 2 d0 x.foes.length (foeF x.foes) ∧ OwnL W5 9 1 d2 x.valves.length (strF x.valves) ∧ OwnSpots W5 d1 x.spots A C) := ⟨s0, s2, ownS⟩
    have HP0 : Hid (CapOf W5 61 7 d3 x.parts.length k3) := p3
    clear s0 s2 ownS s3 p3
    go_loopw [5, 6, 43] (fun _ _ i wr => ∃ (k : Nat) (A : Nat → Nat → Option Addr) (C : Nat → Nat → Nat) (X : World), X = wr ∧ k ≤ x.parts.length ∧ i = .int .i64 k ∧ Only (InSlot d3 x.parts.length) W5 X ∧ MidParts X W5.heap.size d3 x.parts k A C M D ∧ CapOf X 61 7 d3 x.parts.length k3) (fun _ _ i _ => x.parts.length - (intOf i).toNat)
    case atStart => exact ⟨0, _, _, _, rfl, Nat.zero_le _, rfl, Only.refl _ _, mp0, HP0.out⟩
    case round =>
     obtain ⟨k, A2, C2, Y, rfl, hk, rfl, hon, mid, cap⟩ := hrel
     clear mp0
     have nB : ¬ InSlot d3 x.parts.length w.heap.size := fun h => by have := O3.out _ h.2; omega
     have nB1 : ¬ InSlot d3 x.parts.length (w.heap.size + 1) := fun h => by have := O3.out _ h.2; omega
     have iY := i5.only hon nB
     have zY := z5.only hon nB1
     have bY : Below w.heap.size w Y := b5.trans (hon.below (fun y hy => by have := O3.out y hy.2; omega) b5.size)
     have szY := hon.size
     by_cases hlt : k < x.parts.length
     · obtain ⟨b1, rfl⟩ := mid.row.some_of (by omega)
       obtain ⟨c0, fz0, hbl⟩ := mid.row.cellAt hlt (by omega : 0 < 7)
       obtain ⟨c1, fz1, -⟩ := mid.row.cellAt hlt (by omega : 1 < 7)
       obtain ⟨c2, fz2, -⟩ := mid.row.cellAt hlt (by omega : 2 < 7)
       obtain ⟨c3, fz3, -⟩ := mid.row.cellAt hlt (by omega : 3 < 7)
       obtain ⟨c4, fz4, -⟩ := mid.row.cellAt hlt (by omega : 4 < 7)
       obtain ⟨c5, fz5, -⟩ := mid.row.cellAt hlt (by omega : 5 < 7)
       obtain ⟨c6, -, -⟩ := mid.row.cellAt hlt (by omega : 6 < 7)
       have hb1 := O3.out b1 ⟨0, rfl⟩
       simp only [mixP, if_neg (Nat.lt_irrefl _), partCell, Nat.add_zero] at c0 c1 c2 c3 c4 c5 c6 fz0
       have hlt2 : (k : Int) < x.parts.length := by omega
       have hk0 : (0 : Int) ≤ k := by omega
       have y3 := iY.cell 3 rfl
       obtain ⟨X1, hX1⟩ : ∃ W, W = Y.alloc (.cells #[.int .i64 (gq x.parts k).want.number, .int .i64 (gq x.parts k).want.kind, .slice (M k 2) (gq x.parts k).want.stuffs.length (D k 2), .slice (M k 3) (gq x.parts k).want.uses.length (D k 3), .slice (M k 4) (gq x.parts k).want.opens.length (D k 4), .slice (M k 5) (gq x.parts k).want.shuts.length (D k 5), .bool (gq x.parts k).stopped] 61) := ⟨_, rfl⟩
       have bX1 : Below Y.heap.size Y X1 := by rw [hX1]; exact (Below.refl _ _).alloc (Nat.le_refl _) _
       have rX1 : Row X1 Y.heap.size 61 [.int .i64 (gq x.parts k).want.number, .int .i64 (gq x.parts k).want.kind, .slice (M k 2) (gq x.parts k).want.stuffs.length (D k 2), .slice (M k 3) (gq x.parts k).want.uses.length (D k 3), .slice (M k 4) (gq x.parts k).want.opens.length (D k 4), .slice (M k 5) (gq x.parts k).want.shuts.length (D k 5), .bool (gq x.parts k).stopped] := by rw [hX1]; exact Row.new _ _ _
       have hbw1 := bY.trans (bX1.mono bY.size)
       have y31 := cell_later bX1 y3
       have v0 := rX1.cell 0 rfl
       have v1 := rX1.cell 1 rfl
       have v2 := rX1.cell 2 rfl
       have v3 := rX1.cell 3 rfl
       have v4 := rX1.cell 4 rfl
       have v5 := rX1.cell 5 rfl
       go_wp2_with fail
       rw [← hX1]
       have HC : Hid (∀ W, Below X1.heap.size X1 W → (W.cell? ⟨b1, k * 7, none⟩ = some (.int .i64 (gq x.parts k).want.number) ∧ W.cell? ⟨b1, k * 7 + 1, none⟩ = some (.int .i64 (gq x.parts k).want.kind) ∧ W.cell? ⟨b1, k * 7 + 2, none⟩ = some (.slice (M k 2) (gq x.parts k).want.stuffs.length (D k 2)) ∧ W.cell? ⟨b1, k * 7 + 3, none⟩ = some (.slice (M k 3) (gq x.parts k).want.uses.length (D k 3)) ∧ W.cell? ⟨b1, k * 7 + 4, none⟩ = some (.slice (M k 4) (gq x.parts k).want.opens.length (D k 4)) ∧ W.cell? ⟨b1, k * 7 + 5, none⟩ = some (.slice (M k 5) (gq x.parts k).want.shuts.length (D k 5))) ∧
        (∀ i, Y.frozen? ⟨b1, i, none⟩ = false → W.frozen? ⟨b1, i, none⟩ = false)) := fun W hW => by
        have h' := bX1.trans (hW.mono bX1.size)
        exact ⟨⟨cell_later h' c0, cell_later h' c1, cell_later h' c2, cell_later h' c3, cell_later h' c4, cell_later h' c5⟩, fun i hi => by rw [h'.frozen (p := ⟨b1, i, none⟩) hbl]; exact hi⟩
       have HF : Hid (Y.frozen? ⟨b1, k * 7, none⟩ = false ∧ Y.frozen? ⟨b1, k * 7 + 1, none⟩ = false ∧ Y.frozen? ⟨b1, k * 7 + 2, none⟩ = false ∧ Y.frozen? ⟨b1, k * 7 + 3, none⟩ = false ∧ Y.frozen? ⟨b1, k * 7 + 4, none⟩ = false ∧ Y.frozen? ⟨b1, k * 7 + 5, none⟩ = false) := ⟨fz0, fz1, fz2, fz3, fz4, fz5⟩
       clear hX1 c0 c1 c2 c3 c4 c5 c6 fz0 fz1 fz2 fz3 fz4 fz5
       go_region_with (first
        | (go_at_call 124
           refine (freshWant_own (gq x.parts k) (M k 2) (M k 3) (M k 4) (M k 5) (D k 2) (D k 3) (D k 4) (D k 5) _ ((hpm k hlt).later (below_drewN hbw1 _)) (hr.wants _ (gq_mem hlt))).mono ?_
           rintro e w4 ⟨⟨A', C', rfl, o4, lo4⟩, hb4⟩
           have hb4' : Below X1.heap.size X1 w4 := Below.drew (Below.refl _ _) |>.trans hb4
           have y34 := cell_later hb4' y31
           obtain ⟨⟨e0, e1, e2, e3, e4, e5⟩, hfz⟩ := HC.out w4 hb4'
           have z0' := hfz _ HF.out.1
           have z1' := hfz _ HF.out.2.1
           have z2' := hfz _ HF.out.2.2.1
           have z3' := hfz _ HF.out.2.2.2.1
           have z4' := hfz _ HF.out.2.2.2.2.1
           have z5' := hfz _ HF.out.2.2.2.2.2
           clear hfz
           unfold wantW))
       all_goals
        have nx := mid.next (C' := C') hlt (w4 := w4) (bX1.trans (hb4'.mono bX1.size)) (by omega) szY o4 (fun y hy => Nat.le_trans bX1.size (lo4 y hy))
        have on4 := ((((((hon.trans (Only.of (bX1.trans (hb4'.mono bX1.size)))).set (b := b1) ⟨by omega, 0, rfl⟩ (k * 7) (.int .i64 (gq x.parts k).want.number)).set (b := b1) ⟨by omega, 0, rfl⟩ (k * 7 + 1) (.int .i64 (gq x.parts k).want.kind)).set (b := b1) ⟨by omega, 0, rfl⟩ (k * 7 + 2) (.slice (A' 0) (gq x.parts k).want.stuffs.length (C' 0))).set (b := b1) ⟨by omega, 0, rfl⟩ (k * 7 + 3) (.slice (A' 1) (gq x.parts k).want.uses.length (C' 1))).set (b := b1) ⟨by omega, 0, rfl⟩ (k * 7 + 4) (.slice (A' 2) (gq x.parts k).want.opens.length (C' 2))).set (b := b1) ⟨by omega, 0, rfl⟩ (k * 7 + 5) (.slice (A' 3) (gq x.parts k).want.shuts.length (C' 3))
        have cp4 := ((((((cap.later (bX1.trans (hb4'.mono bX1.size))).set (k * 7) (.int .i64 (gq x.parts k).want.number)).set (k * 7 + 1) (.int .i64 (gq x.parts k).want.kind)).set (k * 7 + 2) (.slice (A' 0) (gq x.parts k).want.stuffs.length (C' 0))).set (k * 7 + 3) (.slice (A' 1) (gq x.parts k).want.uses.length (C' 1))).set (k * 7 + 4) (.slice (A' 2) (gq x.parts k).want.opens.length (C' 2))).set (k * 7 + 5) (.slice (A' 3) (gq x.parts k).want.shuts.length (C' 3))
        have HN : Hid _ := And.intro nx (And.intro on4 cp4)
        clear nx on4 cp4 mid hon cap iY zY bY bX1 rX1 hbw1 y31 y3 v0 v1 v2 v3 v4 v5 o4 lo4 hb4 hb4' y34 e0 e1 e2 e3 e4 e5 z0' z1' z2' z3' z4' z5' HC HF
        go_wp2
        go_roundw
        case rel => exact ⟨k + 1, _, _, _, rfl, by omega, by go_num, HN.out.2.1, HN.out.1, HN.out.2.2⟩
        case measure => simp [intOf]; omega
     · have : k = x.parts.length := by omega
       subst this
       have ownP : OwnParts Y d3 x.parts A2 C2 := mid.done (fun y hy => by have := O3.out y hy.2; omega)
       have s0 := HS1.out.1.only hon (fun y hy hy' => by have := O0.out y hy; have := O3.out y hy'.2; omega)
       have s2 := HS1.out.2.1.only hon (fun y hy hy' => by have := O2.out y hy; have := O3.out y hy'.2; omega)
       have ownS := HS1.out.2.2.only hon (fun y hy hy' => by have := OA.out y hy; have := O3.out y hy'.2; omega)
       have OB : Hid (∀ y, InPt d3 x.parts A2 y → X.heap.size ≤ y) := fun y hy => by
        rcases hy with hy | ⟨j, hj, c, hc, hy⟩
        · exact (O3.out y hy.2).1
        · have := mid.from_ j hj y ⟨c, hc, hy⟩; omega
       have own : OwnBook Y x d0 d1 d2 d3 A C A2 C2 := by
        refine ⟨s0, ownS, s2, ownP, fun y hy hy' => ?_, fun y hy hy' => ?_, fun y hy hy' => ?_, fun y hy hy' => ?_, fun y hy hy' => ?_, fun y hy hy' => ?_⟩
        · have := O0.out y hy; have := OA.out y hy'; omega
        · have := O0.out y hy; have := O2.out y hy'; omega
        · have := O0.out y hy; have := OB.out y hy'; omega
        · have := OA.out y hy; have := O2.out y hy'; omega
        · have := OA.out y hy; have := OB.out y hy'; omega
        · have := O2.out y hy; have := OB.out y hy'; omega
       have LO : Hid (∀ y, InBk x d0 d1 d2 d3 A A2 y → w.heap.size + 2 ≤ y) := fun y hy => by
        rcases hy with hy | hy | hy | hy
        · have := O0.out y hy; omega
        · have := OA.out y hy; omega
        · have := O2.out y hy; omega
        · have := OB.out y hy; omega
       have OWN : Hid (OwnBook Y x d0 d1 d2 d3 A C A2 C2 ∧ CapOf Y 61 7 d3 x.parts.length k3 ∧ (∀ y, InAddr d3 y → w.heap.size + 2 ≤ y)) := ⟨own, cap, fun y hy => by have := O3.out y hy; omega⟩
       clear mid hon HS1 HP0 i5 z5 b5 own cap OB OA s0 s2 ownS ownP O0 O1 O2 O3
       have g0 := iY.cell 0 rfl
       have g1 := iY.cell 1 rfl
       have g2 := iY.cell 2 rfl
       have g3 := iY.cell 3 rfl
       have g4 := iY.cell 4 rfl
       have r0 := zY.cell 0 rfl
       have r1 := zY.cell 1 rfl
       have r2 := zY.cell 2 rfl
       have r3 := zY.cell 3 rfl
       have r4 := zY.cell 4 rfl
       have l0 := zY.frozen 0
       have l1 := zY.frozen 1
       have l2 := zY.frozen 2
       have l3 := zY.frozen 3
       have l4 := zY.frozen 4
       go_wp2
       refine bodyPost_ret (v := .agg #[.slice d0 x.foes.length k0, .slice d1 x.spots.length k1, .slice d2 x.valves.length k2, .slice d3 x.parts.length k3, .int .i64 x.seen])
        (by simp [results, Tryz.results75, go_sem, r0, r1, r2, r3, r4]) rfl ⟨⟨d0, d1, d2, d3, k0, k1, k2, k3, A, C, A2, C2, rfl, ?_, ?_, NN.out, fun y hy => by have := LO.out y hy; omega⟩, ?_⟩
       · have g : ∀ y, InBk x d0 d1 d2 d3 A A2 y → ¬ y = w.heap.size + 1 := fun y hy => by have := LO.out y hy; omega
         exact ((((OWN.out.1.only (Only.cell _ ⟨w.heap.size + 1, 0, none⟩ _) g).only (Only.cell _ ⟨w.heap.size + 1, 1, none⟩ _) g).only (Only.cell _ ⟨w.heap.size + 1, 2, none⟩ _) g).only (Only.cell _ ⟨w.heap.size + 1, 3, none⟩ _) g).only (Only.cell _ ⟨w.heap.size + 1, 4, none⟩ _) g
       · have g : ∀ y, InAddr d3 y → ¬ y = w.heap.size + 1 := fun y hy => by have := OWN.out.2.2 y hy; omega
         exact ((((OWN.out.2.1.only (Only.cell _ ⟨w.heap.size + 1, 0, none⟩ _) g).only (Only.cell _ ⟨w.heap.size + 1, 1, none⟩ _) g).only (Only.cell _ ⟨w.heap.size + 1, 2, none⟩ _) g).only (Only.cell _ ⟨w.heap.size + 1, 3, none⟩ _) g).only (Only.cell _ ⟨w.heap.size + 1, 4, none⟩ _) g
       · exact ((((bY.setCell (by simp) _).setCell (by simp) _).setCell (by simp) _).setCell (by simp) _).setCell (by simp) _

end Go.Proofs.YtfmhkicncgccjaaGreat

