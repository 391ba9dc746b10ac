/- Joined: DrS. -/
import Derived.Test.YtfmhkicncgccjaaGreatFm06
import Derived.Test.YtfmhkicncgccjaaGreatFm45
/- What l5Spoil answers. -/
namespace Go.Proofs.YtfmhkicncgccjaaGreat
open Go.RowKit Go.Sort
set_option linter.unusedSimpArgs false
set_option linter.unusedVariables false

set_option maxRecDepth 100000 in
set_option maxHeartbeats 8000000 in
theorem l5Spoil_any (W0 : World) (Rb : Nat) (a : Option Addr) (n cap : Nat) (f : Nat → Nat) (w : World) (p : Int) (h : Rd W0 Rb a n cap f w p) (h0 : 0 ≤ p) (h1 : p ≤ 800000000) (x : Book) (af ap av aq : Option Addr) (cf cp cv cq : Nat) (hin : DrB (Rb + 1) w x af ap av aq) (hT : Tiny x) :
 Calls Tryz.prog 72 #[.pointer (some ⟨Rb, 0, none⟩), bookV x af ap av aq cf cp cv cq] w fun e w' => AnyOf W0 Rb a n cap f w.heap.size p 20 e w' ∧ Only (fun q => q = Rb) w w' := by
 have hRb := h.row.lt
 have hl0 := hT.foes.1
 have hl1 := hT.spots.1
 have hl2 := hT.valves.1
 have hl3 := hT.parts.1
 obtain ⟨W1, hW1⟩ : ∃ W, W = (w.alloc (.cells #[.slice af x.foes.length cf, .slice ap x.spots.length cp, .slice av x.valves.length cv, .slice aq x.parts.length cq, .int .i64 x.seen] 28)).alloc (.cells #[.slice none 0 0, .slice none 0 0, .slice none 0 0, .slice none 0 0, .int .i64 0] 28) := ⟨_, rfl⟩
 have b1 : Below w.heap.size w W1 := by rw [hW1]; exact ((Below.refl _ _).alloc (Nat.le_refl _) _).alloc (by simp) _
 have rZ : Row W1 (w.heap.size + 1) 28 [.slice none 0 0, .slice none 0 0, .slice none 0 0, .slice none 0 0, .int .i64 0] := by rw [hW1]; exact Row.new' (by simp)
 have sz1 : W1.heap.size = w.heap.size + 2 := by rw [hW1]; simp
 have r1 := h.later b1
 have COPY := l2Copy_x x af ap av aq cf cp cv cq W1 (hin.in_.later b1) hT.room
 unfold bookV at COPY ⊢
 go_enter Tryz.func72, Tryz.ntmps72
 go_wp2_with fail
 rw [← hW1]
 clear hW1
 refine COPY.mono ?_
 rintro e X2 ⟨⟨d0, d1, d2, d3, k0, k1, k2, k3, A1, C1, A2, C2, rfl, own, cp, cs, h3, lo⟩, hb⟩
 clear COPY
 have sk0 := SkAt.start (k1 := k1) (r1.later hb) (Only.of hb) (by omega) own lo cp h3 cs hT
 obtain ⟨X3, hX3⟩ : ∃ W, W = X2.alloc (.cells #[.slice d0 x.foes.length k0, .slice d1 x.spots.length k1, .slice d2 x.valves.length k2, .slice d3 x.parts.length k3, .int .i64 x.seen] 28) := ⟨_, rfl⟩
 rw [← hX3] at sk0
 obtain ⟨Sb, hSb⟩ : ∃ b, b = X2.heap.size := ⟨_, rfl⟩
 go_wp2_with fail
 rw [← hX3]
 rw [← hSb] at sk0 ⊢
 clear hX3 own hb cp cs h3 lo
 refine (pick_any W0 Rb a n cap f X3 p 6 sk0.rd h0 (by omega)).mono ?_
 rintro e X ⟨⟨v, rfl, hv0, hv1⟩, hr1, on1⟩
 have sk := sk0.pick hr1 on1
 have hS1 : w.heap.size + 2 ≤ Sb := by have := sk.new; omega
 have hSX : Sb < X.heap.size := sk.row.lt
 clear sk0 hr1 on1 hSb r1
 go_upto_block 0 with fail
 go_cut [5] (fun q wx => ∃ (x' : Book) (e0 e1 e2 e3 : Option Addr) (g0 g1 g2 g3 : Nat) (p' : Int), q = .pointer (some ⟨Sb, 0, none⟩) ∧ FkAt W0 Rb a n cap f W1 Sb wx p' x' e0 e1 e2 e3 g0 g1 g2 g3 ∧ p ≤ p' ∧ p' ≤ p + 20)
 case rest =>
  obtain ⟨x', e0, e1, e2, e3, i0, i1, i2, i3, p', rfl, fn, hp1, hp2⟩ := hcut
  clear sk
  have zX := rZ.only fn.on (by omega)
  have g0 := fn.row.cell 0 rfl
  have g1 := fn.row.cell 1 rfl
  have g2 := fn.row.cell 2 rfl
  have g3 := fn.row.cell 3 rfl
  have g4 := fn.row.cell 4 rfl
  have r0 := zX.cell 0 rfl
  have r1 := zX.cell 1 rfl
  have r2 := zX.cell 2 rfl
  have r3 := zX.cell 3 rfl
  have r4 := zX.cell 4 rfl
  have k0' := zX.frozen 0
  have k1' := zX.frozen 1
  have k2' := zX.frozen 2
  have k3' := zX.frozen 3
  have k4' := zX.frozen 4
  have oc : ∀ v0 v1 v2 v3 v4, Only (fun q => q = w.heap.size + 1) wc (((((wc.setCell ⟨w.heap.size + 1, 0, none⟩ v0).setCell ⟨w.heap.size + 1, 1, none⟩ v1).setCell ⟨w.heap.size + 1, 2, none⟩ v2).setCell ⟨w.heap.size + 1, 3, none⟩ v3).setCell ⟨w.heap.size + 1, 4, none⟩ v4) := fun v0 v1 v2 v3 v4 =>
   (((((Only.refl (fun q => q = w.heap.size + 1) wc).set (b := w.heap.size + 1) rfl 0 v0).set rfl 1 v1).set rfl 2 v2).set rfl 3 v3).set rfl 4 v4
  have FIN : Hid _ := And.intro fn (And.intro oc b1)
  clear fn oc zX
  go_wp2
  refine bodyPost_ret (v := .agg #[.slice e0 x'.foes.length i0, .slice e1 x'.spots.length i1, .slice e2 x'.valves.length i2, .slice e3 x'.parts.length i3, .int .i64 x'.seen])
   (by simp [results, Tryz.results72, go_sem, r0, r1, r2, r3, r4]) rfl ⟨⟨x', e0, e1, e2, e3, i0, i1, i2, i3, p', rfl, ?_, FIN.out.1.small, hp1, hp2, ?_⟩, ?_⟩
  · exact (FIN.out.1.dr.low (FIN.out.2.1 _ _ _ _ _) (fun q hq => by have : q = w.heap.size + 1 := hq; omega)).mono (by omega)
  · exact FIN.out.1.rd.only (FIN.out.2.1 _ _ _ _ _) (fun q hq => by have : q = w.heap.size + 1 := hq; omega)
  · exact ((Only.of FIN.out.2.2).trans FIN.out.1.on).next (FIN.out.2.1 _ _ _ _ _) (fun q hq hq' => by have : q = w.heap.size + 1 := hq; omega)
 case first =>
  have hv6 : v = 0 ∨ v = 1 ∨ v = 2 ∨ (v = 3 ∨ v = 4) ∨ v = 5 := by omega
  have hRX := sk.rd.row.lt
  have hold := sk.old
  clear hv0 hv1 rZ b1 hin h
  rcases hv6 with rfl | rfl | rfl | hv34 | rfl
  · have hS : ∀ W, Only (fun q => q = Rb) X W → W.cell? ⟨Sb, 0, none⟩ = some (.slice d0 x.foes.length k0) := fun W hb => cell_only hb (sk.row.cell 0 rfl) hSX (by omega)
    have hS0 := hS X (Only.refl _ _)
    have rX := sk.rd
    go_wp2_with fail
    refine wp_region_E (fun W => W.cell? ⟨Sb, 0, none⟩ = some (.slice d0 x.foes.length k0)) 12 (by kernel_rfl) ?_
    refine tk 0 ?vaa0 rfl (by kernel_rfl) (fun _ _ _ h => h) (by rfl) (hS0) ?yaa0 ?raa0
    case yaa0 => intro w' h; (try dsimp only at h); go_simp; (try with_reducible rfl)
    try simp only [Act.put, sA, sB, sC]
    refine tk 1 ?vaa1 rfl (by kernel_rfl) (fun _ _ _ h => h) (by rfl) (hS0) ?yaa1 ?raa1
    case yaa1 => intro w' h; (try dsimp only at h); go_simp; (try with_reducible rfl)
    try simp only [Act.put, sA, sB, sC]
    refine tk 2 ?vaa2 rfl (by kernel_rfl) (fun _ _ _ h => h) (by rfl) (hS0) ?yaa2 ?raa2
    case yaa2 => intro w' h; (try dsimp only at h); go_simp; (try with_reducible rfl)
    try simp only [Act.put, sA, sB, sC]
    refine tk 5 ?vaa5 rfl (by kernel_rfl) (fun _ _ _ h => h) (by rfl) (hS0) ?yaa5 ?raa5
    case yaa5 => intro w' h; (try dsimp only at h); go_simp; (try with_reducible rfl)
    try simp only [Act.put, sA, sB, sC]
    refine wpAnyE_twoC 3 6 (by kernel_rfl) rfl rfl ?wa1 ?wa2
    case wa1 =>
     intro K hK
     rw [if_pos (by rfl)]
     go_wp2_with fail
     refine hK.out _ _ (fun _ => hS _ (by (repeat (first | assumption | exact Only.refl _ _ | refine on_drew ?_ | refine on_alloc ?_ _)))) ?_
     clear hK K
     try simp only [Act.put, sA, sB, sC]
     refine wpAnyE_twoC 4 6 (by kernel_rfl) rfl rfl ?wa11 ?wa12
     case wa11 =>
      intro K hK
      rw [if_pos (by rfl)]
      go_wp2_with (go_at_call 73; refine (of_any W0 Rb a n cap f _ (p + 1) (by (repeat (first | assumption | refine rd_drew ?_ | refine rd_alloc ?_ _))) (by omega) (by omega) (some ⟨_, 0, none⟩) 3 foeA (strsAt_row foeA (by first | exact Row.drew (Row.new' (by first | rfl | simp)) | exact Row.new' (by first | rfl | simp))) (fun q hq => by obtain ⟨_, o, e⟩ := hq; cases e; (try simp); (try omega)) (by decide) (by decide)).mono ?_; rintro e Y ⟨⟨i, hi, rfl⟩, hr6, on6⟩; have onY : Only (fun q => q = Rb) X Y := Only.trans (by (repeat (first | assumption | exact Only.refl _ _ | refine on_drew ?_ | refine on_alloc ?_ _))) on6)
      refine hK.out _ _ (fun _ => hS _ onY) ?_
      clear hK K
      try simp only [Act.put, sA, sB, sC]
      have sj := gs_short foeA_short hi
      generalize gs foeA i = sa at sj ⊢
      have hRY := hr6.row.lt
      refine wpAnyE_oneC (i := 6) rfl (by kernel_rfl) ?_
      intro K hK
      rw [if_pos (by rfl)]
      go_wp2_with fail
      refine hK.out _ _ (fun _ => hS _ (by (repeat (first | assumption | exact Only.refl _ _ | refine on_drew ?_ | refine on_alloc ?_ _)))) ?_
      clear hK K
      try simp only [Act.put, sA, sB, sC]
      refine wpAnyE_oneC (i := 7) rfl (by kernel_rfl) ?_
      intro K hK
      rw [if_pos (by rfl)]
      go_wp2_with (go_at_call 73; refine (of_any W0 Rb a n cap f _ (p + 1 + 1) (by (repeat (first | assumption | refine rd_drew ?_ | refine rd_alloc ?_ _))) (by omega) (by omega) (some ⟨_, 0, none⟩) 2 foeB (strsAt_row foeB (by first | exact Row.drew (Row.new' (by first | rfl | simp)) | exact Row.new' (by first | rfl | simp))) (fun q hq => by obtain ⟨_, o, e⟩ := hq; cases e; (try simp); (try omega)) (by decide) (by decide)).mono ?_; rintro e Y1 ⟨⟨i1, hi1, rfl⟩, hr7, on7⟩; have onY1 : Only (fun q => q = Rb) X Y1 := Only.trans (by (repeat (first | assumption | exact Only.refl _ _ | refine on_drew ?_ | refine on_alloc ?_ _))) on7)
      refine hK.out _ _ (fun _ => hS _ onY1) ?_
      clear hK K
      try simp only [Act.put, sA, sB, sC]
      have sj1 := gs_short foeB_short hi1
      generalize gs foeB i1 = sb at sj1 ⊢
      have sk2 := sk.pick hr7 onY1
      have hSY : Sb < Y1.heap.size := sk2.row.lt
      have hOwn : ∀ W, Below Y1.heap.size Y1 W → OwnL W 70 2 d0 x.foes.length (foeF x.foes) ∧ CapX W 70 2 d0 x.foes.length k0 := fun W hb => ⟨sk2.own.foes.later hb, sk2.cf.later hb⟩
      refine tk 8 ?vaa118 rfl (by kernel_rfl) (fun _ _ _ h => h) (by rfl) (hS _ onY1) ?yaa118 ?raa118
      case yaa118 => intro w' h; (try dsimp only at h); go_simp; (try with_reducible rfl)
      try simp only [Act.put, sA, sB, sC]
      refine wpAnyE_oneC (i := 9) rfl (by kernel_rfl) ?_
      intro K hK
      rw [if_pos (by rfl)]
      go_wp2_with fail
      refine hK.out _ _ (fun _ => hS _ (on_alloc onY1 _)) ?_
      clear hK K
      try simp only [Act.put, sA, sB, sC]
      refine wpAnyE_oneC (i := 10) rfl (by kernel_rfl) ?_
      intro K hK
      refine step_append_x (by rfl) _ _ (by rfl) sliceFoe d0 x.foes.length k0 _ (by rfl) (hOwn _ (by (repeat (first | assumption | exact Below.refl _ _ | refine Below.drew ?_ | refine Below.alloc ?_ (by (try simp); (try omega)) _)))).1 (hOwn _ (by (repeat (first | assumption | exact Below.refl _ _ | refine Below.drew ?_ | refine Below.alloc ?_ (by (try simp); (try omega)) _)))).2 (some ⟨Y1.heap.size, 0, none⟩) 1 1 (foeF [⟨sa, sb⟩]) (by rfl) (foe_row (u := ⟨sa, sb⟩) (Row.new' (by simp))) (oneFoe _) (by omega) ?_
      intro a6 c6 w6 apd
      have hw5 : ∃ W5 : World, Below Y1.heap.size Y1 W5 ∧ AppX 70 2 W5 w6 d0 x.foes.length 1 (foeF x.foes) (foeF [⟨sa, sb⟩]) a6 c6 := ⟨_, (by (repeat (first | assumption | exact Below.refl _ _ | refine Below.drew ?_ | refine Below.alloc ?_ (by (try simp); (try omega)) _))), apd⟩
      clear apd
      obtain ⟨W5, hb5, apd⟩ := hw5
      have sk5 := sk2.later hb5
      have FN : Hid _ := sk5.foe (fo := ⟨sa, sb⟩) apd ⟨by show sa.size ≤ _; omega, by show sb.size ≤ _; omega⟩
      have r6 := sk5.row.only apd.only (fun hq => (sk5.lo Sb (Or.inl hq)).2 rfl)
      have f6 := r6.frozen 0
      have e6 : w6.cell? ⟨Sb, 0, none⟩ = some (.slice d0 x.foes.length k0) := r6.cell 0 rfl
      clear r6
      clear apd sk5 hOwn hb5 sk2
      refine hK.out _ _ (fun _ => e6) ?_
      clear hK K
      try simp only [Act.put, sA, sB, sC]
      refine tk 11 ?vaa1111 rfl (by kernel_rfl) (fun _ _ _ h => h) (by rfl) (e6) ?yaa1111 ?raa1111
      case yaa1111 => intro w' h; (try dsimp only at h); go_simp; (try with_reducible rfl)
      try simp only [Act.put, sA, sB, sC]
      refine wpAnyE_oneC (i := 12) rfl (by kernel_rfl) ?_
      intro K hK
      rw [if_pos (by rfl)]
      go_wp2_with fail
      refine hK.out _ _ (fun h => absurd rfl h) ?_
      clear hK K
      try simp only [Act.put, sA, sB, sC]
      refine wpAnyE_done (by kernel_rfl) ?_ _
      clear hS hS0 e6 f6
      go_wp2_with fail
      go_meet
      exact ⟨_, a6, d1, d2, d3, c6, k1, k2, k3, _, rfl, FN.out, by omega, by omega⟩
     case wa12 =>
      intro K hK
      rw [if_pos (by rfl)]
      go_wp2_with fail
      refine hK.out _ _ (fun _ => hS _ (by (repeat (first | assumption | exact Only.refl _ _ | refine on_drew ?_ | refine on_alloc ?_ _)))) ?_
      clear hK K
      try simp only [Act.put, sA, sB, sC]
      refine wpAnyE_oneC (i := 4) rfl (by kernel_rfl) ?_
      intro K hK
      rw [if_pos (by rfl)]
      go_wp2_with (go_at_call 73; refine (of_any W0 Rb a n cap f _ (p + 1) (by (repeat (first | assumption | refine rd_drew ?_ | refine rd_alloc ?_ _))) (by omega) (by omega) (some ⟨_, 0, none⟩) 3 foeA (strsAt_row foeA (by first | exact Row.drew (Row.alloc (Row.new' (by first | rfl | simp)) _) | exact Row.alloc (Row.new' (by first | rfl | simp)) _ | exact Row.alloc (Row.drew (Row.new' (by first | rfl | simp))) _)) (fun q hq => by obtain ⟨_, o, e⟩ := hq; cases e; (try simp); (try omega)) (by decide) (by decide)).mono ?_; rintro e Y ⟨⟨i, hi, rfl⟩, hr6, on6⟩; have onY : Only (fun q => q = Rb) X Y := Only.trans (by (repeat (first | assumption | exact Only.refl _ _ | refine on_drew ?_ | refine on_alloc ?_ _))) on6)
      refine hK.out _ _ (fun _ => hS _ onY) ?_
      clear hK K
      try simp only [Act.put, sA, sB, sC]
      have sj := gs_short foeA_short hi
      generalize gs foeA i = sa at sj ⊢
      have hRY := hr6.row.lt
      refine wpAnyE_oneC (i := 7) rfl (by kernel_rfl) ?_
      intro K hK
      rw [if_pos (by rfl)]
      go_wp2_with (go_at_call 73; refine (of_any W0 Rb a n cap f _ (p + 1 + 1) (by (repeat (first | assumption | refine rd_drew ?_ | refine rd_alloc ?_ _))) (by omega) (by omega) (some ⟨_, 0, none⟩) 2 foeB (strsAt_row foeB (by first | exact Row.only (Row.new' (by first | rfl | simp)) on6 (by omega) | exact Row.only (Row.drew (Row.new' (by first | rfl | simp))) on6 (by omega))) (fun q hq => by obtain ⟨_, o, e⟩ := hq; cases e; (try simp); (try omega)) (by decide) (by decide)).mono ?_; rintro e Y1 ⟨⟨i1, hi1, rfl⟩, hr7, on7⟩; have onY1 : Only (fun q => q = Rb) X Y1 := Only.trans (by (repeat (first | assumption | exact Only.refl _ _ | refine on_drew ?_ | refine on_alloc ?_ _))) on7)
      refine hK.out _ _ (fun _ => hS _ onY1) ?_
      clear hK K
      try simp only [Act.put, sA, sB, sC]
      have sj1 := gs_short foeB_short hi1
      generalize gs foeB i1 = sb at sj1 ⊢
      have sk2 := sk.pick hr7 onY1
      have hSY : Sb < Y1.heap.size := sk2.row.lt
      have hOwn : ∀ W, Below Y1.heap.size Y1 W → OwnL W 70 2 d0 x.foes.length (foeF x.foes) ∧ CapX W 70 2 d0 x.foes.length k0 := fun W hb => ⟨sk2.own.foes.later hb, sk2.cf.later hb⟩
      refine tk 8 ?vaa128 rfl (by kernel_rfl) (fun _ _ _ h => h) (by rfl) (hS _ onY1) ?yaa128 ?raa128
      case yaa128 => intro w' h; (try dsimp only at h); go_simp; (try with_reducible rfl)
      try simp only [Act.put, sA, sB, sC]
      refine wpAnyE_oneC (i := 9) rfl (by kernel_rfl) ?_
      intro K hK
      rw [if_pos (by rfl)]
      go_wp2_with fail
      refine hK.out _ _ (fun _ => hS _ (on_alloc onY1 _)) ?_
      clear hK K
      try simp only [Act.put, sA, sB, sC]
      refine wpAnyE_oneC (i := 10) rfl (by kernel_rfl) ?_
      intro K hK
      refine step_append_x (by rfl) _ _ (by rfl) sliceFoe d0 x.foes.length k0 _ (by rfl) (hOwn _ (by (repeat (first | assumption | exact Below.refl _ _ | refine Below.drew ?_ | refine Below.alloc ?_ (by (try simp); (try omega)) _)))).1 (hOwn _ (by (repeat (first | assumption | exact Below.refl _ _ | refine Below.drew ?_ | refine Below.alloc ?_ (by (try simp); (try omega)) _)))).2 (some ⟨Y1.heap.size, 0, none⟩) 1 1 (foeF [⟨sa, sb⟩]) (by rfl) (foe_row (u := ⟨sa, sb⟩) (Row.new' (by simp))) (oneFoe _) (by omega) ?_
      intro a6 c6 w6 apd
      have hw5 : ∃ W5 : World, Below Y1.heap.size Y1 W5 ∧ AppX 70 2 W5 w6 d0 x.foes.length 1 (foeF x.foes) (foeF [⟨sa, sb⟩]) a6 c6 := ⟨_, (by (repeat (first | assumption | exact Below.refl _ _ | refine Below.drew ?_ | refine Below.alloc ?_ (by (try simp); (try omega)) _))), apd⟩
      clear apd
      obtain ⟨W5, hb5, apd⟩ := hw5
      have sk5 := sk2.later hb5
      have FN : Hid _ := sk5.foe (fo := ⟨sa, sb⟩) apd ⟨by show sa.size ≤ _; omega, by show sb.size ≤ _; omega⟩
      have r6 := sk5.row.only apd.only (fun hq => (sk5.lo Sb (Or.inl hq)).2 rfl)
      have f6 := r6.frozen 0
      have e6 : w6.cell? ⟨Sb, 0, none⟩ = some (.slice d0 x.foes.length k0) := r6.cell 0 rfl
      clear r6
      clear apd sk5 hOwn hb5 sk2
      refine hK.out _ _ (fun _ => e6) ?_
      clear hK K
      try simp only [Act.put, sA, sB, sC]
      refine tk 11 ?vaa1211 rfl (by kernel_rfl) (fun _ _ _ h => h) (by rfl) (e6) ?yaa1211 ?raa1211
      case yaa1211 => intro w' h; (try dsimp only at h); go_simp; (try with_reducible rfl)
      try simp only [Act.put, sA, sB, sC]
      refine wpAnyE_oneC (i := 12) rfl (by kernel_rfl) ?_
      intro K hK
      rw [if_pos (by rfl)]
      go_wp2_with fail
      refine hK.out _ _ (fun h => absurd rfl h) ?_
      clear hK K
      try simp only [Act.put, sA, sB, sC]
      refine wpAnyE_done (by kernel_rfl) ?_ _
      clear hS hS0 e6 f6
      go_wp2_with fail
      go_meet
      exact ⟨_, a6, d1, d2, d3, c6, k1, k2, k3, _, rfl, FN.out, by omega, by omega⟩
    case wa2 =>
     intro K hK
     rw [if_pos (by rfl)]
     go_wp2_with fail
     refine hK.out _ _ (fun _ => hS _ (by (repeat (first | assumption | exact Only.refl _ _ | refine on_drew ?_ | refine on_alloc ?_ _)))) ?_
     clear hK K
     try simp only [Act.put, sA, sB, sC]
     refine wpAnyE_oneC (i := 3) rfl (by kernel_rfl) ?_
     intro K hK
     rw [if_pos (by rfl)]
     go_wp2_with fail
     refine hK.out _ _ (fun _ => hS _ (by (repeat (first | assumption | exact Only.refl _ _ | refine on_drew ?_ | refine on_alloc ?_ _)))) ?_
     clear hK K
     try simp only [Act.put, sA, sB, sC]
     refine wpAnyE_oneC (i := 4) rfl (by kernel_rfl) ?_
     intro K hK
     rw [if_pos (by rfl)]
     go_wp2_with (go_at_call 73; refine (of_any W0 Rb a n cap f _ (p + 1) (by (repeat (first | assumption | refine rd_drew ?_ | refine rd_alloc ?_ _))) (by omega) (by omega) (some ⟨_, 0, none⟩) 3 foeA (strsAt_row foeA (by first | exact Row.drew (Row.new' (by first | rfl | simp)) | exact Row.new' (by first | rfl | simp))) (fun q hq => by obtain ⟨_, o, e⟩ := hq; cases e; (try simp); (try omega)) (by decide) (by decide)).mono ?_; rintro e Y ⟨⟨i, hi, rfl⟩, hr6, on6⟩; have onY : Only (fun q => q = Rb) X Y := Only.trans (by (repeat (first | assumption | exact Only.refl _ _ | refine on_drew ?_ | refine on_alloc ?_ _))) on6)
     refine hK.out _ _ (fun _ => hS _ onY) ?_
     clear hK K
     try simp only [Act.put, sA, sB, sC]
     have sj := gs_short foeA_short hi
     generalize gs foeA i = sa at sj ⊢
     have hRY := hr6.row.lt
     refine wpAnyE_oneC (i := 7) rfl (by kernel_rfl) ?_
     intro K hK
     rw [if_pos (by rfl)]
     go_wp2_with (go_at_call 73; refine (of_any W0 Rb a n cap f _ (p + 1 + 1) (by (repeat (first | assumption | refine rd_drew ?_ | refine rd_alloc ?_ _))) (by omega) (by omega) (some ⟨_, 0, none⟩) 2 foeB (strsAt_row foeB (by first | exact Row.only (Row.alloc (Row.new' (by first | rfl | simp)) _) on6 (by omega) | exact Row.only (Row.drew (Row.alloc (Row.new' (by first | rfl | simp)) _)) on6 (by omega) | exact Row.only (Row.alloc (Row.drew (Row.new' (by first | rfl | simp))) _) on6 (by omega))) (fun q hq => by obtain ⟨_, o, e⟩ := hq; cases e; (try simp); (try omega)) (by decide) (by decide)).mono ?_; rintro e Y1 ⟨⟨i1, hi1, rfl⟩, hr7, on7⟩; have onY1 : Only (fun q => q = Rb) X Y1 := Only.trans (by (repeat (first | assumption | exact Only.refl _ _ | refine on_drew ?_ | refine on_alloc ?_ _))) on7)
     refine hK.out _ _ (fun _ => hS _ onY1) ?_
     clear hK K
     try simp only [Act.put, sA, sB, sC]
     have sj1 := gs_short foeB_short hi1
     generalize gs foeB i1 = sb at sj1 ⊢
     have sk2 := sk.pick hr7 onY1
     have hSY : Sb < Y1.heap.size := sk2.row.lt
     have hOwn : ∀ W, Below Y1.heap.size Y1 W → OwnL W 70 2 d0 x.foes.length (foeF x.foes) ∧ CapX W 70 2 d0 x.foes.length k0 := fun W hb => ⟨sk2.own.foes.later hb, sk2.cf.later hb⟩
     refine tk 8 ?vaa28 rfl (by kernel_rfl) (fun _ _ _ h => h) (by rfl) (hS _ onY1) ?yaa28 ?raa28
     case yaa28 => intro w' h; (try dsimp only at h); go_simp; (try with_reducible rfl)
     try simp only [Act.put, sA, sB, sC]
     refine wpAnyE_oneC (i := 9) rfl (by kernel_rfl) ?_
     intro K hK
     rw [if_pos (by rfl)]
     go_wp2_with fail
     refine hK.out _ _ (fun _ => hS _ (on_alloc onY1 _)) ?_
     clear hK K
     try simp only [Act.put, sA, sB, sC]
     refine wpAnyE_oneC (i := 10) rfl (by kernel_rfl) ?_
     intro K hK
     refine step_append_x (by rfl) _ _ (by rfl) sliceFoe d0 x.foes.length k0 _ (by rfl) (hOwn _ (by (repeat (first | assumption | exact Below.refl _ _ | refine Below.drew ?_ | refine Below.alloc ?_ (by (try simp); (try omega)) _)))).1 (hOwn _ (by (repeat (first | assumption | exact Below.refl _ _ | refine Below.drew ?_ | refine Below.alloc ?_ (by (try simp); (try omega)) _)))).2 (some ⟨Y1.heap.size, 0, none⟩) 1 1 (foeF [⟨sa, sb⟩]) (by rfl) (foe_row (u := ⟨sa, sb⟩) (Row.new' (by simp))) (oneFoe _) (by omega) ?_
     intro a6 c6 w6 apd
     have hw5 : ∃ W5 : World, Below Y1.heap.size Y1 W5 ∧ AppX 70 2 W5 w6 d0 x.foes.length 1 (foeF x.foes) (foeF [⟨sa, sb⟩]) a6 c6 := ⟨_, (by (repeat (first | assumption | exact Below.refl _ _ | refine Below.drew ?_ | refine Below.alloc ?_ (by (try simp); (try omega)) _))), apd⟩
     clear apd
     obtain ⟨W5, hb5, apd⟩ := hw5
     have sk5 := sk2.later hb5
     have FN : Hid _ := sk5.foe (fo := ⟨sa, sb⟩) apd ⟨by show sa.size ≤ _; omega, by show sb.size ≤ _; omega⟩
     have r6 := sk5.row.only apd.only (fun hq => (sk5.lo Sb (Or.inl hq)).2 rfl)
     have f6 := r6.frozen 0
     have e6 : w6.cell? ⟨Sb, 0, none⟩ = some (.slice d0 x.foes.length k0) := r6.cell 0 rfl
     clear r6
     clear apd sk5 hOwn hb5 sk2
     refine hK.out _ _ (fun _ => e6) ?_
     clear hK K
     try simp only [Act.put, sA, sB, sC]
     refine tk 11 ?vaa211 rfl (by kernel_rfl) (fun _ _ _ h => h) (by rfl) (e6) ?yaa211 ?raa211
     case yaa211 => intro w' h; (try dsimp only at h); go_simp; (try with_reducible rfl)
     try simp only [Act.put, sA, sB, sC]
     refine wpAnyE_oneC (i := 12) rfl (by kernel_rfl) ?_
     intro K hK
     rw [if_pos (by rfl)]
     go_wp2_with fail
     refine hK.out _ _ (fun h => absurd rfl h) ?_
     clear hK K
     try simp only [Act.put, sA, sB, sC]
     refine wpAnyE_done (by kernel_rfl) ?_ _
     clear hS hS0 e6 f6
     go_wp2_with fail
     go_meet
     exact ⟨_, a6, d1, d2, d3, c6, k1, k2, k3, _, rfl, FN.out, by omega, by omega⟩
  · obtain ⟨W2, hW2⟩ : ∃ W, W = X.alloc (.cells #[.int .i64 (-1), .int .i64 0, .int .i64 1000000, .int .i64 1000001] 3) := ⟨_, rfl⟩
    have b2 : Below X.heap.size X W2 := by rw [hW2]; exact (Below.refl _ _).alloc (Nat.le_refl _) _
    have i2 : Row W2 X.heap.size 3 [.int .i64 (-1), .int .i64 0, .int .i64 1000000, .int .i64 1000001] := by rw [hW2]; exact Row.new _ _ _
    have sk2 := sk.later b2
    clear sk b2
    go_wp2_with fail
    rw [← hW2]
    clear hW2
    refine (pick_any W0 Rb a n cap f W2 (p + 1) 4 sk2.rd (by omega) (by omega)).mono ?_
    rintro e Y ⟨⟨u, rfl, hu0, hu1⟩, hr1, on1⟩
    have i3 := i2.only on1 (by omega)
    have c0' := i3.cell 0 rfl
    have c1' := i3.cell 1 rfl
    have c2' := i3.cell 2 rfl
    have c3' := i3.cell 3 rfl
    have sk3 := sk2.pick hr1 on1
    have e0 : Y.cell? ⟨Sb, 4, none⟩ = some (.int .i64 x.seen) := sk3.row.cell 4 rfl
    have e0f := sk3.row.frozen 4
    have FIN : ∀ v, Hid (FkAt W0 Rb a n cap f W1 Sb (Y.setCell ⟨Sb, 4, none⟩ (.int .i64 v)) (p + 1 + 1) ⟨x.foes, x.spots, x.valves, x.parts, v⟩ d0 d1 d2 d3 k0 k1 k2 k3) := fun v => sk3.seen v
    have hu4 : u = 0 ∨ u = 1 ∨ u = 2 ∨ u = 3 := by omega
    clear hu0 hu1 sk2 sk3 hr1 on1 i2 i3
    rcases hu4 with rfl | rfl | rfl | rfl
    all_goals
     go_wp2_with fail
     go_meet
     exact ⟨_, d0, d1, d2, d3, k0, k1, k2, k3, _, rfl, (FIN _).out, by omega, by omega⟩
  · have hS : ∀ W, Only (fun q => q = Rb) X W → W.cell? ⟨Sb, 2, none⟩ = some (.slice d2 x.valves.length k2) := fun W hb => cell_only hb (sk.row.cell 2 rfl) hSX (by omega)
    have hS0 := hS X (Only.refl _ _)
    have rX := sk.rd
    go_wp2_with fail
    refine wp_region_E (fun W => W.cell? ⟨Sb, 2, none⟩ = some (.slice d2 x.valves.length k2)) 8 (by kernel_rfl) ?_
    refine tk 0 ?vab0 rfl (by kernel_rfl) (fun _ _ _ h => h) (by rfl) (hS0) ?yab0 ?rab0
    case yab0 => intro w' h; (try dsimp only at h); go_simp; (try with_reducible rfl)
    try simp only [Act.put, sA, sB, sC]
    refine tk 1 ?vab1 rfl (by kernel_rfl) (fun _ _ _ h => h) (by rfl) (hS0) ?yab1 ?rab1
    case yab1 => intro w' h; (try dsimp only at h); go_simp; (try with_reducible rfl)
    try simp only [Act.put, sA, sB, sC]
    refine tk 2 ?vab2 rfl (by kernel_rfl) (fun _ _ _ h => h) (by rfl) (hS0) ?yab2 ?rab2
    case yab2 => intro w' h; (try dsimp only at h); go_simp; (try with_reducible rfl)
    try simp only [Act.put, sA, sB, sC]
    refine wpAnyE_oneC (i := 3) rfl (by kernel_rfl) ?_
    intro K hK
    rw [if_pos (by rfl)]
    go_wp2_with fail
    refine hK.out _ _ (fun _ => hS _ (by (repeat (first | assumption | exact Only.refl _ _ | refine on_drew ?_ | refine on_alloc ?_ _)))) ?_
    clear hK K
    try simp only [Act.put, sA, sB, sC]
    refine wpAnyE_oneC (i := 4) rfl (by kernel_rfl) ?_
    intro K hK
    rw [if_pos (by rfl)]
    go_wp2_with (go_at_call 73; refine (of_any W0 Rb a n cap f _ (p + 1) (by (repeat (first | assumption | refine rd_drew ?_ | refine rd_alloc ?_ _))) (by omega) (by omega) (some ⟨_, 0, none⟩) 3 spoilTurns (strsAt_row spoilTurns (by first | exact Row.drew (Row.new' (by first | rfl | simp)) | exact Row.new' (by first | rfl | simp))) (fun q hq => by obtain ⟨_, o, e⟩ := hq; cases e; (try simp); (try omega)) (by decide) (by decide)).mono ?_; rintro e Y ⟨⟨i, hi, rfl⟩, hr6, on6⟩; have onY : Only (fun q => q = Rb) X Y := Only.trans (by (repeat (first | assumption | exact Only.refl _ _ | refine on_drew ?_ | refine on_alloc ?_ _))) on6)
    refine hK.out _ _ (fun _ => hS _ onY) ?_
    clear hK K
    try simp only [Act.put, sA, sB, sC]
    have sj := gs_short spoilTurns_short hi
    generalize gs spoilTurns i = sn at sj ⊢
    have sk2 := sk.pick hr6 onY
    have hSY : Sb < Y.heap.size := sk2.row.lt
    have hOwn : ∀ W, Below Y.heap.size Y W → OwnL W 9 1 d2 x.valves.length (strF x.valves) ∧ CapX W 9 1 d2 x.valves.length k2 := fun W hb => ⟨sk2.own.valves.later hb, sk2.cv.later hb⟩
    refine wpAnyE_oneC (i := 5) rfl (by kernel_rfl) ?_
    intro K hK
    rw [if_pos (by rfl)]
    go_wp2_with fail
    refine hK.out _ _ (fun _ => hS _ (on_alloc onY _)) ?_
    clear hK K
    try simp only [Act.put, sA, sB, sC]
    refine wpAnyE_oneC (i := 6) rfl (by kernel_rfl) ?_
    intro K hK
    refine step_append_x (by rfl) _ _ (by rfl) sliceStr d2 x.valves.length k2 _ (by rfl) (hOwn _ (by (repeat (first | assumption | exact Below.refl _ _ | refine Below.drew ?_ | refine Below.alloc ?_ (by (try simp); (try omega)) _)))).1 (hOwn _ (by (repeat (first | assumption | exact Below.refl _ _ | refine Below.drew ?_ | refine Below.alloc ?_ (by (try simp); (try omega)) _)))).2 (some ⟨Y.heap.size, 0, none⟩) 1 1 (fun _ _ => .string sn) (by rfl) (rowAt_one (t := 9) (Row.new' (by simp))) (fun _ _ => rfl) (by omega) ?_
    intro a6 c6 w6 apd
    have hw5 : ∃ W5 : World, Below Y.heap.size Y W5 ∧ AppX 9 1 W5 w6 d2 x.valves.length 1 (strF x.valves) (fun _ _ => .string sn) a6 c6 := ⟨_, (by (repeat (first | assumption | exact Below.refl _ _ | refine Below.drew ?_ | refine Below.alloc ?_ (by (try simp); (try omega)) _))), apd⟩
    clear apd
    obtain ⟨W5, hb5, apd⟩ := hw5
    have sk5 := sk2.later hb5
    have FN : Hid _ := sk5.valve apd (by omega)
    have r6 := sk5.row.only apd.only (fun hq => (sk5.lo Sb (Or.inr (Or.inr (Or.inl hq)))).2 rfl)
    have f6 := r6.frozen 2
    have e6 : w6.cell? ⟨Sb, 2, none⟩ = some (.slice d2 x.valves.length k2) := r6.cell 2 rfl
    clear r6
    clear apd sk5 hOwn hb5 sk2
    refine hK.out _ _ (fun _ => e6) ?_
    clear hK K
    try simp only [Act.put, sA, sB, sC]
    refine tk 7 ?vab7 rfl (by kernel_rfl) (fun _ _ _ h => h) (by rfl) (e6) ?yab7 ?rab7
    case yab7 => intro w' h; (try dsimp only at h); go_simp; (try with_reducible rfl)
    try simp only [Act.put, sA, sB, sC]
    refine wpAnyE_oneC (i := 8) rfl (by kernel_rfl) ?_
    intro K hK
    rw [if_pos (by rfl)]
    go_wp2_with fail
    refine hK.out _ _ (fun h => absurd rfl h) ?_
    clear hK K
    try simp only [Act.put, sA, sB, sC]
    refine wpAnyE_done (by kernel_rfl) ?_ _
    clear hS hS0 e6 f6
    go_wp2_with fail
    go_meet
    exact ⟨_, d0, d1, a6, d3, k0, k1, c6, k3, _, rfl, FN.out, by omega, by omega⟩
  · exact l5Spoil_spots W0 Rb a n cap f w p h0 h1 x af ap av aq cf cp cv cq hT W1 Sb d0 d1 d2 d3 k0 k1 k2 k3 A1 C1 A2 C2 X _ hv34 sk rfl _ _ _ (by assumption) (by assumption)
  · have g1' : X.cell? ⟨Sb, 3, none⟩ = some (.slice d3 x.parts.length k3) := sk.row.cell 3 rfl
    by_cases hu : 0 < x.parts.length
    · have hu2 : (0 : Int) < x.parts.length := by omega
      obtain ⟨b3, hb3'⟩ : ∃ b, d3 = some ⟨b, 0, none⟩ := by
       rcases sk.own.parts.row with h' | ⟨b, l, hb, -⟩
       · omega
       · exact ⟨b, hb⟩
      subst hb3'
      go_wp2_with fail
      refine (pick_any W0 Rb a n cap f X (p + 1) _ sk.rd (by omega) (by omega)).mono ?_
      rintro e Y ⟨⟨v6, rfl, hv60, hv61⟩, hr6, on6⟩
      obtain ⟨j, rfl⟩ : ∃ j : Nat, v6 = j := ⟨v6.toNat, by omega⟩
      have hj : j < x.parts.length := by omega
      have hj2 : (j : Int) < x.parts.length := by omega
      have sk1 := sk.pick hr6 on6
      clear sk hr6 on6 hv60 hv61 g1'
      go_wp2_with fail
      refine (pick_any W0 Rb a n cap f Y (p + 1 + 1) 2 sk1.rd (by omega) (by omega)).mono ?_
      clear hSX hRX
      rintro e X ⟨⟨v9, rfl, hv90, hv91⟩, hr6, on6⟩
      have sk := sk1.pick hr6 on6
      clear sk1 hr6 on6
      have hSX : Sb < X.heap.size := sk.row.lt
      have hRX := sk.rd.row.lt
      have hb3 : b3 < X.heap.size := sk.own.parts.row.lt ⟨by omega, 0, rfl⟩
      have hb3R : ¬ b3 = Rb := by have := (sk.lo b3 (Or.inr (Or.inr (Or.inr (Or.inl ⟨by omega, 0, rfl⟩))))).1; omega
      have g1' : X.cell? ⟨Sb, 3, none⟩ = some (.slice (some ⟨b3, 0, none⟩) x.parts.length k3) := sk.row.cell 3 rfl
      have q0 : X.cell? ⟨b3, j * 7, none⟩ = some (.int .i64 (gq x.parts j).want.number) := (sk.own.parts.row.cell 0 hj (by omega)).1
      have q1 : X.cell? ⟨b3, j * 7 + 1, none⟩ = some (.int .i64 (gq x.parts j).want.kind) := (sk.own.parts.row.cell 1 hj (by omega)).1
      have q2 : X.cell? ⟨b3, j * 7 + 2, none⟩ = some (.slice (A2 j 0) (gq x.parts j).want.stuffs.length (C2 j 0)) := (sk.own.parts.row.cell 2 hj (by omega)).1
      have q3 : X.cell? ⟨b3, j * 7 + 3, none⟩ = some (.slice (A2 j 1) (gq x.parts j).want.uses.length (C2 j 1)) := (sk.own.parts.row.cell 3 hj (by omega)).1
      have q4 : X.cell? ⟨b3, j * 7 + 4, none⟩ = some (.slice (A2 j 2) (gq x.parts j).want.opens.length (C2 j 2)) := (sk.own.parts.row.cell 4 hj (by omega)).1
      have q5 : X.cell? ⟨b3, j * 7 + 5, none⟩ = some (.slice (A2 j 3) (gq x.parts j).want.shuts.length (C2 j 3)) := (sk.own.parts.row.cell 5 hj (by omega)).1
      have q6 : X.cell? ⟨b3, j * 7 + 6, none⟩ = some (.bool (gq x.parts j).stopped) := (sk.own.parts.row.cell 6 hj (by omega)).1
      have hv2 : v9 = 0 ∨ v9 = 1 := by omega
      clear hv90 hv91
      rcases hv2 with rfl | rfl
      · have hS : ∀ W, Only (fun q => q = Rb) X W → W.cell? ⟨Sb, 3, none⟩ = some (.slice (some ⟨b3, 0, none⟩) x.parts.length k3) := fun W hb => cell_only hb g1' hSX (by omega)
        have hS0 := hS X (Only.refl _ _)
        have hOwn : ∀ W, Below X.heap.size X W → OwnL W 61 7 (some ⟨b3, 0, none⟩) x.parts.length (fun k => partCell (gq x.parts k) (fun f => A2 k (f - 2)) (fun f => C2 k (f - 2))) ∧ CapX W 61 7 (some ⟨b3, 0, none⟩) x.parts.length k3 := fun W hb => ⟨sk.own.parts.row.later hb, sk.cp.later hb⟩
        go_wp2_with fail
        refine wp_region_E (fun W => W.cell? ⟨Sb, 3, none⟩ = some (.slice (some ⟨b3, 0, none⟩) x.parts.length k3)) 10 (by kernel_rfl) ?_
        refine tk 0 ?vah0 rfl (by kernel_rfl) (fun _ _ _ h => h) (by rfl) (hS0) ?yah0 ?rah0
        case yah0 => intro w' h; (try dsimp only at h); go_simp; (try with_reducible rfl)
        try simp only [Act.put, sA, sB, sC]
        refine tk 1 ?vah1 rfl (by kernel_rfl) (fun _ _ _ h => h) (by rfl) (hS0) ?yah1 ?rah1
        case yah1 => intro w' h; (try dsimp only at h); go_simp; (try with_reducible rfl)
        try simp only [Act.put, sA, sB, sC]
        refine tk 2 ?vah2 rfl (by kernel_rfl) (fun _ _ _ h => h) (by rfl) (hS0) ?yah2 ?rah2
        case yah2 => intro w' h; (try dsimp only at h); go_simp; (try with_reducible rfl)
        try simp only [Act.put, sA, sB, sC]
        refine tk 3 ?vah3 rfl (by kernel_rfl) (fun _ _ _ h => h) (by rfl) (hS0) ?yah3 ?rah3
        case yah3 => intro w' h; (try dsimp only at h); go_simp; (try with_reducible rfl)
        try simp only [Act.put, sA, sB, sC]
        refine tk 4 ?vah4 rfl (by kernel_rfl) (fun _ _ _ h => h) (by rfl) (hS0) ?yah4 ?rah4
        case yah4 => intro w' h; (try dsimp only at h); go_simp; (try with_reducible rfl)
        try simp only [Act.put, sA, sB, sC]
        refine tk 5 ?vah5 rfl (by kernel_rfl) (fun _ _ _ h => h) (by rfl) (hS0) ?yah5 ?rah5
        case yah5 => intro w' h; (try dsimp only at h); go_simp; (try with_reducible rfl)
        try simp only [Act.put, sA, sB, sC]
        refine wpAnyE_oneC (i := 6) rfl (by kernel_rfl) ?_
        intro K hK
        rw [if_pos (by rfl)]
        go_wp2_with fail
        refine hK.out _ _ (fun _ => hS _ (by (repeat (first | assumption | exact Only.refl _ _ | refine on_drew ?_ | refine on_alloc ?_ _)))) ?_
        clear hK K
        try simp only [Act.put, sA, sB, sC]
        refine wpAnyE_oneC (i := 7) rfl (by kernel_rfl) ?_
        intro K hK
        rw [if_pos (by rfl)]
        go_wp2_with fail
        refine hK.out _ _ (fun _ => hS _ (by (repeat (first | assumption | exact Only.refl _ _ | refine on_drew ?_ | refine on_alloc ?_ _)))) ?_
        clear hK K
        try simp only [Act.put, sA, sB, sC]
        refine wpAnyE_oneC (i := 8) rfl (by kernel_rfl) ?_
        intro K hK
        refine step_append_x (by rfl) _ _ (by rfl) slicePart (some ⟨b3, 0, none⟩) x.parts.length k3 _ (by rfl) (hOwn _ (by (repeat (first | assumption | exact Below.refl _ _ | refine Below.drew ?_ | refine Below.alloc ?_ (by (try simp); (try omega)) _)))).1 (hOwn _ (by (repeat (first | assumption | exact Below.refl _ _ | refine Below.drew ?_ | refine Below.alloc ?_ (by (try simp); (try omega)) _)))).2 (some ⟨X.heap.size, 0, none⟩) 1 1 (fun _ => partCell (gq x.parts j) (fun f => A2 j (f - 2)) (fun f => C2 j (f - 2))) (by rfl) (rowAt_first (Row.new' (by simp))) (fun _ j => onePart _ _ _ j) (by omega) ?_
        intro a6 c6 w6 apd
        have hw5 : ∃ W5 : World, Below X.heap.size X W5 ∧ AppX 61 7 W5 w6 (some ⟨b3, 0, none⟩) x.parts.length 1 (fun k => partCell (gq x.parts k) (fun f => A2 k (f - 2)) (fun f => C2 k (f - 2))) (fun _ => partCell (gq x.parts j) (fun f => A2 j (f - 2)) (fun f => C2 j (f - 2))) a6 c6 := ⟨_, (by (repeat (first | assumption | exact Below.refl _ _ | refine Below.drew ?_ | refine Below.alloc ?_ (by (try simp); (try omega)) _))), apd⟩
        clear apd
        obtain ⟨W5, hb5, apd⟩ := hw5
        have sk5 := sk.later hb5
        have FN : Hid _ := sk5.part hj apd
        have r6 := sk5.row.only apd.only (fun hq => (sk5.lo Sb (Or.inr (Or.inr (Or.inr (Or.inl hq))))).2 rfl)
        have f6 := r6.frozen 3
        have e6 : w6.cell? ⟨Sb, 3, none⟩ = some (.slice (some ⟨b3, 0, none⟩) x.parts.length k3) := r6.cell 3 rfl
        clear r6
        clear apd sk5 hOwn hb5 sk
        refine hK.out _ _ (fun _ => e6) ?_
        clear hK K
        try simp only [Act.put, sA, sB, sC]
        refine tk 9 ?vah9 rfl (by kernel_rfl) (fun _ _ _ h => h) (by rfl) (e6) ?yah9 ?rah9
        case yah9 => intro w' h; (try dsimp only at h); go_simp; (try with_reducible rfl)
        try simp only [Act.put, sA, sB, sC]
        refine wpAnyE_oneC (i := 10) rfl (by kernel_rfl) ?_
        intro K hK
        rw [if_pos (by rfl)]
        go_wp2_with fail
        refine hK.out _ _ (fun h => absurd rfl h) ?_
        clear hK K
        try simp only [Act.put, sA, sB, sC]
        refine wpAnyE_done (by kernel_rfl) ?_ _
        clear hS hS0 e6 f6
        go_wp2_with fail
        go_meet
        exact ⟨_, d0, d1, d2, a6, k0, k1, k2, c6, _, rfl, FN.out, by omega, by omega⟩
      · have hS : ∀ W, Only (fun q => q = Rb) X W → (W.cell? ⟨Sb, 3, none⟩ = some (.slice (some ⟨b3, 0, none⟩) x.parts.length k3) ∧ W.cell? ⟨b3, j * 7, none⟩ = some (.int .i64 (gq x.parts j).want.number) ∧ W.cell? ⟨b3, j * 7 + 1, none⟩ = some (.int .i64 (gq x.parts j).want.kind) ∧ W.cell? ⟨b3, j * 7 + 2, none⟩ = some (.slice (A2 j 0) (gq x.parts j).want.stuffs.length (C2 j 0)) ∧ W.cell? ⟨b3, j * 7 + 3, none⟩ = some (.slice (A2 j 1) (gq x.parts j).want.uses.length (C2 j 1)) ∧ W.cell? ⟨b3, j * 7 + 4, none⟩ = some (.slice (A2 j 2) (gq x.parts j).want.opens.length (C2 j 2)) ∧ W.cell? ⟨b3, j * 7 + 5, none⟩ = some (.slice (A2 j 3) (gq x.parts j).want.shuts.length (C2 j 3))) := fun W hb => ⟨cell_only hb g1' hSX (by omega), cell_only hb q0 hb3 hb3R, cell_only hb q1 hb3 hb3R, cell_only hb q2 hb3 hb3R, cell_only hb q3 hb3 hb3R, cell_only hb q4 hb3 hb3R, cell_only hb q5 hb3 hb3R⟩
        have hS0 := hS X (Only.refl _ _)
        have hin2 := (sk.own.parts.drw (B := W1.heap.size) (fun q hq => (sk.lo q (Or.inr (Or.inr (Or.inr hq)))).1) hj).in_
        have tw := hT.parts.2 _ (gq_mem hj)
        have rX := sk.rd
        have hSP : ∀ W, Below X.heap.size X W → Calls Tryz.prog 119 #[.pointer (some ⟨Rb, 0, none⟩), .agg #[.int .i64 (gq x.parts j).want.number, .int .i64 (gq x.parts j).want.kind, .slice (A2 j 0) (gq x.parts j).want.stuffs.length (C2 j 0), .slice (A2 j 1) (gq x.parts j).want.uses.length (C2 j 1), .slice (A2 j 2) (gq x.parts j).want.opens.length (C2 j 2), .slice (A2 j 3) (gq x.parts j).want.shuts.length (C2 j 3)]] W fun e w' => WantOf W0 Rb a n cap f 30000 W.heap.size (p + 1 + 1 + 1) 10 e w' ∧ Only (fun q => q = Rb) W w' := fun W hb =>
         l5SpoilWant_any W0 Rb a n cap f W (p + 1 + 1 + 1) (rX.later hb) (by omega) (by omega) (gq x.parts j).want (A2 j 0) (A2 j 1) (A2 j 2) (A2 j 3) (C2 j 0) (C2 j 1) (C2 j 2) (C2 j 3) (hin2.later hb) tw.short (tw.roomW.mono (by omega))
        clear hin2 tw
        go_wp2_with fail
        refine wp_region_E (fun W => W.cell? ⟨Sb, 3, none⟩ = some (.slice (some ⟨b3, 0, none⟩) x.parts.length k3) ∧ W.cell? ⟨b3, j * 7, none⟩ = some (.int .i64 (gq x.parts j).want.number) ∧ W.cell? ⟨b3, j * 7 + 1, none⟩ = some (.int .i64 (gq x.parts j).want.kind) ∧ W.cell? ⟨b3, j * 7 + 2, none⟩ = some (.slice (A2 j 0) (gq x.parts j).want.stuffs.length (C2 j 0)) ∧ W.cell? ⟨b3, j * 7 + 3, none⟩ = some (.slice (A2 j 1) (gq x.parts j).want.uses.length (C2 j 1)) ∧ W.cell? ⟨b3, j * 7 + 4, none⟩ = some (.slice (A2 j 2) (gq x.parts j).want.opens.length (C2 j 2)) ∧ W.cell? ⟨b3, j * 7 + 5, none⟩ = some (.slice (A2 j 3) (gq x.parts j).want.shuts.length (C2 j 3))) 13 (by kernel_rfl) ?_
        refine tk 0 ?vai0 rfl (by kernel_rfl) (fun _ _ _ h => h) (by rfl) (hS0) ?yai0 ?rai0
        case yai0 => intro w' h; (try dsimp only at h); go_simp; (try with_reducible rfl)
        try simp only [Act.put, sA, sB, sC]
        refine tk 1 ?vai1 rfl (by kernel_rfl) (fun _ _ _ h => h) (by rfl) (hS0) ?yai1 ?rai1
        case yai1 => intro w' h; (try dsimp only at h); go_simp; (try with_reducible rfl)
        try simp only [Act.put, sA, sB, sC]
        refine tk 2 ?vai2 rfl (by kernel_rfl) (fun _ _ _ h => h) (by rfl) (hS0) ?yai2 ?rai2
        case yai2 => intro w' h; (try dsimp only at h); go_simp; (try with_reducible rfl)
        try simp only [Act.put, sA, sB, sC]
        refine tk 3 ?vai3 rfl (by kernel_rfl) (fun _ _ _ h => h) (by rfl) (hS0) ?yai3 ?rai3
        case yai3 => intro w' h; (try dsimp only at h); go_simp; (try with_reducible rfl)
        try simp only [Act.put, sA, sB, sC]
        refine tk 4 ?vai4 rfl (by kernel_rfl) (fun _ _ _ h => h) (by rfl) (hS0) ?yai4 ?rai4
        case yai4 => intro w' h; (try dsimp only at h); go_simp; (try with_reducible rfl)
        try simp only [Act.put, sA, sB, sC]
        refine tk 5 ?vai5 rfl (by kernel_rfl) (fun _ _ _ h => h) (by rfl) (hS0) ?yai5 ?rai5
        case yai5 => intro w' h; (try dsimp only at h); go_simp; (try with_reducible rfl)
        try simp only [Act.put, sA, sB, sC]
        refine tk 6 ?vai6 rfl (by kernel_rfl) (fun _ _ _ h => h) (by rfl) (hS0) ?yai6 ?rai6
        case yai6 => intro w' h; (try dsimp only at h); go_simp; (try with_reducible rfl)
        try simp only [Act.put, sA, sB, sC]
        refine tk 7 ?vai7 rfl (by kernel_rfl) (fun _ _ _ h => h) (by rfl) (hS0) ?yai7 ?rai7
        case yai7 => intro w' h; (try dsimp only at h); go_simp; (try with_reducible rfl)
        try simp only [Act.put, sA, sB, sC]
        refine tk 8 ?vai8 rfl (by kernel_rfl) (fun _ _ _ h => h) (by rfl) (hS0) ?yai8 ?rai8
        case yai8 => intro w' h; (try dsimp only at h); go_simp; (try with_reducible rfl)
        try simp only [Act.put, sA, sB, sC]
        refine tk 9 ?vai9 rfl (by kernel_rfl) (fun _ _ _ h => h) (by rfl) (hS0) ?yai9 ?rai9
        case yai9 => intro w' h; (try dsimp only at h); go_simp; (try with_reducible rfl)
        try simp only [Act.put, sA, sB, sC]
        refine wpAnyE_oneC (i := 10) rfl (by kernel_rfl) ?_
        intro K hK
        rw [if_pos (by rfl)]
        go_wp2_with (go_at_call 119; refine (hSP _ (by (repeat (first | assumption | exact Below.refl _ _ | refine Below.drew ?_ | refine Below.alloc ?_ (by (try simp); (try omega)) _)))).mono ?_; rintro e Y ⟨⟨y', e2, e3, e4, e5, l2, l3, l4, l5, p', rfl, dw, hsh, hrm, hp1, hp2, hr⟩, on⟩; have onY : Only (fun q => q = Rb) X Y := Only.trans (by (repeat (first | assumption | exact Only.refl _ _ | refine on_drew ?_ | refine on_alloc ?_ _))) on; have dw' : DrW X.heap.size Y y' e2 e3 e4 e5 := dw.mono (by first | exact Nat.le_refl _ | exact Only.size (by (repeat (first | assumption | exact Only.refl _ _ | refine on_drew ?_ | refine on_alloc ?_ _)))); unfold wantW)
        refine hK.out _ _ (fun _ => hS _ onY) ?_
        clear hK K
        try simp only [Act.put, sA, sB, sC]
        have sk2 := sk.pick hr onY
        have FN : Hid _ := sk2.want (c2 := l2) (c3 := l3) (c4 := l4) (c5 := l5) rfl hj (dw'.mono sk.on.size) (fun q hq => by rcases hq with hq | hq | hq | hq; exact Nat.ne_of_gt (Nat.lt_of_lt_of_le hb3 (dw'.f2 q hq)); exact Nat.ne_of_gt (Nat.lt_of_lt_of_le hb3 (dw'.f3 q hq)); exact Nat.ne_of_gt (Nat.lt_of_lt_of_le hb3 (dw'.f4 q hq)); exact Nat.ne_of_gt (Nat.lt_of_lt_of_le hb3 (dw'.f5 q hq))) hsh hrm
        have hSY := hS Y onY
        have f0 : Y.frozen? ⟨b3, j * 7, none⟩ = false := (sk2.own.parts.row.cell 0 hj (by omega)).2.1
        have f1 : Y.frozen? ⟨b3, j * 7 + 1, none⟩ = false := (sk2.own.parts.row.cell 1 hj (by omega)).2.1
        have f2 : Y.frozen? ⟨b3, j * 7 + 2, none⟩ = false := (sk2.own.parts.row.cell 2 hj (by omega)).2.1
        have f3 : Y.frozen? ⟨b3, j * 7 + 3, none⟩ = false := (sk2.own.parts.row.cell 3 hj (by omega)).2.1
        have f4 : Y.frozen? ⟨b3, j * 7 + 4, none⟩ = false := (sk2.own.parts.row.cell 4 hj (by omega)).2.1
        have f5 : Y.frozen? ⟨b3, j * 7 + 5, none⟩ = false := (sk2.own.parts.row.cell 5 hj (by omega)).2.1
        clear sk2 dw dw' hsh hrm
        refine wpAnyE_oneC (i := 11) rfl (by kernel_rfl) ?_
        intro K hK
        rw [if_pos (by rfl)]
        go_wp2_with fail
        refine hK.out _ _ (fun _ => hS _ onY) ?_
        clear hK K
        try simp only [Act.put, sA, sB, sC]
        refine tk 12 ?vai12 rfl (by kernel_rfl) (fun _ _ _ h => h) (by rfl) (hS _ onY) ?yai12 ?rai12
        case yai12 => intro w' h; (try dsimp only at h); go_simp; (try with_reducible rfl)
        try simp only [Act.put, sA, sB, sC]
        refine wpAnyE_oneC (i := 13) rfl (by kernel_rfl) ?_
        intro K hK
        rw [if_pos (by rfl)]
        go_wp2_with fail
        refine hK.out _ _ (fun h => absurd rfl h) ?_
        clear hK K
        try simp only [Act.put, sA, sB, sC]
        refine wpAnyE_done (by kernel_rfl) ?_ _
        clear hS hS0 hSY hSP f0 f1 f2 f3 f4 f5 q0 q1 q2 q3 q4 q5 q6
        go_wp2_with fail
        go_meet
        exact ⟨_, d0, d1, d2, some ⟨b3, 0, none⟩, k0, k1, k2, k3, _, rfl, FN.out, by omega, by omega⟩
    · have hu2 : ¬ (0 : Int) < x.parts.length := by omega
      have FN : Hid _ := sk.done
      clear sk
      go_wp2_with fail
      go_meet
      exact ⟨x, d0, d1, d2, d3, k0, k1, k2, k3, _, rfl, FN.out, by omega, by omega⟩

end Go.Proofs.YtfmhkicncgccjaaGreat

