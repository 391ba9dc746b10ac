/- Joined: DrS3. -/
import Derived.Test.YtfmhkicncgccjaaGreatFm06
import Derived.Test.YtfmhkicncgccjaaGreatFm44
/- What l5Spoil answers: a spot is spoilt. -/
namespace Go.Proofs.YtfmhkicncgccjaaGreat
open Go.RowKit Go.Sort
set_option linter.unusedSimpArgs false
set_option linter.unusedVariables false

set_option maxRecDepth 100000 in
set_option maxHeartbeats 8000000 in
theorem l5Spoil_spots (W0 : World) (Rb : Nat) (a : Option Addr) (n cap : Nat) (f : Nat → Nat) (w : World) (p : Int) (h0 : 0 ≤ p) (h1 : p ≤ 800000000) (x : Book) (af ap av aq : Option Addr) (cf cp cv cq : Nat) (hT : Tiny x) (W1 : World) (Sb : Nat) (d0 d1 d2 d3 : Option Addr) (k0 k1 k2 k3 : Nat) (A1 : Nat → Option Addr) (C1 : Nat → Nat) (A2 : Nat → Nat → Option Addr) (C2 : Nat → Nat → Nat) (X : World) (v : Int) (hv34 : v = 3 ∨ v = 4)
 (sk : SkAt W0 Rb a n cap f W1 Sb x d0 d1 d2 d3 k0 k1 k2 k3 A1 C1 A2 C2 X (p + 1)) {r0 r1 r2 rE blk : Code} (hc : Tryz.f72.body = some (.seq r0 (.seq r1 (.seq (.seq r2 blk) rE)))) (J K : Act → World → Prop) (E : Ending → World → Prop) (hJ : ∀ a' w', SpR W0 Rb a n cap f w p x af ap av aq cf cp cv cq W1 Sb v a' w' → J a' w') (hM : ∀ a' w', Met J a' w' → K a' w') :
 Code.wp Tryz.prog blk (Exit.then K (bodyPost Tryz.prog Tryz.f72 E)) ⟨#[.pointer (some ⟨Rb, 0, none⟩), .agg #[.slice af x.foes.length cf, .slice ap x.spots.length cp, .slice av x.valves.length cv, .slice aq x.parts.length cq, .int .i64 x.seen], undef, .pointer (some ⟨w.heap.size, 0, none⟩), .pointer (some ⟨w.heap.size + 1, 0, none⟩), .pointer (some ⟨Sb, 0, none⟩), undef, undef, .agg #[.slice af x.foes.length cf, .slice ap x.spots.length cp, .slice av x.valves.length cv, .slice aq x.parts.length cq, .int .i64 x.seen], .agg #[.slice d0 x.foes.length k0, .slice d1 x.spots.length k1, .slice d2 x.valves.length k2, .slice d3 x.parts.length k3, .int .i64 x.seen], .pointer (some ⟨Rb, 0, none⟩), .int .i64 v, undef, undef, undef, undef, undef, undef, undef, undef, undef, undef, undef, undef, undef, undef, undef, undef, undef, undef, undef, undef, undef, undef, undef, undef, undef, undef, undef, undef, undef, undef, undef, undef, undef, undef, undef, undef, undef, undef, undef, undef, undef, undef, undef, undef, undef, undef, undef, undef, undef, undef, undef, undef, undef, undef, undef, undef, undef, undef, undef, undef, undef, undef, undef, undef, undef, undef, undef, undef, undef, undef, undef, undef, undef, undef, undef, undef, undef, undef, undef, undef, undef, undef, undef, undef, undef, undef, undef, undef, undef, undef, undef, undef, undef, undef, undef, undef, undef, undef, undef, undef, undef, undef, undef, undef, undef, undef, undef, undef, undef, undef, undef, undef, undef, undef, undef, undef, undef, undef, undef, undef, undef, undef, undef, undef, undef, undef, undef, undef, undef, undef, undef, undef, undef, undef, undef, undef, undef, undef, undef, undef, undef, undef, undef, undef, undef, undef, undef, undef, undef, undef, undef, undef, undef, undef], []⟩ X := by
 unfold SpR at hJ
 dsimp only [Tryz.f72] at hc
 cases hc
 have hl0 := hT.foes.1
 have hl1 := hT.spots.1
 have hl2 := hT.valves.1
 have hl3 := hT.parts.1
 have hSX : Sb < X.heap.size := sk.row.lt
 have hRX := sk.rd.row.lt
 have hold := sk.old
 have hSR : Rb < Sb := by have := sk.new; omega
 have g1' : X.cell? ⟨Sb, 1, none⟩ = some (.slice d1 x.spots.length k1) := sk.row.cell 1 rfl
 have n0 : ¬ v = 0 := by omega
 have n1 : ¬ v = 1 := by omega
 have n2 : ¬ v = 2 := by omega
 go_upto_if 79 with fail
 go_cut [79] (fun q wx => X = wx ∧ q = .bool true)
 case first =>
  rcases hv34 with rfl | rfl
  all_goals
   go_wp2_with fail
   go_meet
   exact ⟨rfl, rfl⟩
 case rest =>
  obtain ⟨rfl, rfl⟩ := hcut
  clear n0 n1 n2 hv34
  by_cases hu : 0 < x.spots.length
  · have hu2 : (0 : Int) < x.spots.length := by omega
    obtain ⟨b1, hb1'⟩ : ∃ b, d1 = some ⟨b, 0, none⟩ := by
     rcases sk.own.spots.row with h' | ⟨b, l, hb, -⟩
     · omega
     · exact ⟨b, hb⟩
    subst hb1'
    go_wp2_with fail
    refine (pick_any W0 Rb a n cap f X (p + 1) _ sk.rd (by omega) (by omega)).mono ?_
    rintro e Y ⟨⟨v6, rfl, hv60, hv61⟩, hr6, on6⟩
    obtain ⟨j, rfl⟩ : ∃ j : Nat, v6 = j := ⟨v6.toNat, by omega⟩
    have hj : j < x.spots.length := by omega
    have hj2 : (j : Int) < x.spots.length := by omega
    have sk1 := sk.pick hr6 on6
    clear sk hr6 on6 hv60 hv61 g1'
    go_wp2_with fail
    refine (pick_any W0 Rb a n cap f Y (p + 1 + 1) 5 sk1.rd (by omega) (by omega)).mono ?_
    clear hSX hRX
    rintro e X ⟨⟨v9, rfl, hv90, hv91⟩, hr6, on6⟩
    have sk := sk1.pick hr6 on6
    clear sk1 hr6 on6
    have hSX : Sb < X.heap.size := sk.row.lt
    have hRX := sk.rd.row.lt
    have hb1 : b1 < X.heap.size := sk.own.spots.row.lt ⟨by omega, 0, rfl⟩
    have hb1R : ¬ b1 = Rb := by have := (sk.lo b1 (Or.inr (Or.inl (Or.inl ⟨by omega, 0, rfl⟩)))).1; omega
    have g1' : X.cell? ⟨Sb, 1, none⟩ = some (.slice (some ⟨b1, 0, none⟩) x.spots.length k1) := sk.row.cell 1 rfl
    have hv5 : v9 = 0 ∨ v9 = 1 ∨ v9 = 2 ∨ v9 = 3 ∨ v9 = 4 := by omega
    clear hv90 hv91
    rcases hv5 with rfl | rfl | rfl | rfl | rfl
    · have hS : ∀ W, Only (fun q => q = Rb) X W → W.cell? ⟨Sb, 1, none⟩ = some (.slice (some ⟨b1, 0, none⟩) x.spots.length k1) := fun W hb => cell_only hb (sk.row.cell 1 rfl) sk.row.lt (by omega)
      have hS0 := hS X (Only.refl _ _)
      have rX := sk.rd
      go_wp2_with fail
      refine wp_region_E (fun W => W.cell? ⟨Sb, 1, none⟩ = some (.slice (some ⟨b1, 0, none⟩) x.spots.length k1)) 8 (by kernel_rfl) ?_
      refine tk 0 ?vac0 rfl (by kernel_rfl) (fun _ _ _ h => h) (by rfl) (hS0) ?yac0 ?rac0
      case yac0 => intro w' h; (try dsimp only at h); go_simp; (try with_reducible rfl)
      try simp only [Act.put, sA, sB, sC]
      refine tk 1 ?vac1 rfl (by kernel_rfl) (fun _ _ _ h => h) (by rfl) (hS0) ?yac1 ?rac1
      case yac1 => intro w' h; (try dsimp only at h); go_simp; (try with_reducible rfl)
      try simp only [Act.put, sA, sB, sC]
      refine tk 2 ?vac2 rfl (by kernel_rfl) (fun _ _ _ h => h) (by rfl) (hS0) ?yac2 ?rac2
      case yac2 => intro w' h; (try dsimp only at h); go_simp; (try with_reducible rfl)
      try simp only [Act.put, sA, sB, sC]
      refine tk 3 ?vac3 rfl (by kernel_rfl) (fun _ _ _ h => h) (by rfl) (hS0) ?yac3 ?rac3
      case yac3 => intro w' h; (try dsimp only at h); go_simp; (try with_reducible rfl)
      try simp only [Act.put, sA, sB, sC]
      refine wpAnyE_oneC (i := 4) rfl (by kernel_rfl) ?_
      intro K hK
      rw [if_pos (by rfl)]
      go_wp2_with fail
      refine hK.out _ _ (fun _ => hS _ (by (repeat (first | assumption | exact Only.refl _ _ | refine on_drew ?_ | refine on_alloc ?_ _)))) ?_
      clear hK K
      try simp only [Act.put, sA, sB, sC]
      refine wpAnyE_oneC (i := 5) rfl (by kernel_rfl) ?_
      intro K hK
      rw [if_pos (by rfl)]
      go_wp2_with (go_at_call 73; refine (of_any W0 Rb a n cap f _ (p + 1 + 1 + 1) (by (repeat (first | assumption | refine rd_drew ?_ | refine rd_alloc ?_ _))) (by omega) (by omega) (some ⟨_, 0, none⟩) 4 spotNames (strsAt_row spotNames (by first | exact Row.drew (Row.new' (by first | rfl | simp)) | exact Row.new' (by first | rfl | simp))) (fun q hq => by obtain ⟨_, o, e⟩ := hq; cases e; (try simp); (try omega)) (by decide) (by decide)).mono ?_; rintro e Y ⟨⟨i, hi, rfl⟩, hr6, on6⟩; have onY : Only (fun q => q = Rb) X Y := Only.trans (by (repeat (first | assumption | exact Only.refl _ _ | refine on_drew ?_ | refine on_alloc ?_ _))) on6)
      refine hK.out _ _ (fun _ => hS _ onY) ?_
      clear hK K
      try simp only [Act.put, sA, sB, sC]
      have sj := gs_short spotNames_short hi
      generalize gs spotNames i = sn at sj ⊢
      have sk2 := sk.pick hr6 onY
      obtain ⟨e6, f6, hb6⟩ := sk2.own.spots.row.cell 0 hj (by omega)
      rw [Nat.add_zero] at e6 f6
      simp only [spotCell] at e6
      have FN := sk2.spotC rfl hj 0 (by omega) (.string sn) ⟨sn, (gp x.spots j).cap, (gp x.spots j).least, (gp x.spots j).most, (gp x.spots j).may⟩ (fun i hi => by match i, hi with | 0, _ => rfl | 1, _ => rfl | 2, _ => rfl | 3, _ => rfl | 4, _ => rfl) rfl (by show sn.size ≤ _; omega)
      rw [Nat.add_zero] at FN
      have FH : Hid _ := FN
      clear FN sk2
      refine wpAnyE_oneC (i := 6) rfl (by kernel_rfl) ?_
      intro K hK
      rw [if_pos (by rfl)]
      go_wp2_with fail
      refine hK.out _ _ (fun _ => hS _ onY) ?_
      clear hK K
      try simp only [Act.put, sA, sB, sC]
      refine tk 7 ?vac7 rfl (by kernel_rfl) (fun _ _ _ h => h) (by rfl) (hS _ onY) ?yac7 ?rac7
      case yac7 => intro w' h; (try dsimp only at h); go_simp; (try with_reducible rfl)
      try simp only [Act.put, sA, sB, sC]
      refine wpAnyE_oneC (i := 8) rfl (by kernel_rfl) ?_
      intro K hK
      rw [if_pos (by rfl)]
      go_wp2_with fail
      refine hK.out _ _ (fun h => absurd rfl h) ?_
      clear hK K
      try simp only [Act.put, sA, sB, sC]
      refine wpAnyE_done (by kernel_rfl) ?_ _
      clear hS hS0 e6 f6
      go_wp2_with fail
      go_meet
      exact ⟨_, d0, some ⟨b1, 0, none⟩, d2, d3, k0, k1, k2, k3, _, rfl, FH.out, by omega, by omega⟩
    · have hS : ∀ W, Only (fun q => q = Rb) X W → W.cell? ⟨Sb, 1, none⟩ = some (.slice (some ⟨b1, 0, none⟩) x.spots.length k1) := fun W hb => cell_only hb (sk.row.cell 1 rfl) sk.row.lt (by omega)
      have hS0 := hS X (Only.refl _ _)
      have rX := sk.rd
      have hneX : ¬ X.heap.size = Rb := by omega
      have FIN : ∀ (Wf : World) (z : Int), Rd W0 Rb a n cap f Wf (p + 1 + 1 + 1 + 1) → Only (fun q => q = Rb) X Wf → FkAt W0 Rb a n cap f W1 Sb (Wf.setCell ⟨b1, j * 5 + 1, none⟩ (.int .i64 z)) (p + 1 + 1 + 1 + 1) ⟨x.foes, x.spots.set j ⟨(gp x.spots j).name, z, (gp x.spots j).least, (gp x.spots j).most, (gp x.spots j).may⟩, x.valves, x.parts, x.seen⟩ d0 (some ⟨b1, 0, none⟩) d2 d3 k0 k1 k2 k3 := fun Wf z hr ho => (sk.pick hr ho).spotC rfl hj 1 (by omega) (.int .i64 z) ⟨(gp x.spots j).name, z, (gp x.spots j).least, (gp x.spots j).most, (gp x.spots j).may⟩ (fun i hi => by match i, hi with | 0, _ => rfl | 1, _ => rfl | 2, _ => rfl | 3, _ => rfl | 4, _ => rfl) rfl (sk.tiny.s.2 _ (gp_mem hj)).1
      have CEL : ∀ (Wf : World), Only (fun q => q = Rb) X Wf → Wf.cell? ⟨b1, j * 5 + 1, none⟩ = some (.int .i64 (gp x.spots j).cap) ∧ Wf.frozen? ⟨b1, j * 5 + 1, none⟩ = false ∧ b1 < Wf.heap.size := fun Wf ho => (sk.own.spots.row.only ho (fun q hq e => by have := (sk.lo q (Or.inr (Or.inl (Or.inl hq)))).1; have e' : q = Rb := e; omega)).cell 1 hj (by omega)
      clear sk
      go_wp2_with fail
      refine wp_region_E (fun W => W.cell? ⟨Sb, 1, none⟩ = some (.slice (some ⟨b1, 0, none⟩) x.spots.length k1)) 10 (by kernel_rfl) ?_
      refine tk 0 ?vad0 rfl (by kernel_rfl) (fun _ _ _ h => h) (by rfl) (hS0) ?yad0 ?rad0
      case yad0 => intro w' h; (try dsimp only at h); go_simp; (try with_reducible rfl)
      try simp only [Act.put, sA, sB, sC]
      refine tk 1 ?vad1 rfl (by kernel_rfl) (fun _ _ _ h => h) (by rfl) (hS0) ?yad1 ?rad1
      case yad1 => intro w' h; (try dsimp only at h); go_simp; (try with_reducible rfl)
      try simp only [Act.put, sA, sB, sC]
      refine tk 2 ?vad2 rfl (by kernel_rfl) (fun _ _ _ h => h) (by rfl) (hS0) ?yad2 ?rad2
      case yad2 => intro w' h; (try dsimp only at h); go_simp; (try with_reducible rfl)
      try simp only [Act.put, sA, sB, sC]
      refine tk 4 ?vad4 rfl (by kernel_rfl) (fun _ _ _ h => h) (by rfl) (hS0) ?yad4 ?rad4
      case yad4 => intro w' h; (try dsimp only at h); go_simp; (try with_reducible rfl)
      try simp only [Act.put, sA, sB, sC]
      refine wpAnyE_twoC 3 5 (by kernel_rfl) rfl rfl ?wd1 ?wd2
      case wd1 =>
       intro K hK
       rw [if_pos (by rfl)]
       go_wp2_with fail
       refine hK.out _ _ (fun _ => hS _ (by (repeat (first | assumption | exact Only.refl _ _ | refine on_drew ?_ | refine on_alloc ?_ _)))) ?_
       clear hK K
       try simp only [Act.put, sA, sB, sC]
       refine wpAnyE_oneC (i := 5) rfl (by kernel_rfl) ?_
       intro K hK
       rw [if_pos (by rfl)]
       go_wp2_with (go_at_call 71; refine (pick_any W0 Rb a n cap f _ (p + 1 + 1 + 1) 4 (by (repeat (first | assumption | refine rd_drew ?_ | refine rd_alloc ?_ _))) (by omega) (by omega)).mono ?_; rintro e Y ⟨⟨u, rfl, hu0, hu1⟩, hr6, on6⟩; have onY : Only (fun q => q = Rb) X Y := Only.trans (by (repeat (first | assumption | exact Only.refl _ _ | refine on_drew ?_ | refine on_alloc ?_ _))) on6)
       refine hK.out _ _ (fun _ => hS _ onY) ?_
       clear hK K
       try simp only [Act.put, sA, sB, sC]
       have hu4 : u = 0 ∨ u = 1 ∨ u = 2 ∨ u = 3 := by omega
       have hcA := ocell on6
       have hzA := on6.size
       try simp at hzA
       have hltXY : X.heap.size < Y.heap.size := by omega
       obtain ⟨hzz, hfz, hbz⟩ := CEL Y onY
       have hneZ : ¬ b1 = Y.heap.size := by omega
       clear hu0 hu1
       rcases hu4 with rfl | rfl | rfl | rfl
       all_goals
        refine wpAnyE_oneC (i := 6) rfl (by kernel_rfl) ?_
        intro K hK
        rw [if_pos (by rfl)]
        go_wp2_with fail
        refine hK.out _ _ (fun _ => hS _ (by (repeat (first | assumption | exact Only.refl _ _ | refine on_drew ?_ | refine on_alloc ?_ _)))) ?_
        clear hK K
        try simp only [Act.put, sA, sB, sC]
        refine wpAnyE_oneC (i := 7) rfl (by kernel_rfl) ?_
        intro K hK
        rw [if_pos (by rfl)]
        go_wp2_with fail
        refine hK.out _ _ (fun _ => hS _ (by (repeat (first | assumption | exact Only.refl _ _ | refine on_drew ?_ | refine on_alloc ?_ _)))) ?_
        clear hK K
        try simp only [Act.put, sA, sB, sC]
        refine wpAnyE_oneC (i := 8) rfl (by kernel_rfl) ?_
        intro K hK
        rw [if_pos (by rfl)]
        go_wp2_with fail
        refine hK.out _ _ (fun _ => hS _ (by (repeat (first | assumption | exact Only.refl _ _ | refine on_drew ?_ | refine on_alloc ?_ _)))) ?_
        clear hK K
        try simp only [Act.put, sA, sB, sC]
        refine wpAnyE_oneC (i := 9) rfl (by kernel_rfl) ?_
        intro K hK
        rw [if_pos (by rfl)]
        go_wp2_with fail
        refine hK.out _ _ (fun _ => hS _ (by (repeat (first | assumption | exact Only.refl _ _ | refine on_drew ?_ | refine on_alloc ?_ _)))) ?_
        clear hK K
        try simp only [Act.put, sA, sB, sC]
        refine wpAnyE_oneC (i := 10) rfl (by kernel_rfl) ?_
        intro K hK
        rw [if_pos (by rfl)]
        go_wp2_with fail
        refine hK.out _ _ (fun h => absurd rfl h) ?_
        clear hK K
        try simp only [Act.put, sA, sB, sC]
        refine wpAnyE_done (by kernel_rfl) ?_ _
        go_wp2_with fail
        go_meet
        exact ⟨_, d0, some ⟨b1, 0, none⟩, d2, d3, k0, k1, k2, k3, _, rfl, (by first | exact FIN _ _ (by (repeat (first | assumption | refine rd_drew ?_ | refine rd_alloc ?_ _))) (by (repeat (first | assumption | exact Only.refl _ _ | refine on_drew ?_ | refine on_alloc ?_ _))) | exact fk_alloc (FIN _ _ (by (repeat (first | assumption | refine rd_drew ?_ | refine rd_alloc ?_ _))) (by (repeat (first | assumption | exact Only.refl _ _ | refine on_drew ?_ | refine on_alloc ?_ _)))) _), by omega, by omega⟩
      case wd2 =>
       intro K hK
       rw [if_pos (by rfl)]
       go_wp2_with (go_at_call 71; refine (pick_any W0 Rb a n cap f _ (p + 1 + 1 + 1) 4 (by (repeat (first | assumption | refine rd_drew ?_ | refine rd_alloc ?_ _))) (by omega) (by omega)).mono ?_; rintro e Y ⟨⟨u, rfl, hu0, hu1⟩, hr6, on6⟩; have onY : Only (fun q => q = Rb) X Y := Only.trans (by (repeat (first | assumption | exact Only.refl _ _ | refine on_drew ?_ | refine on_alloc ?_ _))) on6)
       refine hK.out _ _ (fun _ => hS _ onY) ?_
       clear hK K
       try simp only [Act.put, sA, sB, sC]
       have hu4 : u = 0 ∨ u = 1 ∨ u = 2 ∨ u = 3 := by omega
       have hcA := ocell on6
       have hzA := on6.size
       try simp at hzA
       obtain ⟨hzz, hfz, hbz⟩ := CEL Y onY
       have hneZ : ¬ b1 = Y.heap.size := by omega
       clear hu0 hu1
       refine wpAnyE_oneC (i := 3) rfl (by kernel_rfl) ?_
       intro K hK
       rw [if_pos (by rfl)]
       go_wp2_with fail
       refine hK.out _ _ (fun _ => hS _ (by (repeat (first | assumption | exact Only.refl _ _ | refine on_drew ?_ | refine on_alloc ?_ _)))) ?_
       clear hK K
       try simp only [Act.put, sA, sB, sC]
       rcases hu4 with rfl | rfl | rfl | rfl
       all_goals
        refine wpAnyE_oneC (i := 6) rfl (by kernel_rfl) ?_
        intro K hK
        rw [if_pos (by rfl)]
        go_wp2_with fail
        refine hK.out _ _ (fun _ => hS _ (by (repeat (first | assumption | exact Only.refl _ _ | refine on_drew ?_ | refine on_alloc ?_ _)))) ?_
        clear hK K
        try simp only [Act.put, sA, sB, sC]
        refine wpAnyE_oneC (i := 7) rfl (by kernel_rfl) ?_
        intro K hK
        rw [if_pos (by rfl)]
        go_wp2_with fail
        refine hK.out _ _ (fun _ => hS _ (by (repeat (first | assumption | exact Only.refl _ _ | refine on_drew ?_ | refine on_alloc ?_ _)))) ?_
        clear hK K
        try simp only [Act.put, sA, sB, sC]
        refine wpAnyE_oneC (i := 8) rfl (by kernel_rfl) ?_
        intro K hK
        rw [if_pos (by rfl)]
        go_wp2_with fail
        refine hK.out _ _ (fun _ => hS _ (by (repeat (first | assumption | exact Only.refl _ _ | refine on_drew ?_ | refine on_alloc ?_ _)))) ?_
        clear hK K
        try simp only [Act.put, sA, sB, sC]
        refine wpAnyE_oneC (i := 9) rfl (by kernel_rfl) ?_
        intro K hK
        rw [if_pos (by rfl)]
        go_wp2_with fail
        refine hK.out _ _ (fun _ => hS _ (by (repeat (first | assumption | exact Only.refl _ _ | refine on_drew ?_ | refine on_alloc ?_ _)))) ?_
        clear hK K
        try simp only [Act.put, sA, sB, sC]
        refine wpAnyE_oneC (i := 10) rfl (by kernel_rfl) ?_
        intro K hK
        rw [if_pos (by rfl)]
        go_wp2_with fail
        refine hK.out _ _ (fun h => absurd rfl h) ?_
        clear hK K
        try simp only [Act.put, sA, sB, sC]
        refine wpAnyE_done (by kernel_rfl) ?_ _
        go_wp2_with fail
        go_meet
        exact ⟨_, d0, some ⟨b1, 0, none⟩, d2, d3, k0, k1, k2, k3, _, rfl, (by first | exact FIN _ _ (by (repeat (first | assumption | refine rd_drew ?_ | refine rd_alloc ?_ _))) (by (repeat (first | assumption | exact Only.refl _ _ | refine on_drew ?_ | refine on_alloc ?_ _))) | exact fk_alloc (FIN _ _ (by (repeat (first | assumption | refine rd_drew ?_ | refine rd_alloc ?_ _))) (by (repeat (first | assumption | exact Only.refl _ _ | refine on_drew ?_ | refine on_alloc ?_ _)))) _), by omega, by omega⟩
    · have hS : ∀ W, Only (fun q => q = Rb) X W → W.cell? ⟨Sb, 1, none⟩ = some (.slice (some ⟨b1, 0, none⟩) x.spots.length k1) ∧ W.cell? ⟨b1, j * 5 + 2, none⟩ = some (.int .i64 (gp x.spots j).least) := fun W hb => ⟨cell_only hb (sk.row.cell 1 rfl) sk.row.lt (by omega), cell_only hb (sk.own.spots.row.cell 2 hj (by omega)).1 hb1 (by omega)⟩
      have hS0 := hS X (Only.refl _ _)
      have rX := sk.rd
      go_wp2_with fail
      refine wp_region_E (fun W => W.cell? ⟨Sb, 1, none⟩ = some (.slice (some ⟨b1, 0, none⟩) x.spots.length k1) ∧ W.cell? ⟨b1, j * 5 + 2, none⟩ = some (.int .i64 (gp x.spots j).least)) 15 (by kernel_rfl) ?_
      refine tk 0 ?vae0 rfl (by kernel_rfl) (fun _ _ _ h => h) (by rfl) (hS0) ?yae0 ?rae0
      case yae0 => intro w' h; (try dsimp only at h); go_simp; (try with_reducible rfl)
      try simp only [Act.put, sA, sB, sC]
      refine tk 1 ?vae1 rfl (by kernel_rfl) (fun _ _ _ h => h) (by rfl) (hS0) ?yae1 ?rae1
      case yae1 => intro w' h; (try dsimp only at h); go_simp; (try with_reducible rfl)
      try simp only [Act.put, sA, sB, sC]
      refine tk 2 ?vae2 rfl (by kernel_rfl) (fun _ _ _ h => h) (by rfl) (hS0) ?yae2 ?rae2
      case yae2 => intro w' h; (try dsimp only at h); go_simp; (try with_reducible rfl)
      try simp only [Act.put, sA, sB, sC]
      refine tk 3 ?vae3 rfl (by kernel_rfl) (fun _ _ _ h => h) (by rfl) (hS0) ?yae3 ?rae3
      case yae3 => intro w' h; (try dsimp only at h); go_simp; (try with_reducible rfl)
      try simp only [Act.put, sA, sB, sC]
      refine tk 4 ?vae4 rfl (by kernel_rfl) (fun _ _ _ h => h) (by rfl) (hS0) ?yae4 ?rae4
      case yae4 => intro w' h; (try dsimp only at h); go_simp; (try with_reducible rfl)
      try simp only [Act.put, sA, sB, sC]
      refine tk 5 ?vae5 rfl (by kernel_rfl) (fun _ _ _ h => h) (by rfl) (hS0) ?yae5 ?rae5
      case yae5 => intro w' h; (try dsimp only at h); go_simp; (try with_reducible rfl)
      try simp only [Act.put, sA, sB, sC]
      refine tk 6 ?vae6 rfl (by kernel_rfl) (fun _ _ _ h => h) (by rfl) (hS0) ?yae6 ?rae6
      case yae6 => intro w' h; (try dsimp only at h); go_simp; (try with_reducible rfl)
      try simp only [Act.put, sA, sB, sC]
      refine tk 7 ?vae7 rfl (by kernel_rfl) (fun _ _ _ h => h) (by rfl) (hS0) ?yae7 ?rae7
      case yae7 => intro w' h; (try dsimp only at h); go_simp; (try with_reducible rfl)
      try simp only [Act.put, sA, sB, sC]
      refine tk 8 ?vae8 rfl (by kernel_rfl) (fun _ _ _ h => h) (by rfl) (hS0) ?yae8 ?rae8
      case yae8 => intro w' h; (try dsimp only at h); go_simp; (try with_reducible rfl)
      try simp only [Act.put, sA, sB, sC]
      refine tk 9 ?vae9 rfl (by kernel_rfl) (fun _ _ _ h => h) (by rfl) (hS0) ?yae9 ?rae9
      case yae9 => intro w' h; (try dsimp only at h); go_simp; (try with_reducible rfl)
      try simp only [Act.put, sA, sB, sC]
      refine wpAnyE_oneC (i := 10) rfl (by kernel_rfl) ?_
      intro K hK
      rw [if_pos (by rfl)]
      go_wp2_with (go_at_call 71; refine (pick_any W0 Rb a n cap f _ (p + 1 + 1 + 1) 5 (by (repeat (first | assumption | refine rd_drew ?_ | refine rd_alloc ?_ _))) (by omega) (by omega)).mono ?_; rintro e Y ⟨⟨u, rfl, hu0, hu1⟩, hr6, on6⟩; have onY : Only (fun q => q = Rb) X Y := Only.trans (by (repeat (first | assumption | exact Only.refl _ _ | refine on_drew ?_ | refine on_alloc ?_ _))) on6)
      refine hK.out _ _ (fun _ => hS _ onY) ?_
      clear hK K
      try simp only [Act.put, sA, sB, sC]
      have sk2 := sk.pick hr6 onY
      obtain ⟨e6, f6, hb6⟩ := sk2.own.spots.row.cell 2 hj (by omega)
      simp only [spotCell] at e6
      have FIN : ∀ z : Int, Hid (FkAt W0 Rb a n cap f W1 Sb (Y.setCell ⟨b1, j * 5 + 2, none⟩ (.int .i64 z)) (p + 1 + 1 + 1 + 1) ⟨x.foes, x.spots.set j ⟨(gp x.spots j).name, (gp x.spots j).cap, z, (gp x.spots j).most, (gp x.spots j).may⟩, x.valves, x.parts, x.seen⟩ d0 (some ⟨b1, 0, none⟩) d2 d3 k0 k1 k2 k3) := fun z => sk2.spotC rfl hj 2 (by omega) (.int .i64 z) ⟨(gp x.spots j).name, (gp x.spots j).cap, z, (gp x.spots j).most, (gp x.spots j).may⟩ (fun i hi => by match i, hi with | 0, _ => rfl | 1, _ => rfl | 2, _ => rfl | 3, _ => rfl | 4, _ => rfl) rfl (sk.tiny.s.2 _ (gp_mem hj)).1
      clear sk2
      refine tk 11 ?vae11 rfl (by kernel_rfl) (fun _ _ _ h => h) (by rfl) (hS _ onY) ?yae11 ?rae11
      case yae11 => intro w' h; (try dsimp only at h); go_simp; (try with_reducible rfl)
      try simp only [Act.put, sA, sB, sC]
      refine tk 12 ?vae12 rfl (by kernel_rfl) (fun _ _ _ h => h) (by rfl) (hS _ onY) ?yae12 ?rae12
      case yae12 => intro w' h; (try dsimp only at h); go_simp; (try with_reducible rfl)
      try simp only [Act.put, sA, sB, sC]
      refine wpAnyE_oneC (i := 13) rfl (by kernel_rfl) ?_
      intro K hK
      rw [if_pos (by rfl)]
      go_wp2_with fail
      refine hK.out _ _ (fun _ => hS _ onY) ?_
      clear hK K
      try simp only [Act.put, sA, sB, sC]
      refine tk 14 ?vae14 rfl (by kernel_rfl) (fun _ _ _ h => h) (by rfl) (hS _ onY) ?yae14 ?rae14
      case yae14 => intro w' h; (try dsimp only at h); go_simp; (try with_reducible rfl)
      try simp only [Act.put, sA, sB, sC]
      refine wpAnyE_oneC (i := 15) rfl (by kernel_rfl) ?_
      intro K hK
      rw [if_pos (by rfl)]
      go_wp2_with fail
      refine hK.out _ _ (fun h => absurd rfl h) ?_
      clear hK K
      try simp only [Act.put, sA, sB, sC]
      refine wpAnyE_done (by kernel_rfl) ?_ _
      clear hS hS0 e6 f6
      go_wp2_with fail
      go_meet
      exact ⟨_, d0, some ⟨b1, 0, none⟩, d2, d3, k0, k1, k2, k3, _, rfl, (FIN _).out, by omega, by omega⟩
    · have hS : ∀ W, Only (fun q => q = Rb) X W → W.cell? ⟨Sb, 1, none⟩ = some (.slice (some ⟨b1, 0, none⟩) x.spots.length k1) ∧ W.cell? ⟨b1, j * 5 + 3, none⟩ = some (.int .i64 (gp x.spots j).most) := fun W hb => ⟨cell_only hb (sk.row.cell 1 rfl) sk.row.lt (by omega), cell_only hb (sk.own.spots.row.cell 3 hj (by omega)).1 hb1 (by omega)⟩
      have hS0 := hS X (Only.refl _ _)
      have rX := sk.rd
      go_wp2_with fail
      refine wp_region_E (fun W => W.cell? ⟨Sb, 1, none⟩ = some (.slice (some ⟨b1, 0, none⟩) x.spots.length k1) ∧ W.cell? ⟨b1, j * 5 + 3, none⟩ = some (.int .i64 (gp x.spots j).most)) 15 (by kernel_rfl) ?_
      refine tk 0 ?vaf0 rfl (by kernel_rfl) (fun _ _ _ h => h) (by rfl) (hS0) ?yaf0 ?raf0
      case yaf0 => intro w' h; (try dsimp only at h); go_simp; (try with_reducible rfl)
      try simp only [Act.put, sA, sB, sC]
      refine tk 1 ?vaf1 rfl (by kernel_rfl) (fun _ _ _ h => h) (by rfl) (hS0) ?yaf1 ?raf1
      case yaf1 => intro w' h; (try dsimp only at h); go_simp; (try with_reducible rfl)
      try simp only [Act.put, sA, sB, sC]
      refine tk 2 ?vaf2 rfl (by kernel_rfl) (fun _ _ _ h => h) (by rfl) (hS0) ?yaf2 ?raf2
      case yaf2 => intro w' h; (try dsimp only at h); go_simp; (try with_reducible rfl)
      try simp only [Act.put, sA, sB, sC]
      refine tk 3 ?vaf3 rfl (by kernel_rfl) (fun _ _ _ h => h) (by rfl) (hS0) ?yaf3 ?raf3
      case yaf3 => intro w' h; (try dsimp only at h); go_simp; (try with_reducible rfl)
      try simp only [Act.put, sA, sB, sC]
      refine tk 4 ?vaf4 rfl (by kernel_rfl) (fun _ _ _ h => h) (by rfl) (hS0) ?yaf4 ?raf4
      case yaf4 => intro w' h; (try dsimp only at h); go_simp; (try with_reducible rfl)
      try simp only [Act.put, sA, sB, sC]
      refine tk 5 ?vaf5 rfl (by kernel_rfl) (fun _ _ _ h => h) (by rfl) (hS0) ?yaf5 ?raf5
      case yaf5 => intro w' h; (try dsimp only at h); go_simp; (try with_reducible rfl)
      try simp only [Act.put, sA, sB, sC]
      refine tk 6 ?vaf6 rfl (by kernel_rfl) (fun _ _ _ h => h) (by rfl) (hS0) ?yaf6 ?raf6
      case yaf6 => intro w' h; (try dsimp only at h); go_simp; (try with_reducible rfl)
      try simp only [Act.put, sA, sB, sC]
      refine tk 7 ?vaf7 rfl (by kernel_rfl) (fun _ _ _ h => h) (by rfl) (hS0) ?yaf7 ?raf7
      case yaf7 => intro w' h; (try dsimp only at h); go_simp; (try with_reducible rfl)
      try simp only [Act.put, sA, sB, sC]
      refine tk 8 ?vaf8 rfl (by kernel_rfl) (fun _ _ _ h => h) (by rfl) (hS0) ?yaf8 ?raf8
      case yaf8 => intro w' h; (try dsimp only at h); go_simp; (try with_reducible rfl)
      try simp only [Act.put, sA, sB, sC]
      refine tk 9 ?vaf9 rfl (by kernel_rfl) (fun _ _ _ h => h) (by rfl) (hS0) ?yaf9 ?raf9
      case yaf9 => intro w' h; (try dsimp only at h); go_simp; (try with_reducible rfl)
      try simp only [Act.put, sA, sB, sC]
      refine wpAnyE_oneC (i := 10) rfl (by kernel_rfl) ?_
      intro K hK
      rw [if_pos (by rfl)]
      go_wp2_with (go_at_call 71; refine (pick_any W0 Rb a n cap f _ (p + 1 + 1 + 1) 5 (by (repeat (first | assumption | refine rd_drew ?_ | refine rd_alloc ?_ _))) (by omega) (by omega)).mono ?_; rintro e Y ⟨⟨u, rfl, hu0, hu1⟩, hr6, on6⟩; have onY : Only (fun q => q = Rb) X Y := Only.trans (by (repeat (first | assumption | exact Only.refl _ _ | refine on_drew ?_ | refine on_alloc ?_ _))) on6)
      refine hK.out _ _ (fun _ => hS _ onY) ?_
      clear hK K
      try simp only [Act.put, sA, sB, sC]
      have sk2 := sk.pick hr6 onY
      obtain ⟨e6, f6, hb6⟩ := sk2.own.spots.row.cell 3 hj (by omega)
      simp only [spotCell] at e6
      have FIN : ∀ z : Int, Hid (FkAt W0 Rb a n cap f W1 Sb (Y.setCell ⟨b1, j * 5 + 3, none⟩ (.int .i64 z)) (p + 1 + 1 + 1 + 1) ⟨x.foes, x.spots.set j ⟨(gp x.spots j).name, (gp x.spots j).cap, (gp x.spots j).least, z, (gp x.spots j).may⟩, x.valves, x.parts, x.seen⟩ d0 (some ⟨b1, 0, none⟩) d2 d3 k0 k1 k2 k3) := fun z => sk2.spotC rfl hj 3 (by omega) (.int .i64 z) ⟨(gp x.spots j).name, (gp x.spots j).cap, (gp x.spots j).least, z, (gp x.spots j).may⟩ (fun i hi => by match i, hi with | 0, _ => rfl | 1, _ => rfl | 2, _ => rfl | 3, _ => rfl | 4, _ => rfl) rfl (sk.tiny.s.2 _ (gp_mem hj)).1
      clear sk2
      refine tk 11 ?vaf11 rfl (by kernel_rfl) (fun _ _ _ h => h) (by rfl) (hS _ onY) ?yaf11 ?raf11
      case yaf11 => intro w' h; (try dsimp only at h); go_simp; (try with_reducible rfl)
      try simp only [Act.put, sA, sB, sC]
      refine tk 12 ?vaf12 rfl (by kernel_rfl) (fun _ _ _ h => h) (by rfl) (hS _ onY) ?yaf12 ?raf12
      case yaf12 => intro w' h; (try dsimp only at h); go_simp; (try with_reducible rfl)
      try simp only [Act.put, sA, sB, sC]
      refine wpAnyE_oneC (i := 13) rfl (by kernel_rfl) ?_
      intro K hK
      rw [if_pos (by rfl)]
      go_wp2_with fail
      refine hK.out _ _ (fun _ => hS _ onY) ?_
      clear hK K
      try simp only [Act.put, sA, sB, sC]
      refine tk 14 ?vaf14 rfl (by kernel_rfl) (fun _ _ _ h => h) (by rfl) (hS _ onY) ?yaf14 ?raf14
      case yaf14 => intro w' h; (try dsimp only at h); go_simp; (try with_reducible rfl)
      try simp only [Act.put, sA, sB, sC]
      refine wpAnyE_oneC (i := 15) rfl (by kernel_rfl) ?_
      intro K hK
      rw [if_pos (by rfl)]
      go_wp2_with fail
      refine hK.out _ _ (fun h => absurd rfl h) ?_
      clear hK K
      try simp only [Act.put, sA, sB, sC]
      refine wpAnyE_done (by kernel_rfl) ?_ _
      clear hS hS0 e6 f6
      go_wp2_with fail
      go_meet
      exact ⟨_, d0, some ⟨b1, 0, none⟩, d2, d3, k0, k1, k2, k3, _, rfl, (FIN _).out, by omega, by omega⟩
    · have hmay := (hT.spots.2 _ (gp_mem hj)).2.1
      have hS : ∀ W, Only (fun q => q = Rb) X W → W.cell? ⟨Sb, 1, none⟩ = some (.slice (some ⟨b1, 0, none⟩) x.spots.length k1) ∧ W.cell? ⟨b1, j * 5 + 4, none⟩ = some (.slice (A1 j) (gp x.spots j).may.length (C1 j)) := fun W hb => ⟨cell_only hb (sk.row.cell 1 rfl) sk.row.lt (by omega), cell_only hb (sk.own.spots.row.cell 4 hj (by omega)).1 hb1 (by omega)⟩
      have hS0 := hS X (Only.refl _ _)
      have rX := sk.rd
      go_wp2_with fail
      refine wp_region_E (fun W => W.cell? ⟨Sb, 1, none⟩ = some (.slice (some ⟨b1, 0, none⟩) x.spots.length k1) ∧ W.cell? ⟨b1, j * 5 + 4, none⟩ = some (.slice (A1 j) (gp x.spots j).may.length (C1 j))) 16 (by kernel_rfl) ?_
      refine tk 0 ?vag0 rfl (by kernel_rfl) (fun _ _ _ h => h) (by rfl) (hS0) ?yag0 ?rag0
      case yag0 => intro w' h; (try dsimp only at h); go_simp; (try with_reducible rfl)
      try simp only [Act.put, sA, sB, sC]
      refine tk 1 ?vag1 rfl (by kernel_rfl) (fun _ _ _ h => h) (by rfl) (hS0) ?yag1 ?rag1
      case yag1 => intro w' h; (try dsimp only at h); go_simp; (try with_reducible rfl)
      try simp only [Act.put, sA, sB, sC]
      refine tk 2 ?vag2 rfl (by kernel_rfl) (fun _ _ _ h => h) (by rfl) (hS0) ?yag2 ?rag2
      case yag2 => intro w' h; (try dsimp only at h); go_simp; (try with_reducible rfl)
      try simp only [Act.put, sA, sB, sC]
      refine tk 3 ?vag3 rfl (by kernel_rfl) (fun _ _ _ h => h) (by rfl) (hS0) ?yag3 ?rag3
      case yag3 => intro w' h; (try dsimp only at h); go_simp; (try with_reducible rfl)
      try simp only [Act.put, sA, sB, sC]
      refine tk 4 ?vag4 rfl (by kernel_rfl) (fun _ _ _ h => h) (by rfl) (hS0) ?yag4 ?rag4
      case yag4 => intro w' h; (try dsimp only at h); go_simp; (try with_reducible rfl)
      try simp only [Act.put, sA, sB, sC]
      refine tk 5 ?vag5 rfl (by kernel_rfl) (fun _ _ _ h => h) (by rfl) (hS0) ?yag5 ?rag5
      case yag5 => intro w' h; (try dsimp only at h); go_simp; (try with_reducible rfl)
      try simp only [Act.put, sA, sB, sC]
      refine tk 6 ?vag6 rfl (by kernel_rfl) (fun _ _ _ h => h) (by rfl) (hS0) ?yag6 ?rag6
      case yag6 => intro w' h; (try dsimp only at h); go_simp; (try with_reducible rfl)
      try simp only [Act.put, sA, sB, sC]
      refine tk 7 ?vag7 rfl (by kernel_rfl) (fun _ _ _ h => h) (by rfl) (hS0) ?yag7 ?rag7
      case yag7 => intro w' h; (try dsimp only at h); go_simp; (try with_reducible rfl)
      try simp only [Act.put, sA, sB, sC]
      refine tk 8 ?vag8 rfl (by kernel_rfl) (fun _ _ _ h => h) (by rfl) (hS0) ?yag8 ?rag8
      case yag8 => intro w' h; (try dsimp only at h); go_simp; (try with_reducible rfl)
      try simp only [Act.put, sA, sB, sC]
      refine tk 9 ?vag9 rfl (by kernel_rfl) (fun _ _ _ h => h) (by rfl) (hS0) ?yag9 ?rag9
      case yag9 => intro w' h; (try dsimp only at h); go_simp; (try with_reducible rfl)
      try simp only [Act.put, sA, sB, sC]
      refine wpAnyE_oneC (i := 10) rfl (by kernel_rfl) ?_
      intro K hK
      rw [if_pos (by rfl)]
      go_wp2_with fail
      refine hK.out _ _ (fun _ => hS _ (by (repeat (first | assumption | exact Only.refl _ _ | refine on_drew ?_ | refine on_alloc ?_ _)))) ?_
      clear hK K
      try simp only [Act.put, sA, sB, sC]
      refine wpAnyE_oneC (i := 11) rfl (by kernel_rfl) ?_
      intro K hK
      rw [if_pos (by rfl)]
      go_wp2_with (go_at_call 73; refine (of_any W0 Rb a n cap f _ (p + 1 + 1 + 1) (by (repeat (first | assumption | refine rd_drew ?_ | refine rd_alloc ?_ _))) (by omega) (by omega) (some ⟨_, 0, none⟩) 4 mayNames (strsAt_row mayNames (by first | exact Row.drew (Row.new' (by first | rfl | simp)) | exact Row.new' (by first | rfl | simp))) (fun q hq => by obtain ⟨_, o, e⟩ := hq; cases e; (try simp); (try omega)) (by decide) (by decide)).mono ?_; rintro e Y ⟨⟨i, hi, rfl⟩, hr6, on6⟩; have onY : Only (fun q => q = Rb) X Y := Only.trans (by (repeat (first | assumption | exact Only.refl _ _ | refine on_drew ?_ | refine on_alloc ?_ _))) on6)
      refine hK.out _ _ (fun _ => hS _ onY) ?_
      clear hK K
      try simp only [Act.put, sA, sB, sC]
      have sj := gs_short mayNames_short hi
      generalize gs mayNames i = sn at sj ⊢
      have sk2 := sk.pick hr6 onY
      have hSY : Sb < Y.heap.size := sk2.row.lt
      have hOwn : ∀ W, Below Y.heap.size Y W → OwnL W 9 1 (A1 j) (gp x.spots j).may.length (strF (gp x.spots j).may) ∧ CapX W 9 1 (A1 j) (gp x.spots j).may.length (C1 j) := fun W hb => ⟨(sk2.own.spots.may j hj).later hb, (sk2.cm j hj).later hb⟩
      refine wpAnyE_oneC (i := 12) rfl (by kernel_rfl) ?_
      intro K hK
      rw [if_pos (by rfl)]
      go_wp2_with fail
      refine hK.out _ _ (fun _ => hS _ (on_alloc onY _)) ?_
      clear hK K
      try simp only [Act.put, sA, sB, sC]
      refine wpAnyE_oneC (i := 13) rfl (by kernel_rfl) ?_
      intro K hK
      refine step_append_x (by rfl) _ _ (by rfl) sliceStr (A1 j) (gp x.spots j).may.length (C1 j) _ (by rfl) (hOwn _ (by (repeat (first | assumption | exact Below.refl _ _ | refine Below.drew ?_ | refine Below.alloc ?_ (by (try simp); (try omega)) _)))).1 (hOwn _ (by (repeat (first | assumption | exact Below.refl _ _ | refine Below.drew ?_ | refine Below.alloc ?_ (by (try simp); (try omega)) _)))).2 (some ⟨Y.heap.size, 0, none⟩) 1 1 (fun _ _ => .string sn) (by rfl) (rowAt_one (t := 9) (Row.new' (by simp))) (fun _ _ => rfl) (by omega) ?_
      intro a6 c6 w6 apd
      have hw5 : ∃ W5 : World, Below Y.heap.size Y W5 ∧ AppX 9 1 W5 w6 (A1 j) (gp x.spots j).may.length 1 (strF (gp x.spots j).may) (fun _ _ => .string sn) a6 c6 := ⟨_, (by (repeat (first | assumption | exact Below.refl _ _ | refine Below.drew ?_ | refine Below.alloc ?_ (by (try simp); (try omega)) _))), apd⟩
      clear apd
      obtain ⟨W5, hb5, apd⟩ := hw5
      have sk5 := sk2.later hb5
      have FN : Hid _ := sk5.may rfl hj apd (by omega)
      obtain ⟨e6, f6, hb6⟩ := (sk5.own.spots.row.only apd.only (fun q hq hq' => sk5.own.spots.apart j hj q hq' hq)).cell 4 hj (by omega)
      simp only [spotCell] at e6
      have e7 : w6.cell? ⟨Sb, 1, none⟩ = some (.slice (some ⟨b1, 0, none⟩) x.spots.length k1) := (sk5.row.only apd.only (fun hq => (sk5.lo Sb (Or.inr (Or.inl (Or.inr ⟨j, hj, hq⟩)))).2 rfl)).cell 1 rfl
      clear apd sk5 hOwn hb5 sk2
      refine hK.out _ _ (fun _ => ⟨e7, e6⟩) ?_
      clear hK K
      try simp only [Act.put, sA, sB, sC]
      refine wpAnyE_oneC (i := 14) rfl (by kernel_rfl) ?_
      intro K hK
      rw [if_pos (by rfl)]
      go_wp2_with fail
      refine hK.out _ _ (fun _ => ⟨e7, e6⟩) ?_
      clear hK K
      try simp only [Act.put, sA, sB, sC]
      refine tk 15 ?vag15 rfl (by kernel_rfl) (fun _ _ _ h => h) (by rfl) (⟨e7, e6⟩) ?yag15 ?rag15
      case yag15 => intro w' h; (try dsimp only at h); go_simp; (try with_reducible rfl)
      try simp only [Act.put, sA, sB, sC]
      refine wpAnyE_oneC (i := 16) rfl (by kernel_rfl) ?_
      intro K hK
      rw [if_pos (by rfl)]
      go_wp2_with fail
      refine hK.out _ _ (fun h => absurd rfl h) ?_
      clear hK K
      try simp only [Act.put, sA, sB, sC]
      refine wpAnyE_done (by kernel_rfl) ?_ _
      clear hS hS0 e6 f6 e7
      go_wp2_with fail
      go_meet
      exact ⟨_, d0, some ⟨b1, 0, none⟩, d2, d3, k0, k1, k2, k3, _, rfl, FN.out, by omega, by omega⟩
  · have hu2 : ¬ (0 : Int) < x.spots.length := by omega
    have FN : Hid _ := sk.done
    clear sk
    go_wp2_with fail
    go_meet
    exact ⟨x, d0, d1, d2, d3, k0, k1, k2, k3, _, rfl, FN.out, by omega, by omega⟩

end Go.Proofs.YtfmhkicncgccjaaGreat

