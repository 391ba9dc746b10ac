/- Joined: DrK. -/
import Derived.Deep.RegionWith
import Derived.Deep.CutBlock
import Derived.Test.YtfmhkicncgccjaaGreatFm06
import Derived.Test.YtfmhkicncgccjaaGreatFm29
import Derived.Test.YtfmhkicncgccjaaGreatFm26
import Derived.Test.YtfmhkicncgccjaaGreatFm28
import Derived.Test.YtfmhkicncgccjaaGreatFm01
/- What l5Draw answers. -/
namespace Go.Proofs.YtfmhkicncgccjaaGreat
open Go.RowKit Go.Sort
set_option linter.unusedSimpArgs false
set_option linter.unusedVariables false

def drawNames : List ByteArray := [{ data := #[97, 108, 101] }, { data := #[109, 97, 108, 116] }, { data := #[119, 97, 116, 101, 114] }, { data := #[108, 121, 101] }]
theorem drawNames_short : ∀ s ∈ drawNames, s.size ≤ 100 := by decide
set_option maxRecDepth 100000 in
set_option maxHeartbeats 8000000 in
theorem l5Draw_any (W0 : World) (Rb : Nat) (a : Option Addr) (n cap : Nat) (f : Nat → Nat) (w : World) (p : Int) (h : Rd W0 Rb a n cap f w p) (h0 : 0 ≤ p) (h1 : p ≤ 800000000) (x : Book) (af ap av aq : Option Addr) (cf cp cv cq : Nat) (hin : DrB (Rb + 1) w x af ap av aq) (hT : Tiny x) (s : Int) :
 Calls Tryz.prog 150 #[.pointer (some ⟨Rb, 0, none⟩), bookV x af ap av aq cf cp cv cq, .int .i64 s] w fun e w' => WantOf W0 Rb a n cap f 20500 w.heap.size p 13000 e w' ∧ Only (fun q => q = Rb) w w' := by
 have hRb := h.row.lt
 have hsp := hT.spots.1
 have hvl := hT.valves.1
 unfold bookV
 obtain ⟨W1, hW1⟩ : ∃ W, W = (w.alloc (.cells #[.slice af x.foes.length cf, .slice ap x.spots.length cp, .slice av x.valves.length cv, .slice aq x.parts.length cq, .int .i64 x.seen] 28)).alloc (.cells #[.int .i64 0, .int .i64 0, .slice none 0 0, .slice none 0 0, .slice none 0 0, .slice none 0 0] 38) := ⟨_, rfl⟩
 have b1 : Below w.heap.size w W1 := by rw [hW1]; exact ((Below.refl _ _).alloc (Nat.le_refl _) _).alloc (by simp) _
 have rB : Row W1 w.heap.size 28 [.slice af x.foes.length cf, .slice ap x.spots.length cp, .slice av x.valves.length cv, .slice aq x.parts.length cq, .int .i64 x.seen] := by rw [hW1]; exact (Row.new _ _ _).alloc _
 have rZ : Row W1 (w.heap.size + 1) 38 [.int .i64 0, .int .i64 0, .slice none 0 0, .slice none 0 0, .slice none 0 0, .slice none 0 0] := by rw [hW1]; exact Row.new' (by simp)
 have sz1 : W1.heap.size = w.heap.size + 2 := by rw [hW1]; simp
 have d1 := hin.later b1
 have r1 := h.later b1
 go_enter Tryz.func150, Tryz.ntmps150
 go_upto_region 1 with fail
 rw [← hW1]
 clear hW1
 go_cut [7] (fun q wx => ∃ (Sb : Nat) (kd : Int), q = .pointer (some ⟨Sb, 0, none⟩) ∧ DrwAt W0 Rb a n cap f W1 Sb wx (p + 1) ⟨s, kd, [], [], [], []⟩ none none none none 0 0 0 0)
 case first =>
  obtain ⟨W2, hW2⟩ : ∃ W, W = W1.alloc (.cells #[.int .i64 1, .int .i64 1, .int .i64 1, .int .i64 2, .int .i64 3] 3) := ⟨_, rfl⟩
  have b2 : Below W1.heap.size W1 W2 := by rw [hW2]; exact (Below.refl _ _).alloc (Nat.le_refl _) _
  have i2 : Row W2 W1.heap.size 3 [.int .i64 1, .int .i64 1, .int .i64 1, .int .i64 2, .int .i64 3] := by rw [hW2]; exact Row.new _ _ _
  rw [sz1] at i2
  go_wp2_with fail
  rw [← hW2]
  clear hW2
  refine (pick_any W0 Rb a n cap f W2 p 5 (r1.later b2) h0 (by omega)).mono ?_
  rintro e X ⟨⟨v, rfl, hv0, hv1⟩, hr1, on1⟩
  have i3 := i2.only on1 (by omega)
  have c0 := i3.cell 0 rfl
  have c1 := i3.cell 1 rfl
  have c2 := i3.cell 2 rfl
  have c3 := i3.cell 3 rfl
  have c4 := i3.cell 4 rfl
  have FIN : ∀ kd, Hid (DrwAt W0 Rb a n cap f W1 X.heap.size (X.alloc (.cells #[.int .i64 s, .int .i64 kd, .slice none 0 0, .slice none 0 0, .slice none 0 0, .slice none 0 0] 38)) (p + 1) ⟨s, kd, [], [], [], []⟩ none none none none 0 0 0 0) := fun kd => DrwAt.start hr1 ((Only.of b2).trans on1) (by omega) s kd
  have hv5 : v = 0 ∨ v = 1 ∨ v = 2 ∨ v = 3 ∨ v = 4 := by omega
  clear hv0 hv1 hr1 on1 i2 i3 b2 rB rZ d1 hin h b1
  rcases hv5 with rfl | rfl | rfl | rfl | rfl
  all_goals
   go_wp2_with fail
   go_meet
   exact ⟨X.heap.size, _, rfl, (FIN _).out⟩
 case rest =>
  obtain ⟨Sb, kd, rfl, dA⟩ := hcut
  obtain ⟨m, c, hsr, hsm, hsc⟩ := d1.spots
  have hf1 := d1.f1
  have hvs := d1.valves
  have hf2 := d1.f2
  have hSb : w.heap.size + 2 ≤ Sb := by have := dA.new; omega
  have hlow : ∀ q : Nat, q = Rb → q < Rb + 1 := fun q hq => by omega
  have BOOK : ∀ X, Only (fun q => q = Rb) W1 X → Row X w.heap.size 28 [.slice af x.foes.length cf, .slice ap x.spots.length cp, .slice av x.valves.length cv, .slice aq x.parts.length cq, .int .i64 x.seen] := fun X ho => rB.only ho (by omega)
  clear r1 hin
  have g1 : wc.cell? ⟨Sb, 1, none⟩ = some (.int .i64 kd) := dA.row.cell 1 rfl
  go_upto_if 24 with fail
  go_cut [7] (fun q wx => ∃ (l : List ByteArray) (a2 : Option Addr) (c2 : Nat) (p' : Int), q = .pointer (some ⟨Sb, 0, none⟩) ∧ DrwAt W0 Rb a n cap f W1 Sb wx (p') ⟨s, kd, l, [], [], []⟩ a2 none none none c2 0 0 0 ∧ l.length ≤ 10001 ∧ p ≤ p' ∧ p' ≤ p + 110)
  case first =>
   by_cases hk : kd = 1
   · have hkb : (kd == 1) = true := by simp [hk]
     clear hk
     obtain ⟨W5, hW5⟩ : ∃ W, W = wc.alloc (.cells #[.string { data := #[97, 108, 101] }, .string { data := #[109, 97, 108, 116] }, .string { data := #[119, 97, 116, 101, 114] }, .string { data := #[108, 121, 101] }] 9) := ⟨_, rfl⟩
     have b5 : Below wc.heap.size wc W5 := by rw [hW5]; exact (Below.refl _ _).alloc (Nat.le_refl _) _
     have n5 : StrsAt W5 (some ⟨wc.heap.size, 0, none⟩) drawNames := strsAt_row drawNames (by rw [hW5]; exact Row.new _ _ _)
     have dB := dA.later b5
     have hSw : Sb < wc.heap.size := dA.row.lt
     have hold := dA.old
     have hnew := dA.new
     clear dA b5
     go_wp2_with fail
     rw [← hW5]
     clear hW5
     refine (of_any W0 Rb a n cap f W5 (p + 1) dB.rd (by omega) (by omega) (some ⟨wc.heap.size, 0, none⟩) 4 drawNames n5 (fun q hq => by obtain ⟨_, o, e⟩ := hq; cases e; omega) (by decide) (by decide)).mono ?_
     rintro e X6 ⟨⟨j, hj, rfl⟩, hr6, on6⟩
     have dC := dB.pick hr6 on6
     have sj := gs_short drawNames_short hj
     have e2 : X6.cell? ⟨Sb, 2, none⟩ = some (.slice none 0 0) := dC.row.cell 2 rfl
     have e2f := dC.row.frozen 2
     have szX6 : Sb < X6.heap.size := dC.row.lt
     have dD := dC.first sj
     generalize gs drawNames j = sn at dD ⊢
     have DD : Hid _ := dD
     clear dD dC dB hr6 on6 n5 sj
     go_wp2_with fail
     go_loopw [8] (fun i wr => ∃ (k : Nat) (l : List ByteArray) (a2 : Option Addr) (c2 : Nat) (p' : Int) (X : World), X = wr ∧ k ≤ x.spots.length ∧ i = .int .i64 k ∧ DrwAt W0 Rb a n cap f W1 Sb X (p') ⟨s, kd, l, [], [], []⟩ a2 none none none c2 0 0 0 ∧ l.length ≤ 1 + 100 * k ∧ p ≤ p' ∧ p' ≤ p + 2 + k) (fun i _ => x.spots.length - (intOf i).toNat)
     case atStart => exact ⟨0, [sn], _, _, _, _, rfl, Nat.zero_le _, rfl, DD.out, by simp, by omega, by omega⟩
     case round =>
      obtain ⟨k, l, a2, c2, p', X, rfl, hk, rfl, dw, hl, hp1, hp2⟩ := hrel
      clear DD e2 e2f
      have y1 : X.cell? ⟨w.heap.size, 1, none⟩ = some (.slice ap x.spots.length cp) := (BOOK _ dw.on).cell 1 rfl
      by_cases hlt : k < x.spots.length
      · have hlt2 : (k : Int) < x.spots.length := by omega
        have hmay := (hT.spots.2 _ (gp_mem hlt)).2.1
        go_wp2_with fail
        refine (pick_any W0 Rb a n cap f X p' 4 dw.rd (by omega) (by omega)).mono ?_
        rintro e X1 ⟨⟨v, rfl, hv0, hv1⟩, hr1, on1⟩
        have dw1 := dw.pick hr1 on1
        have DW0 : Hid _ := dw
        clear dw hr1 on1 hv1 y1
        by_cases hv : v = 0
        · subst hv
          go_wp2_with fail
          go_loopw [9] (fun j wr => ∃ (q : Nat) (l' : List ByteArray) (a2' : Option Addr) (c2' : Nat) (Y : World), Y = wr ∧ q ≤ (gp x.spots k).may.length ∧ j = .int .i64 q ∧ DrwAt W0 Rb a n cap f W1 Sb Y (p' + 1) ⟨s, kd, l', [], [], []⟩ a2' none none none c2' 0 0 0 ∧ l'.length ≤ l.length + q) (fun j _ => (gp x.spots k).may.length - (intOf j).toNat)
          case atStart => exact ⟨0, l, a2, c2, _, rfl, Nat.zero_le _, rfl, dw1, by omega⟩
          case round =>
           obtain ⟨q, l', a2', c2', Y, rfl, hq, rfl, dwY, hl'⟩ := hrel
           clear dw1
           have y1 : Y.cell? ⟨w.heap.size, 1, none⟩ = some (.slice ap x.spots.length cp) := (BOOK _ dwY.on).cell 1 rfl
           obtain ⟨bs, os, has, hbs, hcs⟩ := (RowAt.low hsr dwY.on hf1 hlow) k hlt
           have hcs0 : Y.cell? ⟨bs, os + k * 5, none⟩ = some (.string (gp x.spots k).name) := hcs 0 (by omega)
           have hcs1 : Y.cell? ⟨bs, os + k * 5 + 1, none⟩ = some (.int .i64 (gp x.spots k).cap) := hcs 1 (by omega)
           have hcs4 : Y.cell? ⟨bs, os + k * 5 + 4, none⟩ = some (.slice (m k) (gp x.spots k).may.length (c k)) := hcs 4 (by omega)
           rw [has] at y1
           clear hcs has
           by_cases hqt : q < (gp x.spots k).may.length
           · have hqt2 : (q : Int) < (gp x.spots k).may.length := by omega
             obtain ⟨bm, om, ham, hbm, hcm⟩ := (RowAt.low (hsm k hlt).1 dwY.on (hsm k hlt).2 hlow) q hqt
             have hcm0 : Y.cell? ⟨bm, om + q, none⟩ = some (.string (gs (gp x.spots k).may q)) := by have := hcm 0 (by omega); simpa using this
             rw [ham] at hcs4
             clear hcm ham
             have hY0 : Y.cell? ⟨Sb, 2, none⟩ = some (.slice a2' l'.length c2') := dwY.row.cell 2 rfl
             have hS : ∀ W, Below Y.heap.size Y W → (W.cell? ⟨Sb, 2, none⟩ = some (.slice a2' l'.length c2') ∧ W.cell? ⟨w.heap.size, 1, none⟩ = some (.slice (some ⟨bs, os, none⟩) x.spots.length cp) ∧ W.cell? ⟨bs, os + k * 5 + 4, none⟩ = some (.slice (some ⟨bm, om, none⟩) (gp x.spots k).may.length (c k)) ∧ W.cell? ⟨bm, om + q, none⟩ = some (.string (gs (gp x.spots k).may q))) := fun W hb => ⟨cell_later hb hY0, cell_later hb y1, cell_later hb hcs4, cell_later hb hcm0⟩
             have hS0 := hS Y (Below.refl _ _)
             have INS : ∀ W, Below Y.heap.size Y W → Calls Tryz.prog 166 #[.slice a2' l'.length c2', .string (gs (gp x.spots k).may q)] W fun e w' => (∃ a' c', e = .returned (.slice a' (insS l' (gs (gp x.spots k).may q)).length c') ∧ OwnL w' 9 1 a' (insS l' (gs (gp x.spots k).may q)).length (strF (insS l' (gs (gp x.spots k).may q))) ∧ (insS l' (gs (gp x.spots k).may q)).length ≤ c' ∧ ∀ y, InSlot a' (insS l' (gs (gp x.spots k).may q)).length y → InSlot a2' l'.length y ∨ W.heap.size ≤ y) ∧ Below W.heap.size W w' := fun W hb => l3Insert_own a2' c2' l' _ W (dwY.s2.later hb) (by omega) dwY.k2
             have hss : (gs (gp x.spots k).may q).size ≤ 100 := (hT.spots.2 _ (gp_mem hlt)).2.2 _ (gs_mem hqt)
             generalize gs (gp x.spots k).may q = sx at hS hS0 INS hss hcm0
             have hsl := insS_len sx l'
             have hsh : ∀ t ∈ insS l' sx, t.size ≤ 100 := fun t ht => (mem_insS ht).elim (fun h => dwY.short.stuffs t h) (fun h => by rw [h]; exact hss)
             generalize insS l' sx = li at INS hsl hsh
             go_wp2_with fail
             refine wp_region_E (fun W => W.cell? ⟨Sb, 2, none⟩ = some (.slice a2' l'.length c2') ∧ W.cell? ⟨w.heap.size, 1, none⟩ = some (.slice (some ⟨bs, os, none⟩) x.spots.length cp) ∧ W.cell? ⟨bs, os + k * 5 + 4, none⟩ = some (.slice (some ⟨bm, om, none⟩) (gp x.spots k).may.length (c k)) ∧ W.cell? ⟨bm, om + q, none⟩ = some (.string sx)) 13 (by kernel_rfl) ?_
             refine tk 0 ?vaa0 rfl (by kernel_rfl) (fun _ _ _ h => h) (by rfl) (hS0) ?yaa0 ?raa0
             case yaa0 => intro w' h; (try dsimp only at h); go_simp; (try with_reducible rfl)
             try simp only [Act.put, sA, sB, sC]
             refine tk 1 ?vaa1 rfl (by kernel_rfl) (fun _ _ _ h => h) (by rfl) (hS0) ?yaa1 ?raa1
             case yaa1 => intro w' h; (try dsimp only at h); go_simp; (try with_reducible rfl)
             try simp only [Act.put, sA, sB, sC]
             refine tk 2 ?vaa2 rfl (by kernel_rfl) (fun _ _ _ h => h) (by rfl) (hS0) ?yaa2 ?raa2
             case yaa2 => intro w' h; (try dsimp only at h); go_simp; (try with_reducible rfl)
             try simp only [Act.put, sA, sB, sC]
             refine tk 3 ?vaa3 rfl (by kernel_rfl) (fun _ _ _ h => h) (by rfl) (hS0) ?yaa3 ?raa3
             case yaa3 => intro w' h; (try dsimp only at h); go_simp; (try with_reducible rfl)
             try simp only [Act.put, sA, sB, sC]
             refine tk 4 ?vaa4 rfl (by kernel_rfl) (fun _ _ _ h => h) (by rfl) (hS0) ?yaa4 ?raa4
             case yaa4 => intro w' h; (try dsimp only at h); go_simp; (try with_reducible rfl)
             try simp only [Act.put, sA, sB, sC]
             refine tk 5 ?vaa5 rfl (by kernel_rfl) (fun _ _ _ h => h) (by rfl) (hS0) ?yaa5 ?raa5
             case yaa5 => intro w' h; (try dsimp only at h); go_simp; (try with_reducible rfl)
             try simp only [Act.put, sA, sB, sC]
             refine tk 6 ?vaa6 rfl (by kernel_rfl) (fun _ _ _ h => h) (by rfl) (hS0) ?yaa6 ?raa6
             case yaa6 => intro w' h; (try dsimp only at h); go_simp; (try with_reducible rfl)
             try simp only [Act.put, sA, sB, sC]
             refine tk 7 ?vaa7 rfl (by kernel_rfl) (fun _ _ _ h => h) (by rfl) (hS0) ?yaa7 ?raa7
             case yaa7 => intro w' h; (try dsimp only at h); go_simp; (try with_reducible rfl)
             try simp only [Act.put, sA, sB, sC]
             refine tk 8 ?vaa8 rfl (by kernel_rfl) (fun _ _ _ h => h) (by rfl) (hS0) ?yaa8 ?raa8
             case yaa8 => intro w' h; (try dsimp only at h); go_simp; (try with_reducible rfl)
             try simp only [Act.put, sA, sB, sC]
             refine tk 9 ?vaa9 rfl (by kernel_rfl) (fun _ _ _ h => h) (by rfl) (hS0) ?yaa9 ?raa9
             case yaa9 => intro w' h; (try dsimp only at h); go_simp; (try with_reducible rfl)
             try simp only [Act.put, sA, sB, sC]
             refine tk 10 ?vaa10 rfl (by kernel_rfl) (fun _ _ _ h => h) (by rfl) (hS0) ?yaa10 ?raa10
             case yaa10 => intro w' h; (try dsimp only at h); go_simp; (try with_reducible rfl)
             try simp only [Act.put, sA, sB, sC]
             refine wpAnyE_oneC (i := 11) rfl (by kernel_rfl) ?_
             intro K hK
             rw [if_pos (by rfl)]
             go_wp2_with (go_at_call 166; refine (INS _ (by (repeat (first | assumption | exact Below.refl _ _ | refine Below.drew ?_ | refine Below.alloc ?_ (by (try simp); (try omega)) _ | refine Below.setCell ?_ (by (try simp); (try omega)) _)))).mono ?_; rintro e X9 ⟨⟨a9, c9, rfl, ow9, hc9, at9⟩, hb9⟩; have hz9 := hb9.size; have bX9 : Below Y.heap.size Y X9 := below_next (by (repeat (first | assumption | exact Below.refl _ _ | refine Below.drew ?_ | refine Below.alloc ?_ (by (try simp); (try omega)) _ | refine Below.setCell ?_ (by (try simp); (try omega)) _))) hb9; have at9' : ∀ q, InSlot a9 li.length q → InSlot a2' l'.length q ∨ Y.heap.size ≤ q := fun q hq => at9 q hq; clear at9)
             refine hK.out _ _ (fun _ => hS _ bX9) ?_
             clear hK K
             try simp only [Act.put, sA, sB, sC]
             have f2 := (dwY.row.later bX9).frozen 2
             have e2 : X9.cell? ⟨Sb, 2, none⟩ = some (.slice a2' l'.length c2') := (dwY.row.later bX9).cell 2 rfl
             have dn := dwY.stuffs bX9 ow9 hc9 at9' hsh
             have DN : Hid _ := dn
             clear dn at9' ow9 INS
             refine tk 12 ?vaa12 rfl (by kernel_rfl) (fun _ _ _ h => h) (by rfl) (hS _ bX9) ?yaa12 ?raa12
             case yaa12 => intro w' h; (try dsimp only at h); go_simp; (try with_reducible rfl)
             try simp only [Act.put, sA, sB, sC]
             refine wpAnyE_oneC (i := 13) rfl (by kernel_rfl) ?_
             intro K hK
             rw [if_pos (by rfl)]
             go_wp2_with fail
             refine hK.out _ _ (fun h => absurd rfl h) ?_
             clear hK K
             try simp only [Act.put, sA, sB, sC]
             refine wpAnyE_done (by kernel_rfl) ?_ _
             clear hS hS0 hY0 y1 hcs0 hcs1 hcs4 hcm0 f2 e2 bX9 hb9
             go_wp2
             go_roundw
             case rel => exact ⟨q + 1, li, _, _, _, rfl, by omega, by go_num, DN.out, by omega⟩
             case measure => simp [intOf]; omega
           · have hqt2 : ¬ (q : Int) < (gp x.spots k).may.length := by omega
             have DN : Hid _ := dwY
             clear dwY
             go_wp2
             go_roundw
             case rel => exact ⟨k + 1, l', _, _, _, _, rfl, by omega, by go_num, DN.out, by omega, by omega, by omega⟩
             case measure => simp [intOf]; omega
        · have hvb : (v == 0) = false := by simp [hv]
          have DN : Hid _ := dw1
          clear dw1
          go_wp2_with fail
          go_meet
          exact ⟨l, a2, c2, _, rfl, DN.out, by omega, by omega, by omega⟩
      · have hlt2 : ¬ (k : Int) < x.spots.length := by omega
        have DN : Hid _ := dw
        clear dw
        go_wp2_with fail
        go_meet
        exact ⟨l, a2, c2, _, rfl, DN.out, by omega, by omega, by omega⟩
   · have hkb : (kd == 1) = false := by simp [hk]
     have DN : Hid _ := dA
     clear dA
     go_wp2_with fail
     go_meet
     exact ⟨[], none, 0, p + 1, rfl, DN.out, by simp, by omega, by omega⟩
  case rest =>
   obtain ⟨l0, a20, c20, p0, rfl, dE, hl0, hp00, hp01⟩ := hcut
   clear dA
   go_step
   exact l5Draw_tail W0 Rb a n cap f w p h0 h1 x af ap av aq cf cp cv cq hT s hRb W1 b1 rB rZ sz1 d1 Sb kd wc l0 a20 c20 p0 dE hl0 hp00 hp01 u8 u9 u15 u16 u17 u18 u19 u20 u21 u22 u23 u24 u25 u26 u27 u28 u29 u30 u31 u32 u33 u34 u35 u36 u37 u38 u39 u40 u41 u42 u43 u44 u45 u46 u47 u48 u49 u50 u51 u52 u53 u54 u55 u56 u57 u58 u59 u60 u61 u62 u63 u64 u65 u66 u67 u68 u69 u70 u71 u72 u73 u74 u75 u76 u77 u78 u79 u80 u81 u82 u83 u84 u85 u86 u87 u88 u89 u90 u91 u92 u93 u94 u95 u96 u97 u98 u99 u100 u101 u102 u103 u104 u105 u106 u107 u108 u109 u110 u111 u112 u113 u114 u115 u116 u117 u118 u119 u120 u121 u122 u123 u124 u125 u126 u127 u128 u129 u130 u131 u132 u133 u134 u135 u136 u137 u138 u139 u140 u141 u142 u143 u144 u145 u146 u147 u148 u149 u150 u151 u152 u153 u154 u155 u156 u157 u158 u159 u160 u161 u162 u163 u164 u165 u166 u167 u168 u169 u170 u171 u172 u173 u174 u175 u176 u177 u178 u179 u180 u181 u182 u183 rfl

end Go.Proofs.YtfmhkicncgccjaaGreat

