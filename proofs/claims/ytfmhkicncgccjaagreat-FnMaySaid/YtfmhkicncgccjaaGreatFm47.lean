/- Joined: DrX, DrF, DrG, DrY, OvP, DrU, DrZ, OwD. -/
import Derived.Test.YtfmhkicncgccjaaGreatFm46
import Derived.Test.YtfmhkicncgccjaaGreatFm09
import Derived.Test.YtfmhkicncgccjaaGreatFm06
import Derived.Test.YtfmhkicncgccjaaGreatFm26
import Derived.Test.YtfmhkicncgccjaaGreatFm42
import Derived.Test.YtfmhkicncgccjaaGreatFm20
import Derived.Test.YtfmhkicncgccjaaGreatFm41
import Derived.Test.YtfmhkicncgccjaaGreatFm24
/- What l5Any answers. -/
namespace Go.Proofs.YtfmhkicncgccjaaGreat
open Go.RowKit Go.Sort
set_option linter.unusedSimpArgs false
set_option linter.unusedVariables false

/-- What is answered where the variable Zb, made behind w, is written last. -/
theorem anyOf_end {W0 : World} {Rb : Nat} {a : Option Addr} {n cap : Nat} {f : Nat → Nat} {w X : World} {Zb : Nat} {p p' d : Int} {x : Book} {af ap av aq : Option Addr} {cf cp cv cq : Nat} (hr : Rd W0 Rb a n cap f X p') (on : Only (fun q => q = Rb) w X) (hz : w.heap.size ≤ Zb) (old : Rb < w.heap.size) (dr : DrB (Zb + 1) X x af ap av aq) (hS : Small x) (hp : p ≤ p') (hp' : p' ≤ p + d) (v0 v1 v2 v3 v4 : Value) :
 AnyOf W0 Rb a n cap f w.heap.size p d (.returned (bookV x af ap av aq cf cp cv cq)) (set5 X Zb v0 v1 v2 v3 v4) ∧ Only (fun q => q = Rb) w (set5 X Zb v0 v1 v2 v3 v4) := by
 have oc : Only (fun q => q = Zb) X (set5 X Zb v0 v1 v2 v3 v4) := set5_only (D := fun q => q = Zb) (Only.refl _ _) Zb rfl _ _ _ _ _
 exact ⟨⟨x, af, ap, av, aq, cf, cp, cv, cq, p', rfl, (dr.low oc (fun q hq => by have : q = Zb := hq; omega)).mono (by omega), hS, hp, hp', hr.only oc (fun q hq => by have : q = Zb := hq; omega)⟩, on.next oc (fun q hq hq' => by have : q = Zb := hq; omega)⟩
set_option maxRecDepth 100000 in
set_option maxHeartbeats 8000000 in
theorem l5Any_any (W0 : World) (Rb : Nat) (a : Option Addr) (n cap : Nat) (f : Nat → Nat) (w : World) (p : Int) (h : Rd W0 Rb a n cap f w p) (h0 : 0 ≤ p) (h1 : p ≤ 500000000) :
 Calls Tryz.prog 26 #[.pointer (some ⟨Rb, 0, none⟩)] w fun e w' => AnyOf W0 Rb a n cap f w.heap.size p 500000 e w' ∧ Only (fun q => q = Rb) w w' := by
 have hRb := h.row.lt
 obtain ⟨W1, hW1⟩ : ∃ W, W = w.alloc (.cells #[.slice none 0 0, .slice none 0 0, .slice none 0 0, .slice none 0 0, .int .i64 0] 28) := ⟨_, rfl⟩
 have b1 : Below w.heap.size w W1 := by rw [hW1]; exact (Below.refl _ _).alloc (Nat.le_refl _) _
 have rZ : Row W1 w.heap.size 28 [.slice none 0 0, .slice none 0 0, .slice none 0 0, .slice none 0 0, .int .i64 0] := by rw [hW1]; exact Row.new _ _ _
 have sz1 : W1.heap.size = w.heap.size + 1 := by rw [hW1]; simp
 go_enter Tryz.func26, Tryz.ntmps26
 go_wp2_with fail
 rw [← hW1]
 clear hW1
 refine (l5Book_any W0 Rb a n cap f W1 p (h.later b1) h0 (by omega)).mono ?_
 rintro e X ⟨⟨x, af, ap, av, aq, cf, cp, cv, cq, p1, rfl, dr, tiny, hp1, hp2, hr⟩, on⟩
 unfold bookV
 obtain ⟨Bb, hBb⟩ : ∃ b, b = X.heap.size := ⟨_, rfl⟩
 obtain ⟨X2, hX2⟩ : ∃ W, W = X.alloc (.cells #[.slice af x.foes.length cf, .slice ap x.spots.length cp, .slice av x.valves.length cv, .slice aq x.parts.length cq, .int .i64 x.seen] 28) := ⟨_, rfl⟩
 have b2 : Below X.heap.size X X2 := by rw [hX2]; exact (Below.refl _ _).alloc (Nat.le_refl _) _
 have rB : Row X2 Bb 28 [.slice af x.foes.length cf, .slice ap x.spots.length cp, .slice av x.valves.length cv, .slice aq x.parts.length cq, .int .i64 x.seen] := by rw [hX2, hBb]; exact Row.new _ _ _
 have on2 : Only (fun q => q = Rb) W1 X2 := on.trans (Only.of b2)
 have dr2 : DrB (w.heap.size + 1) X2 x af ap av aq := (dr.later b2).mono (by omega)
 have hr2 := hr.later b2
 have hBb1 : w.heap.size + 1 ≤ Bb := by have := on.size; omega
 clear hr on dr
 go_wp2_with fail
 rw [← hX2, ← hBb]
 clear hX2 hBb b2
 refine (pick_any W0 Rb a n cap f X2 p1 20 hr2 (by omega) (by omega)).mono ?_
 rintro e Y ⟨⟨v, rfl, hv0, hv1⟩, hrY, onY⟩
 have rBY := rB.only onY (by omega)
 have drY := dr2.low onY (fun q hq => by have : q = Rb := hq; omega)
 have onY1 := on2.trans onY
 have zY := rZ.only onY1 (by omega)
 have g0 := rBY.cell 0 rfl
 have g1 := rBY.cell 1 rfl
 have g2 := rBY.cell 2 rfl
 have g3 := rBY.cell 3 rfl
 have g4 := rBY.cell 4 rfl
 clear rB dr2 on2 hr2 onY hv0 hv1
 by_cases hv : v = 0
 · subst hv
   have SPOIL := l5Spoil_any W0 Rb a n cap f Y (p1 + 1) hrY (by omega) (by omega) x af ap av aq cf cp cv cq (drY.mono (by omega)) tiny
   unfold bookV at SPOIL
   go_wp2_with fail
   refine SPOIL.mono ?_
   rintro e Z ⟨⟨x', f0, f1, f2, f3, k0, k1, k2, k3, p3, rfl, drZ, small, hp3, hp4, hrZ⟩, onZ⟩
   unfold bookV
   have onZ1 := onY1.trans onZ
   have zZ := zY.only onZ (by omega)
   have hzY := onY1.size
   have onw : Only (fun q => q = Rb) w Z := (Only.of b1).trans onZ1
   have FIN : ∀ v0 v1 v2 v3 v4, Hid _ := fun v0 v1 v2 v3 v4 => anyOf_end (p := p) (d := 500000) (cf := k0) (cp := k1) (cv := k2) (cq := k3) hrZ onw (Nat.le_refl _) hRb (drZ.mono (by omega)) small (by omega) (by omega) v0 v1 v2 v3 v4
   have z0 := zZ.cell 0 rfl
   have zf0 := zZ.frozen 0
   have z1 := zZ.cell 1 rfl
   have zf1 := zZ.frozen 1
   have z2 := zZ.cell 2 rfl
   have zf2 := zZ.frozen 2
   have z3 := zZ.cell 3 rfl
   have zf3 := zZ.frozen 3
   have z4 := zZ.cell 4 rfl
   have zf4 := zZ.frozen 4
   clear SPOIL drZ hrZ onZ onZ1 onw zZ zY rBY drY hrY onY1
   go_wp2
   refine bodyPost_ret (v := .agg #[.slice f0 x'.foes.length k0, .slice f1 x'.spots.length k1, .slice f2 x'.valves.length k2, .slice f3 x'.parts.length k3, .int .i64 x'.seen])
    (by simp [results, Tryz.results26, go_sem, z0, z1, z2, z3, z4]) rfl ?_
   exact (FIN _ _ _ _ _).out
 · have hvb : (v == 0) = false := by simp [hv]
   have onw : Only (fun q => q = Rb) w Y := (Only.of b1).trans onY1
   have FIN : ∀ v0 v1 v2 v3 v4, Hid _ := fun v0 v1 v2 v3 v4 => anyOf_end (p := p) (d := 500000) (cf := cf) (cp := cp) (cv := cv) (cq := cq) hrY onw (Nat.le_refl _) hRb (drY.mono (by omega)) tiny.small (by omega) (by omega) v0 v1 v2 v3 v4
   have z0 := zY.cell 0 rfl
   have zf0 := zY.frozen 0
   have z1 := zY.cell 1 rfl
   have zf1 := zY.frozen 1
   have z2 := zY.cell 2 rfl
   have zf2 := zY.frozen 2
   have z3 := zY.cell 3 rfl
   have zf3 := zY.frozen 3
   have z4 := zY.cell 4 rfl
   have zf4 := zY.frozen 4
   clear onw zY rBY drY hrY onY1
   go_wp2
   refine bodyPost_ret (v := .agg #[.slice af x.foes.length cf, .slice ap x.spots.length cp, .slice av x.valves.length cv, .slice aq x.parts.length cq, .int .i64 x.seen])
    (by simp [results, Tryz.results26, go_sem, z0, z1, z2, z3, z4]) rfl ?_
   exact (FIN _ _ _ _ _).out

end Go.Proofs.YtfmhkicncgccjaaGreat

/- The reader that l1Open makes. -/
namespace Go.Proofs.YtfmhkicncgccjaaGreat
open Go.RowKit Go.Sort
set_option linter.unusedSimpArgs false
set_option linter.unusedVariables false

/-- A reader at its beginning is answered, in a new block. -/
def Opened (w : World) (f : Nat → Nat) (e : Ending) (w' : World) : Prop := ∃ (a : Option Addr) (n cap : Nat), e = .returned (.pointer (some ⟨w.heap.size, 0, none⟩)) ∧ Rd w w.heap.size a n cap f w' 0
set_option maxRecDepth 100000 in
set_option maxHeartbeats 2000000 in
theorem l1Open_any (w : World) (a : Option Addr) (n cap : Nat) (f : Nat → Nat) (hb : RowAt w a n 1 (fun k _ => .int .u8 (f k))) (hf : ∀ k, f k < 256) (hc : n ≤ cap) :
 Calls Tryz.prog 25 #[.slice a n cap] w fun e w' => Opened w f e w' ∧ Below w.heap.size w w' := by
 by_cases hn : 2000 < n
 · obtain ⟨b, o, rfl, -, -⟩ := hb 0 (by omega)
   have hn2 : (2000 : Int) < n := by omega
   have hc2 : 2000 ≤ cap := by omega
   have FIN : Hid (Opened w f (.returned (.pointer (some ⟨w.heap.size, 0, none⟩))) (w.alloc (.cells #[.slice (some ⟨b, o, none⟩) 2000 cap, .int .i64 0] 92)) ∧ Below w.heap.size w (w.alloc (.cells #[.slice (some ⟨b, o, none⟩) 2000 cap, .int .i64 0] 92))) := by
    have b1 : Below w.heap.size w (w.alloc (.cells #[.slice (some ⟨b, o, none⟩) 2000 cap, .int .i64 0] 92)) := (Below.refl _ _).alloc (Nat.le_refl _) _
    exact ⟨⟨_, 2000, cap, rfl, ⟨Row.new _ _ _, b1, Nat.le_refl _, fun k hk => hb k (by omega), hf, Nat.le_refl _⟩⟩, b1⟩
   go_enter Tryz.func25, Tryz.ntmps25
   go_wp2
   go_ret
   exact FIN.out
 · have hn2 : ¬ (2000 : Int) < n := by omega
   have FIN : Hid (Opened w f (.returned (.pointer (some ⟨w.heap.size, 0, none⟩))) (w.alloc (.cells #[.slice a n cap, .int .i64 0] 92)) ∧ Below w.heap.size w (w.alloc (.cells #[.slice a n cap, .int .i64 0] 92))) := by
    have b1 : Below w.heap.size w (w.alloc (.cells #[.slice a n cap, .int .i64 0] 92)) := (Below.refl _ _).alloc (Nat.le_refl _) _
    exact ⟨⟨a, n, cap, rfl, ⟨Row.new _ _ _, b1, Nat.le_refl _, hb, hf, by omega⟩⟩, b1⟩
   go_enter Tryz.func25, Tryz.ntmps25
   go_wp2
   go_ret
   exact FIN.out

end Go.Proofs.YtfmhkicncgccjaaGreat

/- What l5Valve answers. -/
namespace Go.Proofs.YtfmhkicncgccjaaGreat
open Go.RowKit Go.Sort
set_option linter.unusedSimpArgs false
set_option linter.unusedVariables false

def valveNames : List ByteArray := [{ data := #[] }, { data := #[122, 122] }, { data := #[97] }]
theorem valveNames_short : ∀ s ∈ valveNames, s.size ≤ 100 := by decide
set_option maxRecDepth 100000 in
set_option maxHeartbeats 4000000 in
theorem l5Valve_any (W0 : World) (Rb : Nat) (a : Option Addr) (n cap : Nat) (f : Nat → Nat) (w : World) (p : Int) (h : Rd W0 Rb a n cap f w p) (h0 : 0 ≤ p) (h1 : p ≤ 900000000) (x : Book) (af ap av aq : Option Addr) (cf cp cv cq : Nat) (hin : DrB (Rb + 1) w x af ap av aq) (hT : x.parts.length ≤ 1000 ∧ x.valves.length ≤ 1000) (hN : ∀ s ∈ x.valves, s.size ≤ 1000) :
 Calls Tryz.prog 27 #[.pointer (some ⟨Rb, 0, none⟩), bookV x af ap av aq cf cp cv cq] w fun e w' => NameOf W0 Rb a n cap f p 2 e w' ∧ Only (fun q => q = Rb) w w' := by
 have hRb := h.row.lt
 unfold bookV
 obtain ⟨W1, hW1⟩ : ∃ W, W = w.alloc (.cells #[.slice af x.foes.length cf, .slice ap x.spots.length cp, .slice av x.valves.length cv, .slice aq x.parts.length cq, .int .i64 x.seen] 28) := ⟨_, rfl⟩
 have b1 : Below w.heap.size w W1 := by rw [hW1]; exact (Below.refl _ _).alloc (Nat.le_refl _) _
 have v1 : VarAt W0 Rb a n cap f w w.heap.size 28 W1 p [.slice af x.foes.length cf, .slice ap x.spots.length cp, .slice av x.valves.length cv, .slice aq x.parts.length cq, .int .i64 x.seen] := ⟨by rw [hW1]; exact Row.new _ _ _, h.later b1, Only.of b1, Nat.le_refl _, hRb⟩
 have d1 := hin.later b1
 by_cases hp : 0 < x.valves.length
 · have hp2 : (0 : Int) < x.valves.length := by omega
   go_enter Tryz.func27, Tryz.ntmps27
   go_wp2_with fail
   rw [← hW1]
   clear hW1
   refine (pick_any W0 Rb a n cap f W1 p 10 v1.rd h0 (by omega)).mono ?_
   rintro e X ⟨⟨v, rfl, hv0, hv1⟩, hr1, on1⟩
   have vX := v1.pick hr1 on1
   have dX := d1.low on1 (fun q hq => by have : q = Rb := hq; omega)
   clear v1 d1 hr1 on1 hv1
   by_cases hv : 0 < v
   · have hS2 : ∀ W, Only (fun q => q = Rb) X W → W.cell? ⟨w.heap.size, 2, none⟩ = some (.slice av x.valves.length cv) := fun W hb => cell_only hb (vX.row.cell 2 rfl) vX.row.lt (by omega)
     have hS20 := hS2 X (Only.refl _ _)
     have rX := vX.rd
     have onw := vX.on
     go_wp2_with fail
     refine wp_region_E (fun W => W.cell? ⟨w.heap.size, 2, none⟩ = some (.slice av x.valves.length cv)) 9 (by kernel_rfl) ?_
     refine tk 0 ?vak0 rfl (by kernel_rfl) (fun _ _ _ h => h) (by rfl) hS20 ?yak0 ?rak0
     case yak0 => intro w' h; (try dsimp only at h); go_simp; (try with_reducible rfl)
     try simp only [Act.put, sA, sB, sC]
     refine tk 1 ?vak1 rfl (by kernel_rfl) (fun _ _ _ h => h) (by rfl) hS20 ?yak1 ?rak1
     case yak1 => intro w' h; (try dsimp only at h); go_simp; (try with_reducible rfl)
     try simp only [Act.put, sA, sB, sC]
     refine tk 2 ?vak2 rfl (by kernel_rfl) (fun _ _ _ h => h) (by rfl) hS20 ?yak2 ?rak2
     case yak2 => intro w' h; (try dsimp only at h); go_simp; (try with_reducible rfl)
     try simp only [Act.put, sA, sB, sC]
     refine tk 3 ?vak3 rfl (by kernel_rfl) (fun _ _ _ h => h) (by rfl) hS20 ?yak3 ?rak3
     case yak3 => intro w' h; (try dsimp only at h); go_simp; (try with_reducible rfl)
     try simp only [Act.put, sA, sB, sC]
     refine tk 4 ?vak4 rfl (by kernel_rfl) (fun _ _ _ h => h) (by rfl) hS20 ?yak4 ?rak4
     case yak4 => intro w' h; (try dsimp only at h); go_simp; (try with_reducible rfl)
     try simp only [Act.put, sA, sB, sC]
     refine tk 5 ?vak5 rfl (by kernel_rfl) (fun _ _ _ h => h) (by rfl) hS20 ?yak5 ?rak5
     case yak5 => intro w' h; (try dsimp only at h); go_simp; (try with_reducible rfl)
     try simp only [Act.put, sA, sB, sC]
     refine wpAnyE_oneC (i := 6) rfl (by kernel_rfl) ?_
     intro K hK
     rw [if_pos (by rfl)]
     go_wp2_with (go_at_call 71; refine (pick_any W0 Rb a n cap f _ (p + 1) x.valves.length (by (repeat (first | assumption | refine rd_drew ?_ | refine rd_alloc ?_ _))) (by omega) (by omega)).mono ?_; rintro e X9 ⟨⟨v9, rfl, hv90, hv91⟩, hr9, on9⟩; have onX : Only (fun q => q = Rb) X X9 := Only.trans (by (repeat (first | assumption | exact Only.refl _ _ | refine on_drew ?_ | refine on_alloc ?_ _))) on9)
     refine hK.out _ _ (fun _ => hS2 _ onX) ?_
     clear hK K
     try simp only [Act.put, sA, sB, sC]
     obtain ⟨i, rfl⟩ : ∃ i : Nat, v9 = i := ⟨v9.toNat, by omega⟩
     have hi : i < x.valves.length := by omega
     have hi2 : (i : Int) < x.valves.length := by omega
     clear hv90 hv91
     obtain ⟨bq, oq, hq, hbq, hcq⟩ := (dX.low onX (fun q hq => by have : q = Rb := hq; omega)).valves i hi
     subst hq
     have hcq0 := hcq 0 (by omega)
     simp only [Nat.mul_one, Nat.add_zero] at hcq0
     clear hcq
     refine wpAnyE_oneC (i := 7) rfl (by kernel_rfl) ?_
     intro K hK
     rw [if_pos (by rfl)]
     go_wp2_with fail
     refine hK.out _ _ (fun _ => hS2 _ onX) ?_
     clear hK K
     try simp only [Act.put, sA, sB, sC]
     refine wpAnyE_oneC (i := 8) rfl (by kernel_rfl) ?_
     intro K hK
     rw [if_pos (by rfl)]
     go_wp2_with fail
     refine hK.out _ _ (fun _ => hS2 _ onX) ?_
     clear hK K
     try simp only [Act.put, sA, sB, sC]
     refine wpAnyE_oneC (i := 9) rfl (by kernel_rfl) ?_
     intro K hK
     rw [if_pos (by rfl)]
     go_wp2_with fail
     refine hK.out _ _ (fun h => absurd rfl h) ?_
     clear hK K
     try simp only [Act.put, sA, sB, sC]
     refine wpAnyE_done (by kernel_rfl) ?_ _
     clear hcq0
     have hsz : (gs x.valves i).size ≤ 1000 := gs_short hN hi
     generalize gs x.valves i = s at hsz ⊢
     go_wp2
     go_ret
     exact ⟨⟨s, p + 1 + 1, rfl, hsz, by omega, by omega, hr9⟩, onw.trans onX⟩
   · obtain ⟨pX, hpX, hp1, hp3⟩ : ∃ pX, pX = p + 1 ∧ p ≤ pX ∧ pX ≤ p + 1 := ⟨p + 1, rfl, by omega, by omega⟩
     rw [← hpX] at vX
     clear hpX dX
     obtain ⟨W4, hW4⟩ : ∃ W, W = X.alloc (.cells #[.string { data := #[] }, .string { data := #[122, 122] }, .string { data := #[97] }] 9) := ⟨_, rfl⟩
     have b4 : Below X.heap.size X W4 := by rw [hW4]; exact (Below.refl _ _).alloc (Nat.le_refl _) _
     have n4 : StrsAt W4 (some ⟨X.heap.size, 0, none⟩) valveNames := strsAt_row valveNames (by rw [hW4]; exact Row.new _ _ _)
     have r4 := vX.rd.later b4
     have onw := vX.on
     have hRX := vX.rd.row.lt
     go_wp2_with fail
     rw [← hW4]
     clear hW4
     refine (of_any W0 Rb a n cap f W4 pX r4 (by omega) (by omega) _ 3 valveNames n4 (fun q hq => by obtain ⟨_, o, e⟩ := hq; cases e; omega) (by decide) (by decide)).mono ?_
     rintro e w9 ⟨⟨i, hi, rfl⟩, hr9, on9⟩
     have hsz : (gs valveNames i).size ≤ 100 := gs_short valveNames_short hi
     generalize gs valveNames i = s at hsz ⊢
     go_wp2
     go_ret
     exact ⟨⟨s, pX + 1, rfl, by omega, by omega, by omega, hr9⟩, (onw.trans (Only.of b4)).trans on9⟩
 · have hp2 : ¬ (0 : Int) < x.valves.length := by omega
   have szX : W1.heap.size = w.heap.size + 1 := by rw [hW1]; simp
   go_enter Tryz.func27, Tryz.ntmps27
   go_wp2_with fail
   rw [← hW1]
   clear hW1
   obtain ⟨X, hX⟩ : ∃ X, X = W1 := ⟨_, rfl⟩
   subst hX
   obtain ⟨pX, hpX, hp1, hp3⟩ : ∃ pX, pX = p ∧ p ≤ pX ∧ pX ≤ p + 1 := ⟨p, rfl, by omega, by omega⟩
   have vX := v1
   rw [← hpX] at vX
   clear hpX v1
   obtain ⟨W4, hW4⟩ : ∃ W, W = X.alloc (.cells #[.string { data := #[] }, .string { data := #[122, 122] }, .string { data := #[97] }] 9) := ⟨_, rfl⟩
   have b4 : Below X.heap.size X W4 := by rw [hW4]; exact (Below.refl _ _).alloc (Nat.le_refl _) _
   have n4 : StrsAt W4 (some ⟨X.heap.size, 0, none⟩) valveNames := strsAt_row valveNames (by rw [hW4]; exact Row.new _ _ _)
   have r4 := vX.rd.later b4
   have onw := vX.on
   have hRX := vX.rd.row.lt
   rw [← hW4]
   clear hW4
   rw [szX] at n4
   refine (of_any W0 Rb a n cap f W4 pX r4 (by omega) (by omega) _ 3 valveNames n4 (fun q hq => by obtain ⟨_, o, e⟩ := hq; cases e; omega) (by decide) (by decide)).mono ?_
   rintro e w9 ⟨⟨i, hi, rfl⟩, hr9, on9⟩
   have hsz : (gs valveNames i).size ≤ 100 := gs_short valveNames_short hi
   generalize gs valveNames i = s at hsz ⊢
   go_wp2
   go_ret
   exact ⟨⟨s, pX + 1, rfl, by omega, by omega, by omega, hr9⟩, (onw.trans (Only.of b4)).trans on9⟩

end Go.Proofs.YtfmhkicncgccjaaGreat

/- What DrawClaimMay and DrawClaimStop answer. -/
namespace Go.Proofs.YtfmhkicncgccjaaGreat
open Go.RowKit Go.Sort
set_option linter.unusedSimpArgs false
set_option linter.unusedVariables false

/-- A book that is not too great, and a name, are answered. -/
def DrawnMay (e : Ending) (w' : World) : Prop :=
 ∃ (x : Book) (af ap av aq : Option Addr) (cf cp cv cq : Nat) (s : ByteArray), e = .returned (.tuple #[bookV x af ap av aq cf cp cv cq, .string s]) ∧ BookIn w' x af ap av aq ∧ Small x ∧ s.size ≤ 1000
/-- A book that is not too great, and a number, are answered. -/
def DrawnStop (e : Ending) (w' : World) : Prop :=
 ∃ (x : Book) (af ap av aq : Option Addr) (cf cp cv cq : Nat) (k : Int), e = .returned (.tuple #[bookV x af ap av aq cf cp cv cq, .int .i64 k]) ∧ BookIn w' x af ap av aq ∧ Small x
set_option maxRecDepth 100000 in
set_option maxHeartbeats 8000000 in
theorem drawMay_any (a : Option Addr) (n cap : Nat) (f : Nat → Nat) (w : World) (hby : RowAt w a n 1 (fun k _ => .int .u8 (f k))) (hf : ∀ k, f k < 256) (hcap : n ≤ cap) :
 Calls Tryz.prog 6 #[.slice a n cap] w fun e w' => DrawnMay e w' ∧ Below w.heap.size w w' := by
 obtain ⟨W1, hW1⟩ : ∃ W, W = w.alloc (.cells #[.slice none 0 0, .slice none 0 0, .slice none 0 0, .slice none 0 0, .int .i64 0] 28) := ⟨_, rfl⟩
 have b1 : Below w.heap.size w W1 := by rw [hW1]; exact (Below.refl _ _).alloc (Nat.le_refl _) _
 have rZ : Row W1 w.heap.size 28 [.slice none 0 0, .slice none 0 0, .slice none 0 0, .slice none 0 0, .int .i64 0] := by rw [hW1]; exact Row.new _ _ _
 have sz1 : W1.heap.size = w.heap.size + 1 := by rw [hW1]; simp
 go_enter Tryz.func6, Tryz.ntmps6
 go_wp2_with fail
 rw [← hW1]
 clear hW1
 refine (l1Open_any W1 a n cap f (hby.later b1) hf hcap).mono ?_
 rintro e X ⟨⟨a', n', cap', rfl, rd⟩, hbX⟩
 obtain ⟨Rb, hRb⟩ : ∃ b, b = W1.heap.size := ⟨_, rfl⟩
 rw [← hRb] at rd ⊢
 have hR1 : w.heap.size + 1 ≤ Rb := by omega
 have hRX := rd.row.lt
 clear hRb sz1
 go_wp2_with fail
 refine (l5Any_any W1 Rb a' n' cap' f X 0 rd (by omega) (by omega)).mono ?_
 rintro e Y ⟨⟨x, af, ap, av, aq, cf, cp, cv, cq, p1, rfl, dr, small, hp1, hp2, hr⟩, on⟩
 unfold bookV
 obtain ⟨Bb, hBb⟩ : ∃ b, b = Y.heap.size := ⟨_, rfl⟩
 obtain ⟨Y2, hY2⟩ : ∃ W, W = Y.alloc (.cells #[.slice af x.foes.length cf, .slice ap x.spots.length cp, .slice av x.valves.length cv, .slice aq x.parts.length cq, .int .i64 x.seen] 28) := ⟨_, rfl⟩
 have b2 : Below Y.heap.size Y Y2 := by rw [hY2]; exact (Below.refl _ _).alloc (Nat.le_refl _) _
 have rB : Row Y2 Bb 28 [.slice af x.foes.length cf, .slice ap x.spots.length cp, .slice av x.valves.length cv, .slice aq x.parts.length cq, .int .i64 x.seen] := by rw [hY2, hBb]; exact Row.new _ _ _
 have dr2 : DrB (Rb + 1) Y2 x af ap av aq := (dr.later b2).mono (by omega)
 have hr2 := hr.later b2
 have zY : Row Y2 w.heap.size 28 [.slice none 0 0, .slice none 0 0, .slice none 0 0, .slice none 0 0, .int .i64 0] := ((rZ.later hbX).only on (by omega)).later b2
 have bX : Below w.heap.size w X := b1.trans (hbX.mono b1.size)
 have bY : Below w.heap.size w Y := bX.trans (on.below (fun q hq => by have : q = Rb := hq; omega) bX.size)
 have bY2 : Below w.heap.size w Y2 := bY.trans (b2.mono bY.size)
 have hBb1 : Rb < Bb := by have := on.size; omega
 clear hr on dr rZ rd hbX bX bY
 go_wp2_with fail
 rw [← hY2, ← hBb]
 clear hY2 hBb b2
 have hS : ∀ W, Row W Bb 28 [.slice af x.foes.length cf, .slice ap x.spots.length cp, .slice av x.valves.length cv, .slice aq x.parts.length cq, .int .i64 x.seen] → (W.cell? ⟨Bb, 0, none⟩ = some (.slice af x.foes.length cf) ∧ W.cell? ⟨Bb, 1, none⟩ = some (.slice ap x.spots.length cp) ∧ W.cell? ⟨Bb, 2, none⟩ = some (.slice av x.valves.length cv) ∧ W.cell? ⟨Bb, 3, none⟩ = some (.slice aq x.parts.length cq) ∧ W.cell? ⟨Bb, 4, none⟩ = some (.int .i64 x.seen)) := fun W r => ⟨r.cell 0 rfl, r.cell 1 rfl, r.cell 2 rfl, r.cell 3 rfl, r.cell 4 rfl⟩
 have hS0 := hS Y2 rB
 have CALL := fun W (hr : Rd W1 Rb a' n' cap' f W p1) (hd : DrB (Rb + 1) W x af ap av aq) => l5Valve_any W1 Rb a' n' cap' f W p1 hr (by omega) (by omega) x af ap av aq cf cp cv cq hd ⟨small.parts, small.valves⟩ small.names
 unfold bookV at CALL
 refine wp_region_E (fun W => W.cell? ⟨Bb, 0, none⟩ = some (.slice af x.foes.length cf) ∧ W.cell? ⟨Bb, 1, none⟩ = some (.slice ap x.spots.length cp) ∧ W.cell? ⟨Bb, 2, none⟩ = some (.slice av x.valves.length cv) ∧ W.cell? ⟨Bb, 3, none⟩ = some (.slice aq x.parts.length cq) ∧ W.cell? ⟨Bb, 4, none⟩ = some (.int .i64 x.seen)) 5 (by kernel_rfl) ?_
 refine tk 0 ?vaa0 rfl (by kernel_rfl) (fun _ _ _ h => h) (by rfl) (hS0) ?yaa0 ?raa0
 case yaa0 => intro w' h; (try dsimp only at h); go_simp; (try with_reducible rfl)
 try simp only [Act.put, sA, sB, sC]
 refine tk 1 ?vaa1 rfl (by kernel_rfl) (fun _ _ _ h => h) (by rfl) (hS0) ?yaa1 ?raa1
 case yaa1 => intro w' h; (try dsimp only at h); go_simp; (try with_reducible rfl)
 try simp only [Act.put, sA, sB, sC]
 refine tk 2 ?vaa2 rfl (by kernel_rfl) (fun _ _ _ h => h) (by rfl) (hS0) ?yaa2 ?raa2
 case yaa2 => intro w' h; (try dsimp only at h); go_simp; (try with_reducible rfl)
 try simp only [Act.put, sA, sB, sC]
 refine wpAnyE_oneC (i := 3) rfl (by kernel_rfl) ?_
 intro K hK
 rw [if_pos (by rfl)]
 go_wp2_with (go_at_call 27; refine (CALL _ (by (repeat (first | assumption | refine rd_drew ?_ | refine rd_alloc ?_ _))) (by first | exact dr_drew dr2 | exact dr2)).mono ?_; rintro e Z ⟨⟨s, p3, rfl, hsz, hp3, hp4, hrZ⟩, onZ⟩; have onZ1 : Only (fun q => q = Rb) Y2 Z := Only.trans (by (repeat (first | assumption | exact Only.refl _ _ | refine on_drew ?_ | refine on_alloc ?_ _))) onZ; have rV : Row Z Bb 28 [.slice af x.foes.length cf, .slice ap x.spots.length cp, .slice av x.valves.length cv, .slice aq x.parts.length cq, .int .i64 x.seen] := rB.only onZ1 (by omega))
 refine hK.out _ _ (fun _ => hS _ rV) ?_
 clear hK K
 try simp only [Act.put, sA, sB, sC]
 have zZ := zY.only onZ1 (by omega)
 have z0 := zZ.cell 0 rfl
 have z1 := zZ.cell 1 rfl
 have z2 := zZ.cell 2 rfl
 have z3 := zZ.cell 3 rfl
 have z4 := zZ.cell 4 rfl
 have zf0 := zZ.frozen 0
 have zf1 := zZ.frozen 1
 have zf2 := zZ.frozen 2
 have zf3 := zZ.frozen 3
 have zf4 := zZ.frozen 4
 have drZ := dr2.low onZ1 (fun q hq => by have : q = Rb := hq; omega)
 have bZ : Below w.heap.size w Z := bY2.trans (onZ1.below (fun q hq => by have : q = Rb := hq; omega) bY2.size)
 clear CALL zZ zY
 refine wpAnyE_oneC (i := 4) rfl (by kernel_rfl) ?_
 intro K hK
 rw [if_pos (by rfl)]
 go_wp2_with fail
 refine hK.out _ _ (fun _ => hS _ (Row.only rV (set5_only (D := fun q => q = w.heap.size) (Only.refl _ _) w.heap.size rfl _ _ _ _ _) (by omega))) ?_
 clear hK K
 try simp only [Act.put, sA, sB, sC]
 refine wpAnyE_oneC (i := 5) rfl (by kernel_rfl) ?_
 intro K hK
 rw [if_pos (by rfl)]
 go_wp2_with fail
 refine hK.out _ _ (fun h => absurd rfl h) ?_
 clear hK K
 try simp only [Act.put, sA, sB, sC]
 refine wpAnyE_done (by kernel_rfl) ?_ _
 have oc : ∀ v0 v1 v2 v3 v4, Only (fun q => q = w.heap.size) Z (set5 Z w.heap.size v0 v1 v2 v3 v4) := fun v0 v1 v2 v3 v4 => set5_only (D := fun q => q = w.heap.size) (Only.refl _ _) w.heap.size rfl _ _ _ _ _
 have FIN : ∀ v0 v1 v2 v3 v4, Hid (BookIn (set5 Z w.heap.size v0 v1 v2 v3 v4) x af ap av aq ∧ Below w.heap.size w (set5 Z w.heap.size v0 v1 v2 v3 v4)) := fun v0 v1 v2 v3 v4 => ⟨(drZ.low (oc _ _ _ _ _) (fun q hq => by have : q = w.heap.size := hq; omega)).in_, bZ.trans ((oc _ _ _ _ _).below (fun q hq => by have : q = w.heap.size := hq; omega) bZ.size)⟩
 clear hS hS0 drZ bZ oc rV
 go_wp2
 refine bodyPost_ret (v := .tuple #[.agg #[.slice af x.foes.length cf, .slice ap x.spots.length cp, .slice av x.valves.length cv, .slice aq x.parts.length cq, .int .i64 x.seen], .string s])
  (by simp [results, Tryz.results6, go_sem, z0, z1, z2, z3, z4]) rfl ?_
 exact ⟨⟨x, af, ap, av, aq, cf, cp, cv, cq, s, rfl, (FIN _ _ _ _ _).out.1, small, hsz⟩, (FIN _ _ _ _ _).out.2⟩
set_option maxRecDepth 100000 in
set_option maxHeartbeats 8000000 in
theorem drawStop_any (a : Option Addr) (n cap : Nat) (f : Nat → Nat) (w : World) (hby : RowAt w a n 1 (fun k _ => .int .u8 (f k))) (hf : ∀ k, f k < 256) (hcap : n ≤ cap) :
 Calls Tryz.prog 14 #[.slice a n cap] w fun e w' => DrawnStop e w' ∧ Below w.heap.size w w' := by
 obtain ⟨W1, hW1⟩ : ∃ W, W = w.alloc (.cells #[.slice none 0 0, .slice none 0 0, .slice none 0 0, .slice none 0 0, .int .i64 0] 28) := ⟨_, rfl⟩
 have b1 : Below w.heap.size w W1 := by rw [hW1]; exact (Below.refl _ _).alloc (Nat.le_refl _) _
 have rZ : Row W1 w.heap.size 28 [.slice none 0 0, .slice none 0 0, .slice none 0 0, .slice none 0 0, .int .i64 0] := by rw [hW1]; exact Row.new _ _ _
 have sz1 : W1.heap.size = w.heap.size + 1 := by rw [hW1]; simp
 go_enter Tryz.func14, Tryz.ntmps14
 go_wp2_with fail
 rw [← hW1]
 clear hW1
 refine (l1Open_any W1 a n cap f (hby.later b1) hf hcap).mono ?_
 rintro e X ⟨⟨a', n', cap', rfl, rd⟩, hbX⟩
 obtain ⟨Rb, hRb⟩ : ∃ b, b = W1.heap.size := ⟨_, rfl⟩
 rw [← hRb] at rd ⊢
 have hR1 : w.heap.size + 1 ≤ Rb := by omega
 have hRX := rd.row.lt
 clear hRb sz1
 go_wp2_with fail
 refine (l5Any_any W1 Rb a' n' cap' f X 0 rd (by omega) (by omega)).mono ?_
 rintro e Y ⟨⟨x, af, ap, av, aq, cf, cp, cv, cq, p1, rfl, dr, small, hp1, hp2, hr⟩, on⟩
 unfold bookV
 obtain ⟨Bb, hBb⟩ : ∃ b, b = Y.heap.size := ⟨_, rfl⟩
 obtain ⟨Y2, hY2⟩ : ∃ W, W = Y.alloc (.cells #[.slice af x.foes.length cf, .slice ap x.spots.length cp, .slice av x.valves.length cv, .slice aq x.parts.length cq, .int .i64 x.seen] 28) := ⟨_, rfl⟩
 have b2 : Below Y.heap.size Y Y2 := by rw [hY2]; exact (Below.refl _ _).alloc (Nat.le_refl _) _
 have rB : Row Y2 Bb 28 [.slice af x.foes.length cf, .slice ap x.spots.length cp, .slice av x.valves.length cv, .slice aq x.parts.length cq, .int .i64 x.seen] := by rw [hY2, hBb]; exact Row.new _ _ _
 have dr2 : DrB (Rb + 1) Y2 x af ap av aq := (dr.later b2).mono (by omega)
 have hr2 := hr.later b2
 have zY : Row Y2 w.heap.size 28 [.slice none 0 0, .slice none 0 0, .slice none 0 0, .slice none 0 0, .int .i64 0] := ((rZ.later hbX).only on (by omega)).later b2
 have bX : Below w.heap.size w X := b1.trans (hbX.mono b1.size)
 have bY : Below w.heap.size w Y := bX.trans (on.below (fun q hq => by have : q = Rb := hq; omega) bX.size)
 have bY2 : Below w.heap.size w Y2 := bY.trans (b2.mono bY.size)
 have hBb1 : Rb < Bb := by have := on.size; omega
 clear hr on dr rZ rd hbX bX bY
 go_wp2_with fail
 rw [← hY2, ← hBb]
 clear hY2 hBb b2
 have hS : ∀ W, Row W Bb 28 [.slice af x.foes.length cf, .slice ap x.spots.length cp, .slice av x.valves.length cv, .slice aq x.parts.length cq, .int .i64 x.seen] → (W.cell? ⟨Bb, 0, none⟩ = some (.slice af x.foes.length cf) ∧ W.cell? ⟨Bb, 1, none⟩ = some (.slice ap x.spots.length cp) ∧ W.cell? ⟨Bb, 2, none⟩ = some (.slice av x.valves.length cv) ∧ W.cell? ⟨Bb, 3, none⟩ = some (.slice aq x.parts.length cq) ∧ W.cell? ⟨Bb, 4, none⟩ = some (.int .i64 x.seen)) := fun W r => ⟨r.cell 0 rfl, r.cell 1 rfl, r.cell 2 rfl, r.cell 3 rfl, r.cell 4 rfl⟩
 have hS0 := hS Y2 rB
 have CALL := fun W (hr : Rd W1 Rb a' n' cap' f W p1) (hd : DrB (Rb + 1) W x af ap av aq) => l5Of_any W1 Rb a' n' cap' f W p1 hr (by omega) (by omega) x af ap av aq cf cp cv cq hd ⟨small.parts, small.valves⟩
 unfold bookV at CALL
 refine wp_region_E (fun W => W.cell? ⟨Bb, 0, none⟩ = some (.slice af x.foes.length cf) ∧ W.cell? ⟨Bb, 1, none⟩ = some (.slice ap x.spots.length cp) ∧ W.cell? ⟨Bb, 2, none⟩ = some (.slice av x.valves.length cv) ∧ W.cell? ⟨Bb, 3, none⟩ = some (.slice aq x.parts.length cq) ∧ W.cell? ⟨Bb, 4, none⟩ = some (.int .i64 x.seen)) 5 (by kernel_rfl) ?_
 refine tk 0 ?vab0 rfl (by kernel_rfl) (fun _ _ _ h => h) (by rfl) (hS0) ?yab0 ?rab0
 case yab0 => intro w' h; (try dsimp only at h); go_simp; (try with_reducible rfl)
 try simp only [Act.put, sA, sB, sC]
 refine tk 1 ?vab1 rfl (by kernel_rfl) (fun _ _ _ h => h) (by rfl) (hS0) ?yab1 ?rab1
 case yab1 => intro w' h; (try dsimp only at h); go_simp; (try with_reducible rfl)
 try simp only [Act.put, sA, sB, sC]
 refine tk 2 ?vab2 rfl (by kernel_rfl) (fun _ _ _ h => h) (by rfl) (hS0) ?yab2 ?rab2
 case yab2 => intro w' h; (try dsimp only at h); go_simp; (try with_reducible rfl)
 try simp only [Act.put, sA, sB, sC]
 refine wpAnyE_oneC (i := 3) rfl (by kernel_rfl) ?_
 intro K hK
 rw [if_pos (by rfl)]
 go_wp2_with (go_at_call 30; refine (CALL _ (by (repeat (first | assumption | refine rd_drew ?_ | refine rd_alloc ?_ _))) (by first | exact dr_drew dr2 | exact dr2)).mono ?_; rintro e Z ⟨⟨i, p3, rfl, hp3, hp4, hrZ⟩, onZ⟩; have onZ1 : Only (fun q => q = Rb) Y2 Z := Only.trans (by (repeat (first | assumption | exact Only.refl _ _ | refine on_drew ?_ | refine on_alloc ?_ _))) onZ; have rV : Row Z Bb 28 [.slice af x.foes.length cf, .slice ap x.spots.length cp, .slice av x.valves.length cv, .slice aq x.parts.length cq, .int .i64 x.seen] := rB.only onZ1 (by omega))
 refine hK.out _ _ (fun _ => hS _ rV) ?_
 clear hK K
 try simp only [Act.put, sA, sB, sC]
 have zZ := zY.only onZ1 (by omega)
 have z0 := zZ.cell 0 rfl
 have z1 := zZ.cell 1 rfl
 have z2 := zZ.cell 2 rfl
 have z3 := zZ.cell 3 rfl
 have z4 := zZ.cell 4 rfl
 have zf0 := zZ.frozen 0
 have zf1 := zZ.frozen 1
 have zf2 := zZ.frozen 2
 have zf3 := zZ.frozen 3
 have zf4 := zZ.frozen 4
 have drZ := dr2.low onZ1 (fun q hq => by have : q = Rb := hq; omega)
 have bZ : Below w.heap.size w Z := bY2.trans (onZ1.below (fun q hq => by have : q = Rb := hq; omega) bY2.size)
 clear CALL zZ zY
 refine wpAnyE_oneC (i := 4) rfl (by kernel_rfl) ?_
 intro K hK
 rw [if_pos (by rfl)]
 go_wp2_with fail
 refine hK.out _ _ (fun _ => hS _ (Row.only rV (set5_only (D := fun q => q = w.heap.size) (Only.refl _ _) w.heap.size rfl _ _ _ _ _) (by omega))) ?_
 clear hK K
 try simp only [Act.put, sA, sB, sC]
 refine wpAnyE_oneC (i := 5) rfl (by kernel_rfl) ?_
 intro K hK
 rw [if_pos (by rfl)]
 go_wp2_with fail
 refine hK.out _ _ (fun h => absurd rfl h) ?_
 clear hK K
 try simp only [Act.put, sA, sB, sC]
 refine wpAnyE_done (by kernel_rfl) ?_ _
 have oc : ∀ v0 v1 v2 v3 v4, Only (fun q => q = w.heap.size) Z (set5 Z w.heap.size v0 v1 v2 v3 v4) := fun v0 v1 v2 v3 v4 => set5_only (D := fun q => q = w.heap.size) (Only.refl _ _) w.heap.size rfl _ _ _ _ _
 have FIN : ∀ v0 v1 v2 v3 v4, Hid (BookIn (set5 Z w.heap.size v0 v1 v2 v3 v4) x af ap av aq ∧ Below w.heap.size w (set5 Z w.heap.size v0 v1 v2 v3 v4)) := fun v0 v1 v2 v3 v4 => ⟨(drZ.low (oc _ _ _ _ _) (fun q hq => by have : q = w.heap.size := hq; omega)).in_, bZ.trans ((oc _ _ _ _ _).below (fun q hq => by have : q = w.heap.size := hq; omega) bZ.size)⟩
 clear hS hS0 drZ bZ oc rV
 go_wp2
 refine bodyPost_ret (v := .tuple #[.agg #[.slice af x.foes.length cf, .slice ap x.spots.length cp, .slice av x.valves.length cv, .slice aq x.parts.length cq, .int .i64 x.seen], .int .i64 i])
  (by simp [results, Tryz.results14, go_sem, z0, z1, z2, z3, z4]) rfl ?_
 exact ⟨⟨x, af, ap, av, aq, cf, cp, cv, cq, i, rfl, (FIN _ _ _ _ _).out.1, small⟩, (FIN _ _ _ _ _).out.2⟩

end Go.Proofs.YtfmhkicncgccjaaGreat

/- Plain: under which number a valve may be open, under which it is kept shut. -/
namespace Go.Proofs.YtfmhkicncgccjaaGreat
open Go.RowKit Go.Sort
set_option linter.unusedSimpArgs false
set_option linter.unusedVariables false

def mayHit (v : ByteArray) (p : Part) : Bool := !p.stopped && hasB p.want.opens v
def mayFrom (ps : List Part) (v : ByteArray) : Nat → Nat → Int
 | _, 0 => 0
 | k, n + 1 => if mayHit v (gq ps k) = true then (gq ps k).want.number else mayFrom ps v (k + 1) n
/-- The number under which a valve may be open. -/
def mayN (ps : List Part) (v : ByteArray) : Int := mayFrom ps v 0 ps.length
theorem mayFrom_all {ps : List Part} {v : ByteArray} : ∀ (n k : Nat), (∀ i, k ≤ i → i < k + n → mayHit v (gq ps i) = false) → mayFrom ps v k n = 0
 | 0, _, _ => rfl
 | n + 1, k, h => by
  unfold mayFrom
  rw [h k (Nat.le_refl _) (by omega)]
  exact mayFrom_all n (k + 1) (fun i h1 h2 => h i (by omega) (by omega))
theorem mayFrom_hit {ps : List Part} {v : ByteArray} {j : Nat} : ∀ (n k : Nat), k ≤ j → j < k + n → (∀ i, k ≤ i → i < j → mayHit v (gq ps i) = false) → mayHit v (gq ps j) = true → mayFrom ps v k n = (gq ps j).want.number
 | 0, k, h1, h2, _, _ => by omega
 | n + 1, k, h1, h2, h, hj => by
  unfold mayFrom
  by_cases e : k = j
  · subst e; rw [hj]; rfl
  · rw [h k (Nat.le_refl _) (by omega)]
    exact mayFrom_hit n (k + 1) (by omega) (by omega) (fun i a b => h i (by omega) b) hj
theorem mayN_hit {ps : List Part} {v : ByteArray} {j : Nat} (hj : j < ps.length) (h : allTo j (fun i => !mayHit v (gq ps i)) = true) (he : mayHit v (gq ps j) = true) : mayN ps v = (gq ps j).want.number :=
 mayFrom_hit ps.length 0 (Nat.zero_le _) (by omega) (fun i _ hi => by simpa using allTo_iff.1 h i hi) he
theorem mayN_none {ps : List Part} {v : ByteArray} (h : allTo ps.length (fun i => !mayHit v (gq ps i)) = true) : mayN ps v = 0 :=
 mayFrom_all ps.length 0 (fun i _ hi => by simpa using allTo_iff.1 h i (by omega))
/-- What ClaimMay answers. -/
def mayC (x : Book) (v : ByteArray) : Int := if bookB x = true then mayN x.parts v else 0

/-- The numbers under which a valve is kept shut, by the first k parts. -/
def shutTo (ps : List Part) (v : ByteArray) : Nat → List Int
 | 0 => []
 | k + 1 => if hasB (gq ps k).want.shuts v = true then shutTo ps v k ++ [(gq ps k).want.number] else shutTo ps v k
theorem shutTo_hit {ps : List Part} {v : ByteArray} {k : Nat} (h : hasB (gq ps k).want.shuts v = true) : shutTo ps v (k + 1) = shutTo ps v k ++ [(gq ps k).want.number] := by simp [shutTo, h]
theorem shutTo_miss {ps : List Part} {v : ByteArray} {k : Nat} (h : hasB (gq ps k).want.shuts v = false) : shutTo ps v (k + 1) = shutTo ps v k := by simp [shutTo, h]
theorem shutTo_le (ps : List Part) (v : ByteArray) (k : Nat) : (shutTo ps v k).length ≤ k := by
 induction k with
 | zero => simp [shutTo]
 | succ k ih =>
  cases h : hasB (gq ps k).want.shuts v with
  | true => rw [shutTo_hit h]; simp; omega
  | false => rw [shutTo_miss h]; omega
/-- What ClaimShut answers. -/
def shutC (x : Book) (v : ByteArray) : List Int := if bookB x = true then shutTo x.parts v x.parts.length else []

end Go.Proofs.YtfmhkicncgccjaaGreat

/- Plain: where a valve may be open, no part keeps it shut, and the part of that number opens it; behind a stop it may not be open under that number. -/
namespace Go.Proofs.YtfmhkicncgccjaaGreat
open Go.RowKit Go.Sort
set_option linter.unusedSimpArgs false
set_option linter.unusedVariables false

theorem shareB_of {xs ys : List ByteArray} {v : ByteArray} (hx : hasB xs v = true) (hy : hasB ys v = true) : shareB xs ys = true := by
 obtain ⟨i, hi, e⟩ := hasB_iff.1 hx
 refine anyTo_iff.2 ⟨i, hi, ?_⟩
 rw [e]
 exact hy
theorem part_ok {x : Book} (h : bookB x = true) {i : Nat} (hi : i < x.parts.length) : partAtB x i = true := by
 unfold bookB at h
 rw [Bool.and_eq_true] at h
 have h2 := h.2
 unfold partsOkB at h2
 rw [Bool.and_eq_true] at h2
 exact allTo_iff.1 h2.2 i hi
theorem part_want {x : Book} (h : bookB x = true) {i : Nat} (hi : i < x.parts.length) : wantB (gq x.parts i).want = true := by
 have := part_ok h hi
 unfold partAtB partOkB at this
 simp only [Bool.and_eq_true] at this
 exact this.1.1.1.1.1
theorem part_step {x : Book} (h : bookB x = true) {i : Nat} (hi : i + 1 < x.parts.length) : (gq x.parts i).want.number < (gq x.parts (i + 1)).want.number := by
 have := part_ok h hi
 unfold partAtB at this
 simp only [Bool.and_eq_true] at this
 simpa using this.1.2
theorem part_asc {x : Book} (h : bookB x = true) {i : Nat} : ∀ d, i + d + 1 < x.parts.length → (gq x.parts i).want.number < (gq x.parts (i + d + 1)).want.number
 | 0, hd => part_step h hd
 | d + 1, hd => by
  have h1 := part_asc h (i := i) d (by omega)
  have h2 := part_step h (i := i + d + 1) (by omega)
  have e : i + (d + 1) + 1 = i + d + 1 + 1 := by omega
  rw [e]
  omega
theorem part_once {x : Book} (h : bookB x = true) {i j : Nat} (hi : i < x.parts.length) (hj : j < x.parts.length) (e : (gq x.parts i).want.number = (gq x.parts j).want.number) : i = j := by
 rcases Nat.lt_trichotomy i j with hl | hl | hl
 · have := part_asc h (i := i) (j - i - 1) (by omega)
   rw [show i + (j - i - 1) + 1 = j by omega] at this
   omega
 · exact hl
 · have := part_asc h (i := j) (i - j - 1) (by omega)
   rw [show j + (i - j - 1) + 1 = i by omega] at this
   omega
theorem part_pos {x : Book} (h : bookB x = true) {i : Nat} (hi : i < x.parts.length) : 1 ≤ (gq x.parts i).want.number := by
 have := part_want h hi
 unfold wantB inB at this
 simp only [Bool.and_eq_true, decide_eq_true_eq] at this
 exact this.1.1.1.1.1.1.1.1.1.1
theorem mayN_some {ps : List Part} {v : ByteArray} (h : mayN ps v ≠ 0) : ∃ j, j < ps.length ∧ mayHit v (gq ps j) = true ∧ mayN ps v = (gq ps j).want.number := by
 have : ∀ n, n ≤ ps.length → allTo n (fun i => !mayHit v (gq ps i)) = true ∨ ∃ j, j < n ∧ mayHit v (gq ps j) = true ∧ allTo j (fun i => !mayHit v (gq ps i)) = true := by
  intro n
  induction n with
  | zero => intro _; exact Or.inl rfl
  | succ n ih =>
   intro hn
   rcases ih (by omega) with h | ⟨j, hj, h1, h2⟩
   · cases e : mayHit v (gq ps n) with
     | true => exact Or.inr ⟨n, by omega, e, h⟩
     | false => exact Or.inl (allTo_succ h (by rw [e]; rfl))
   · exact Or.inr ⟨j, by omega, h1, h2⟩
 rcases this ps.length (Nat.le_refl _) with h' | ⟨j, hj, h1, h2⟩
 · exact absurd (mayN_none h') h
 · exact ⟨j, hj, h1, mayN_hit hj h2 h1⟩
/-- Where a valve may be open: which part it is. -/
theorem mayC_pos {x : Book} {v : ByteArray} (h : 0 < mayC x v) : bookB x = true ∧ ∃ j, j < x.parts.length ∧ (gq x.parts j).stopped = false ∧ hasB (gq x.parts j).want.opens v = true ∧ mayC x v = (gq x.parts j).want.number := by
 unfold mayC at h ⊢
 by_cases hb : bookB x = true
 · rw [if_pos hb] at h ⊢
   obtain ⟨j, hj, h1, h2⟩ := mayN_some (show mayN x.parts v ≠ 0 by omega)
   unfold mayHit at h1
   simp only [Bool.and_eq_true, Bool.not_eq_true'] at h1
   exact ⟨hb, j, hj, h1.1, h1.2, h2⟩
 · rw [if_neg hb] at h
   omega
theorem not_share {x : Book} (h : bookB x = true) {j k : Nat} (hj : j < x.parts.length) (hk : k < x.parts.length) {v : ByteArray} (ho : hasB (gq x.parts j).want.opens v = true) : hasB (gq x.parts k).want.shuts v = false := by
 cases hs : hasB (gq x.parts k).want.shuts v with
 | false => rfl
 | true =>
  exfalso
  have sh := shareB_of ho hs
  rcases Nat.lt_trichotomy j k with hl | hl | hl
  · have := part_ok h hk
    unfold partAtB at this
    simp only [Bool.and_eq_true] at this
    have := allTo_iff.1 this.2 j hl
    have sh2 := shareB_of hs ho
    unfold meetB crossB at this
    rw [sh2] at this
    simp at this
  · subst hl
    have := part_want h hj
    unfold wantB at this
    rw [sh] at this
    simp at this
  · have := part_ok h hj
    unfold partAtB at this
    simp only [Bool.and_eq_true] at this
    have := allTo_iff.1 this.2 k hl
    unfold meetB crossB at this
    rw [sh] at this
    simp at this
theorem shutTo_nil {ps : List Part} {v : ByteArray} : ∀ n, (∀ i, i < n → hasB (gq ps i).want.shuts v = false) → shutTo ps v n = []
 | 0, _ => rfl
 | n + 1, h => by rw [shutTo_miss (h n (by omega))]; exact shutTo_nil n (fun i hi => h i (by omega))
/-- Where a valve may be open, none keeps it shut. -/
theorem shutC_nil {x : Book} {v : ByteArray} (h : 0 < mayC x v) : shutC x v = [] := by
 obtain ⟨hb, j, hj, -, ho, -⟩ := mayC_pos h
 unfold shutC
 rw [if_pos hb]
 exact shutTo_nil _ (fun i hi => not_share hb hj hi ho)
/-- The want of the part of a number; an empty want if there is none. -/
def partW (x : Book) (n : Int) : Want := if 0 ≤ partI x.parts n then (gq x.parts (partI x.parts n).toNat).want else wantNil
theorem may_opens {x : Book} {v : ByteArray} (h : 0 < mayC x v) : hasB (partW x (mayC x v)).opens v = true := by
 obtain ⟨hb, j, hj, -, ho, e⟩ := mayC_pos h
 unfold partW
 rcases partI_cases x.parts (mayC x v) with ⟨hp, hn⟩ | ⟨i, hi, hp, hn, -⟩
 · have := allTo_iff.1 hn j hj
   rw [e] at this
   simp at this
 · rw [hp, if_pos (by omega)]
   have : i = j := part_once hb hi hj (by rw [← e]; simpa using hn)
   subst this
   exact ho
/-- What is stopped opens nothing. -/
theorem stop_may {x : Book} {k : Int} (h : stopC x k = 0) (v : ByteArray) : mayC (stopB x k) v ≠ k := by
 unfold stopC at h
 by_cases hb : bookB x = true
 · rw [if_pos hb] at h
   by_cases hp : 0 ≤ partI x.parts k
   · rcases partI_cases x.parts k with ⟨hp', -⟩ | ⟨j, hj, hp', hn, -⟩
     · omega
     · have hn' : (gq x.parts j).want.number = k := by simpa using hn
       have hpos := part_pos hb hj
       intro e
       obtain ⟨hb2, i, hi, hs, ho, e2⟩ := mayC_pos (x := stopB x k) (v := v) (by omega)
       have es : stopB x k = ⟨x.foes, x.spots, x.valves, stopAt x.parts j, x.seen⟩ := by
        unfold stopB
        rw [if_pos hb, if_pos hp, hp']
        rfl
       rw [es] at hi hs e2
       have hi' : i < x.parts.length := by
        have : i < (stopAt x.parts j).length := hi
        rw [stopAt_length] at this
        exact this
       have hs' : (gq (stopAt x.parts j) i).stopped = false := hs
       have e2' : mayC (stopB x k) v = (gq (stopAt x.parts j) i).want.number := by rw [es]; exact e2
       rw [stopAt_want hj] at e2'
       have hij : i = j := part_once hb hi' hj (by omega)
       rw [gq_stopAt hj, if_pos hij] at hs'
       cases hs'
   · rw [if_neg hp] at h
     omega
 · rw [if_neg hb] at h
   omega

end Go.Proofs.YtfmhkicncgccjaaGreat

/- What the law's own wPart answers. -/
namespace Go.Proofs.YtfmhkicncgccjaaGreat
open Go.RowKit Go.Sort
set_option linter.unusedSimpArgs false
set_option linter.unusedVariables false

/-- The want of the part of this number is answered. -/
def PartOf (x : Book) (s : Int) (e : Ending) (w' : World) : Prop :=
 ∃ (a2 a3 a4 a5 : Option Addr) (c2 c3 c4 c5 : Nat), e = .returned (wantW (partW x s) a2 a3 a4 a5 c2 c3 c4 c5) ∧ WantIn w' (partW x s) a2 a3 a4 a5
theorem wantIn_nil (w : World) : WantIn w wantNil none none none none := ⟨fun k hk => absurd hk (Nat.not_lt_zero _), fun k hk => absurd hk (Nat.not_lt_zero _), fun k hk => absurd hk (Nat.not_lt_zero _), fun k hk => absurd hk (Nat.not_lt_zero _)⟩
theorem WantIn.set6 {w X : World} {y : Want} {a2 a3 a4 a5 : Option Addr} (h : WantIn w y a2 a3 a4 a5) (hb : Below w.heap.size w X) {Zb : Nat} (hz : w.heap.size ≤ Zb) (v0 v1 v2 v3 v4 v5 : Value) : WantIn (set6 X Zb v0 v1 v2 v3 v4 v5) y a2 a3 a4 a5 :=
 h.later (hb.trans ((set6_only X Zb v0 v1 v2 v3 v4 v5).below (fun q hq => by have : q = Zb := hq; omega) hb.size))
set_option maxRecDepth 100000 in
set_option maxHeartbeats 2000000 in
theorem wPart_any (x : Book) (af ap av aq : Option Addr) (cf cp cv cq : Nat) (s : Int) (w : World) (hm : PartsAt w aq x.parts) (hl : x.parts.length ≤ maxLen) :
 Calls Tryz.prog 13 #[bookV x af ap av aq cf cp cv cq, .int .i64 s] w fun e w' => PartOf x s e w' ∧ Below w.heap.size w w' := by
 unfold maxLen at hl
 unfold bookV
 obtain ⟨A, C, hpr, hpw⟩ := hm
 obtain ⟨W1, hW1⟩ : ∃ W, W = (w.alloc (.cells #[.slice af x.foes.length cf, .slice ap x.spots.length cp, .slice av x.valves.length cv, .slice aq x.parts.length cq, .int .i64 x.seen] 28)).alloc (.cells #[.int .i64 0, .int .i64 0, .slice none 0 0, .slice none 0 0, .slice none 0 0, .slice none 0 0] 38) := ⟨_, rfl⟩
 have b1 : Below w.heap.size w W1 := by rw [hW1]; exact ((Below.refl _ _).alloc (Nat.le_refl _) _).alloc (by simp) _
 have rB : Row W1 w.heap.size 28 [.slice af x.foes.length cf, .slice ap x.spots.length cp, .slice av x.valves.length cv, .slice aq x.parts.length cq, .int .i64 x.seen] := by rw [hW1]; exact (Row.new _ _ _).alloc _
 have rZ : Row W1 (w.heap.size + 1) 38 [.int .i64 0, .int .i64 0, .slice none 0 0, .slice none 0 0, .slice none 0 0, .slice none 0 0] := by rw [hW1]; exact Row.new' (by simp)
 have y3 := rB.cell 3 rfl
 have z0 := rZ.cell 0 rfl
 have zf0 := rZ.frozen 0
 have z1 := rZ.cell 1 rfl
 have zf1 := rZ.frozen 1
 have z2 := rZ.cell 2 rfl
 have zf2 := rZ.frozen 2
 have z3 := rZ.cell 3 rfl
 have zf3 := rZ.frozen 3
 have z4 := rZ.cell 4 rfl
 have zf4 := rZ.frozen 4
 have z5 := rZ.cell 5 rfl
 have zf5 := rZ.frozen 5
 have oc : ∀ v0 v1 v2 v3 v4 v5, Below w.heap.size w (set6 W1 (w.heap.size + 1) v0 v1 v2 v3 v4 v5) := fun v0 v1 v2 v3 v4 v5 => b1.trans ((set6_only W1 (w.heap.size + 1) v0 v1 v2 v3 v4 v5).below (fun q hq => by have : q = w.heap.size + 1 := hq; omega) b1.size)
 go_enter Tryz.func13, Tryz.ntmps13
 go_wp2_with fail
 rw [← hW1]
 clear hW1 rB rZ
 go_loopw [5] (fun i wr => ∃ (k : Nat) (X : World), X = wr ∧ W1 = X ∧ k ≤ x.parts.length ∧ i = .int .i64 k ∧ allTo k (fun i => !((gq x.parts i).want.number == s)) = true) (fun i _ => x.parts.length - (intOf i).toNat)
 case atStart => exact ⟨0, _, rfl, rfl, Nat.zero_le _, rfl, rfl⟩
 case round =>
  obtain ⟨k, X, rfl, hX, hk, rfl, hall⟩ := hrel
  subst hX
  have HA : Hid (allTo k (fun i => !((gq x.parts i).want.number == s)) = true) := hall
  clear hall
  by_cases hlt : k < x.parts.length
  · obtain ⟨bq, oq, hq, hbq, hcq⟩ := (RowAt.later hpr b1) k hlt
    obtain ⟨b', o', hq', hb', -⟩ := hpr k hlt
    have hwk := (hpw k hlt)
    subst hq
    cases hq'
    have hcq0 := hcq 0 (by omega)
    have hcq1 := hcq 1 (by omega)
    have hcq2 := hcq 2 (by omega)
    have hcq3 := hcq 3 (by omega)
    have hcq4 := hcq 4 (by omega)
    have hcq5 := hcq 5 (by omega)
    simp only [partCell, Nat.add_zero] at hcq0 hcq1 hcq2 hcq3 hcq4 hcq5
    clear hcq
    have hlt2 : (k : Int) < x.parts.length := by omega
    have hne : ¬ bq = w.heap.size + 1 := by omega
    cases hq : ((gq x.parts k).want.number == s) with
    | true =>
     have HP : Hid (partW x s = (gq x.parts k).want) := by
      show partW x s = (gq x.parts k).want
      unfold partW
      rw [partI_hit hlt HA.out hq, if_pos (by omega)]
      rfl
     have hq' : ((gq x.parts k).want.number == s) = true := hq
     have FIN : ∀ v0 v1 v2 v3 v4 v5, Hid (PartOf x s (.returned (wantW (gq x.parts k).want (A k 2) (A k 3) (A k 4) (A k 5) (C k 2) (C k 3) (C k 4) (C k 5))) (set6 W1 (w.heap.size + 1) v0 v1 v2 v3 v4 v5)) := fun v0 v1 v2 v3 v4 v5 => by
      show PartOf _ _ _ _
      unfold PartOf
      rw [HP.out]
      exact ⟨A k 2, A k 3, A k 4, A k 5, C k 2, C k 3, C k 4, C k 5, rfl, hwk.set6 b1 (by omega) _ _ _ _ _ _⟩
     clear hwk
     generalize (gq x.parts k).want = yp at hcq0 hcq1 hcq2 hcq3 hcq4 hcq5 hq' FIN
     clear hq HP
     go_wp2
     refine bodyPost_ret (v := .agg #[.int .i64 yp.number, .int .i64 yp.kind, .slice (A k 2) yp.stuffs.length (C k 2), .slice (A k 3) yp.uses.length (C k 3), .slice (A k 4) yp.opens.length (C k 4), .slice (A k 5) yp.shuts.length (C k 5)])
      (by simp [results, Tryz.results13, go_sem, z0, z1, z2, z3, z4, z5]) rfl ?_
     exact ⟨(FIN _ _ _ _ _ _).out, oc _ _ _ _ _ _⟩
    | false =>
     have hq' : ((gq x.parts k).want.number == s) = false := hq
     go_wp2
     go_roundw
     case rel => exact ⟨k + 1, _, rfl, rfl, by omega, by go_num, allTo_succ HA.out (by simp [hq])⟩
     case measure => simp [intOf]; omega
  · have hke : k = x.parts.length := by omega
    have HP : Hid (partW x s = wantNil) := by
     show partW x s = wantNil
     have hA := HA.out
     rw [hke] at hA
     unfold partW
     rw [partI_none hA, if_neg (by omega)]
    have hlt2 : ¬ (k : Int) < x.parts.length := by omega
    have FIN : ∀ v0 v1 v2 v3 v4 v5, Hid (PartOf x s (.returned (wantW wantNil none none none none 0 0 0 0)) (set6 W1 (w.heap.size + 1) v0 v1 v2 v3 v4 v5)) := fun v0 v1 v2 v3 v4 v5 => by
     show PartOf _ _ _ _
     unfold PartOf
     rw [HP.out]
     exact ⟨none, none, none, none, 0, 0, 0, 0, rfl, wantIn_nil _⟩
    clear hke HP
    go_wp2
    refine bodyPost_ret (v := .agg #[.int .i64 0, .int .i64 0, .slice none 0 0, .slice none 0 0, .slice none 0 0, .slice none 0 0])
     (by simp [results, Tryz.results13, go_sem, z0, z1, z2, z3, z4, z5]) rfl ?_
    exact ⟨(FIN _ _ _ _ _ _).out, oc _ _ _ _ _ _⟩

end Go.Proofs.YtfmhkicncgccjaaGreat

/- Copies that own their memory: books. -/
namespace Go.Proofs.YtfmhkicncgccjaaGreat
open Go.RowKit Go.Sort
set_option linter.unusedSimpArgs false
set_option linter.unusedVariables false

end Go.Proofs.YtfmhkicncgccjaaGreat

