/- Joined: DrN. -/
import Derived.Deep.CutBlock
import Derived.Test.YtfmhkicncgccjaaGreatFm06
import Derived.Test.YtfmhkicncgccjaaGreatFm26
import Derived.Test.YtfmhkicncgccjaaGreatFm31
/- What l5SpoilWant answers. -/
namespace Go.Proofs.YtfmhkicncgccjaaGreat
open Go.RowKit Go.Sort
set_option linter.unusedSimpArgs false
set_option linter.unusedVariables false

def spoilUses : List ByteArray := [{ data := #[] }, { data := #[107, 101, 103] }, { data := #[122, 122] }]
def spoilTurns : List ByteArray := [{ data := #[] }, { data := #[97] }, { data := #[122, 122] }]
theorem spoilUses_short : ∀ s ∈ spoilUses, s.size ≤ 100 := by decide
theorem spoilTurns_short : ∀ s ∈ spoilTurns, s.size ≤ 100 := by decide
theorem wrapI_small {x : Int} (h0 : -1000000 ≤ x) (h1 : x ≤ 1000000) : IntKind.i64.wrap x = x := by rw [IntKind.wrap_i64]; omega
theorem fn_alloc {W0 : World} {Rb : Nat} {a : Option Addr} {n cap : Nat} {f : Nat → Nat} {w : World} {Sb : Nat} {X : World} {p : Int} {y : Want} {a2 a3 a4 a5 : Option Addr} {c2 c3 c4 c5 : Nat} (h : FnAt W0 Rb a n cap f w Sb X p y a2 a3 a4 a5 c2 c3 c4 c5) (b : Obj) : FnAt W0 Rb a n cap f w Sb (X.alloc b) p y a2 a3 a4 a5 c2 c3 c4 c5 :=
 have hb : Below X.heap.size X (X.alloc b) := (Below.refl _ _).alloc (Nat.le_refl _) _
 ⟨h.row.later hb, h.rd.later hb, h.on.trans (Only.of hb), h.dr.later hb, h.short⟩
set_option maxRecDepth 100000 in
set_option maxHeartbeats 8000000 in
theorem l5SpoilWant_any (W0 : World) (Rb : Nat) (a : Option Addr) (n cap : Nat) (f : Nat → Nat) (w : World) (p : Int) (h : Rd W0 Rb a n cap f w p) (h0 : 0 ≤ p) (h1 : p ≤ 900000000) (y : Want) (a2 a3 a4 a5 : Option Addr) (c2 c3 c4 c5 : Nat) (hin : WantIn w y a2 a3 a4 a5) (hs : ShortW y) (hR : RoomW 20500 y) :
 Calls Tryz.prog 119 #[.pointer (some ⟨Rb, 0, none⟩), wantW y a2 a3 a4 a5 c2 c3 c4 c5] w fun e w' => WantOf W0 Rb a n cap f 30000 w.heap.size p 10 e w' ∧ Only (fun q => q = Rb) w w' := by
 have EW : ∀ k : Nat, k < 13 → IntKind.i64.wrap (10 + (k : Int)) = 10 + k := fun k hk => wrapI_small (by omega) (by omega)
 have hRb := h.row.lt
 obtain ⟨hR2, hR3, hR4, hR5⟩ := hR
 have hroom : WantRoom y := ⟨by omega, by omega, by omega, by omega⟩
 obtain ⟨W1, hW1⟩ : ∃ W, W = (w.alloc (.cells #[.int .i64 y.number, .int .i64 y.kind, .slice a2 y.stuffs.length c2, .slice a3 y.uses.length c3, .slice a4 y.opens.length c4, .slice a5 y.shuts.length c5] 38)).alloc (.cells #[.int .i64 0, .int .i64 0, .slice none 0 0, .slice none 0 0, .slice none 0 0, .slice none 0 0] 38) := ⟨_, rfl⟩
 have b1 : Below w.heap.size w W1 := by rw [hW1]; exact ((Below.refl _ _).alloc (Nat.le_refl _) _).alloc (by simp) _
 have rZ : Row W1 (w.heap.size + 1) 38 [.int .i64 0, .int .i64 0, .slice none 0 0, .slice none 0 0, .slice none 0 0, .slice none 0 0] := by rw [hW1]; exact Row.new' (by simp)
 have sz1 : W1.heap.size = w.heap.size + 2 := by rw [hW1]; simp
 have r1 := h.later b1
 have COPY := l1Want_cap y a2 a3 a4 a5 c2 c3 c4 c5 W1 (hin.later b1) hroom
 unfold wantW at COPY ⊢
 go_enter Tryz.func119, Tryz.ntmps119
 go_wp2_with fail
 rw [← hW1]
 clear hW1
 refine COPY.mono ?_
 rintro e X2 ⟨⟨d2, d3, d4, d5, k2, k3, k4, k5, rfl, own⟩, hb⟩
 clear COPY
 have sp0 := SpAt.start (r1.later hb) (Only.of hb) (by omega) own hs
 obtain ⟨X3, hX3⟩ : ∃ W, W = X2.alloc (.cells #[.int .i64 y.number, .int .i64 y.kind, .slice d2 y.stuffs.length k2, .slice d3 y.uses.length k3, .slice d4 y.opens.length k4, .slice d5 y.shuts.length k5] 38) := ⟨_, rfl⟩
 rw [← hX3] at sp0
 obtain ⟨Sb, hSb⟩ : ∃ b, b = X2.heap.size := ⟨_, rfl⟩
 go_wp2_with fail
 rw [← hX3]
 rw [← hSb] at sp0 ⊢
 clear hX3 own hb
 refine (pick_any W0 Rb a n cap f X3 p 8 sp0.rd h0 (by omega)).mono ?_
 rintro e X ⟨⟨v, rfl, hv0, hv1⟩, hr1, on1⟩
 have sp := sp0.pick hr1 on1
 have hS1 : w.heap.size + 2 ≤ Sb := by have := sp.new; omega
 have hSX : Sb < X.heap.size := sp.row.lt
 clear sp0 hr1 on1 hSb r1
 go_upto_block 0 with fail
 go_cut [5] (fun q wx => ∃ (y' : Want) (e2 e3 e4 e5 : Option Addr) (g2 g3 g4 g5 : Nat) (p' : Int), q = .pointer (some ⟨Sb, 0, none⟩) ∧ FnAt W0 Rb a n cap f W1 Sb wx p' y' e2 e3 e4 e5 g2 g3 g4 g5 ∧ RoomW 30000 y' ∧ p ≤ p' ∧ p' ≤ p + 10)
 case rest =>
  obtain ⟨y', e2, e3, e4, e5, i2, i3, i4, i5, p', rfl, fn, hroom', hp1, hp2⟩ := hcut
  clear sp
  have zX := rZ.only fn.on (by omega)
  have g0 := fn.row.cell 0 rfl
  have g1 := fn.row.cell 1 rfl
  have g2 := fn.row.cell 2 rfl
  have g3 := fn.row.cell 3 rfl
  have g4 := fn.row.cell 4 rfl
  have g5 := fn.row.cell 5 rfl
  have r0 := zX.cell 0 rfl
  have r1 := zX.cell 1 rfl
  have r2 := zX.cell 2 rfl
  have r3 := zX.cell 3 rfl
  have r4 := zX.cell 4 rfl
  have r5 := zX.cell 5 rfl
  have k0' := zX.frozen 0
  have k1' := zX.frozen 1
  have k2' := zX.frozen 2
  have k3' := zX.frozen 3
  have k4' := zX.frozen 4
  have k5' := zX.frozen 5
  have oc : ∀ v0 v1 v2 v3 v4 v5, Only (fun q => q = w.heap.size + 1) wc ((((((wc.setCell ⟨w.heap.size + 1, 0, none⟩ v0).setCell ⟨w.heap.size + 1, 1, none⟩ v1).setCell ⟨w.heap.size + 1, 2, none⟩ v2).setCell ⟨w.heap.size + 1, 3, none⟩ v3).setCell ⟨w.heap.size + 1, 4, none⟩ v4).setCell ⟨w.heap.size + 1, 5, none⟩ v5) := fun v0 v1 v2 v3 v4 v5 =>
   ((((((Only.refl (fun q => q = w.heap.size + 1) wc).set (b := w.heap.size + 1) rfl 0 v0).set rfl 1 v1).set rfl 2 v2).set rfl 3 v3).set rfl 4 v4).set rfl 5 v5
  have FIN : Hid _ := And.intro fn (And.intro oc b1)
  clear fn oc zX
  go_wp2
  refine bodyPost_ret (v := .agg #[.int .i64 y'.number, .int .i64 y'.kind, .slice e2 y'.stuffs.length i2, .slice e3 y'.uses.length i3, .slice e4 y'.opens.length i4, .slice e5 y'.shuts.length i5])
   (by simp [results, Tryz.results119, go_sem, r0, r1, r2, r3, r4, r5]) rfl ⟨⟨y', e2, e3, e4, e5, i2, i3, i4, i5, p', rfl, ?_, FIN.out.1.short, hroom', hp1, hp2, ?_⟩, ?_⟩
  · exact (FIN.out.1.dr.low (FIN.out.2.1 _ _ _ _ _ _) (fun q hq => by have : q = w.heap.size + 1 := hq; omega)).mono (by omega)
  · exact FIN.out.1.rd.only (FIN.out.2.1 _ _ _ _ _ _) (fun q hq => by have : q = w.heap.size + 1 := hq; omega)
  · exact ((Only.of FIN.out.2.2).trans FIN.out.1.on).next (FIN.out.2.1 _ _ _ _ _ _) (fun q hq hq' => by have : q = w.heap.size + 1 := hq; omega)
 case first =>
  have hv8 : v = 0 ∨ v = 1 ∨ v = 2 ∨ v = 3 ∨ v = 4 ∨ v = 5 ∨ v = 6 ∨ v = 7 := by omega
  have hRX := sp.rd.row.lt
  have hold := sp.old
  clear hv0 hv1 rZ b1 hin hs h
  rcases hv8 with rfl | rfl | rfl | rfl | rfl | rfl | rfl | rfl
  · obtain ⟨W2, hW2⟩ : ∃ W, W = X.alloc (.cells #[.int .i64 0, .int .i64 (-1), .int .i64 1000000, .int .i64 1000001] 3) := ⟨_, rfl⟩
    have b2 : Below X.heap.size X W2 := by rw [hW2]; exact (Below.refl _ _).alloc (Nat.le_refl _) _
    have i2 : Row W2 X.heap.size 3 [.int .i64 0, .int .i64 (-1), .int .i64 1000000, .int .i64 1000001] := by rw [hW2]; exact Row.new _ _ _
    have sp2 := sp.later b2
    clear sp b2
    go_wp2_with fail
    rw [← hW2]
    clear hW2
    refine (pick_any W0 Rb a n cap f W2 (p + 1) 4 sp2.rd (by omega) (by omega)).mono ?_
    rintro e Y ⟨⟨u, rfl, hu0, hu1⟩, hr1, on1⟩
    have i3 := i2.only on1 (by omega)
    have c0' := i3.cell 0 rfl
    have c1' := i3.cell 1 rfl
    have c2' := i3.cell 2 rfl
    have c3' := i3.cell 3 rfl
    have sp3 := sp2.pick hr1 on1
    have e0 : Y.cell? ⟨Sb, 0, none⟩ = some (.int .i64 y.number) := sp3.row.cell 0 rfl
    have e0f := sp3.row.frozen 0
    have FIN : ∀ v, Hid (FnAt W0 Rb a n cap f W1 Sb (Y.setCell ⟨Sb, 0, none⟩ (.int .i64 v)) (p + 1 + 1) ⟨v, y.kind, y.stuffs, y.uses, y.opens, y.shuts⟩ d2 d3 d4 d5 k2 k3 k4 k5) := fun v => sp3.number v
    have hu4 : u = 0 ∨ u = 1 ∨ u = 2 ∨ u = 3 := by omega
    clear hu0 hu1 sp2 sp3 hr1 on1 i2 i3
    rcases hu4 with rfl | rfl | rfl | rfl
    all_goals
     go_wp2_with fail
     go_meet
     exact ⟨_, d2, d3, d4, d5, k2, k3, k4, k5, _, rfl, (FIN _).out, ⟨by show y.stuffs.length ≤ _; omega, by show y.uses.length ≤ _; omega, by show y.opens.length ≤ _; omega, by show y.shuts.length ≤ _; omega⟩, by omega, by omega⟩
  · go_wp2_with fail
    refine (pick_any W0 Rb a n cap f X (p + 1) 6 sp.rd (by omega) (by omega)).mono ?_
    rintro e Y ⟨⟨u, rfl, hu0, hu1⟩, hr1, on1⟩
    have sp3 := sp.pick hr1 on1
    have e0 : Y.cell? ⟨Sb, 1, none⟩ = some (.int .i64 y.kind) := sp3.row.cell 1 rfl
    have e0f := sp3.row.frozen 1
    have FIN : ∀ v, Hid (FnAt W0 Rb a n cap f W1 Sb (Y.setCell ⟨Sb, 1, none⟩ (.int .i64 v)) (p + 1 + 1) ⟨y.number, v, y.stuffs, y.uses, y.opens, y.shuts⟩ d2 d3 d4 d5 k2 k3 k4 k5) := fun v => sp3.kind v
    clear sp sp3 hr1 on1
    go_wp2_with fail
    go_meet
    exact ⟨_, d2, d3, d4, d5, k2, k3, k4, k5, _, rfl, (FIN _).out, ⟨by show y.stuffs.length ≤ _; omega, by show y.uses.length ≤ _; omega, by show y.opens.length ≤ _; omega, by show y.shuts.length ≤ _; omega⟩, by omega, by omega⟩
  · obtain ⟨W2, hW2⟩ : ∃ W, W = (((((X.alloc (.cells #[] 9)).alloc (.cells #[.string { data := #[65] }] 9)).alloc (.cells #[.string { data := #[97, 108, 101] }, .string { data := #[97, 108, 101] }] 9)).alloc (.cells #[.string { data := #[97, 108, 101] }] 9)).alloc (.cells #[.string { data := #[97, 108, 101] }, .string { data := #[108, 121, 101] }] 9)).alloc (.cells #[.slice (some ⟨X.heap.size, 0, none⟩) 0 0, .slice (some ⟨X.heap.size + 1, 0, none⟩) 1 1, .slice (some ⟨X.heap.size + 1 + 1, 0, none⟩) 2 2, .slice (some ⟨X.heap.size + 1 + 1 + 1, 0, none⟩) 1 1, .slice (some ⟨X.heap.size + 1 + 1 + 1 + 1, 0, none⟩) 2 2] 25) := ⟨_, rfl⟩
    have b2 : Below X.heap.size X W2 := by rw [hW2]; exact ((((((Below.refl _ _).alloc (Nat.le_refl _) _).alloc (by simp) _).alloc (by simp; omega) _).alloc (by simp; omega) _).alloc (by simp; omega) _).alloc (by simp; omega) _
    have q0 : Row W2 (X.heap.size) 9 ([].map Value.string) := by rw [hW2]; exact (((((Row.new _ _ _).alloc _).alloc _).alloc _).alloc _).alloc _
    have q1 : Row W2 (X.heap.size + 1) 9 ([{ data := #[65] }].map Value.string) := by rw [hW2]; exact ((((Row.new' (by simp)).alloc _).alloc _).alloc _).alloc _
    have q2 : Row W2 (X.heap.size + 1 + 1) 9 ([{ data := #[97, 108, 101] }, { data := #[97, 108, 101] }].map Value.string) := by rw [hW2]; exact (((Row.new' (by simp)).alloc _).alloc _).alloc _
    have q3 : Row W2 (X.heap.size + 1 + 1 + 1) 9 ([{ data := #[97, 108, 101] }].map Value.string) := by rw [hW2]; exact ((Row.new' (by simp)).alloc _).alloc _
    have q4 : Row W2 (X.heap.size + 1 + 1 + 1 + 1) 9 ([{ data := #[97, 108, 101] }, { data := #[108, 121, 101] }].map Value.string) := by rw [hW2]; exact (Row.new' (by simp)).alloc _
    have i2 : Row W2 (X.heap.size + 1 + 1 + 1 + 1 + 1) 25 [.slice (some ⟨X.heap.size, 0, none⟩) 0 0, .slice (some ⟨X.heap.size + 1, 0, none⟩) 1 1, .slice (some ⟨X.heap.size + 1 + 1, 0, none⟩) 2 2, .slice (some ⟨X.heap.size + 1 + 1 + 1, 0, none⟩) 1 1, .slice (some ⟨X.heap.size + 1 + 1 + 1 + 1, 0, none⟩) 2 2] := by rw [hW2]; exact Row.new' (by simp)
    have sp2 := sp.later b2
    clear sp b2
    go_wp2_with fail
    rw [← hW2]
    clear hW2
    refine (pick_any W0 Rb a n cap f W2 (p + 1) 5 sp2.rd (by omega) (by omega)).mono ?_
    rintro e Y ⟨⟨u, rfl, hu0, hu1⟩, hr1, on1⟩
    have i3 := i2.only on1 (by omega)
    have c0' := i3.cell 0 rfl
    have c1' := i3.cell 1 rfl
    have c2' := i3.cell 2 rfl
    have c3' := i3.cell 3 rfl
    have c4' := i3.cell 4 rfl
    have sp3 := sp2.pick hr1 on1
    have e0 : Y.cell? ⟨Sb, 2, none⟩ = some (.slice d2 y.stuffs.length k2) := sp3.row.cell 2 rfl
    have e0f := sp3.row.frozen 2
    have F0 : Hid _ := sp3.stuffs (l := []) (k := 0) (strsAt_row [] (q0.only on1 (by omega))) (by omega) (by decide)
    have F1 : Hid _ := sp3.stuffs (l := [{ data := #[65] }]) (k := 1) (strsAt_row [{ data := #[65] }] (q1.only on1 (by omega))) (by omega) (by decide)
    have F2 : Hid _ := sp3.stuffs (l := [{ data := #[97, 108, 101] }, { data := #[97, 108, 101] }]) (k := 2) (strsAt_row [{ data := #[97, 108, 101] }, { data := #[97, 108, 101] }] (q2.only on1 (by omega))) (by omega) (by decide)
    have F3 : Hid _ := sp3.stuffs (l := [{ data := #[97, 108, 101] }]) (k := 1) (strsAt_row [{ data := #[97, 108, 101] }] (q3.only on1 (by omega))) (by omega) (by decide)
    have F4 : Hid _ := sp3.stuffs (l := [{ data := #[97, 108, 101] }, { data := #[108, 121, 101] }]) (k := 2) (strsAt_row [{ data := #[97, 108, 101] }, { data := #[108, 121, 101] }] (q4.only on1 (by omega))) (by omega) (by decide)
    have hu4 : u = 0 ∨ u = 1 ∨ u = 2 ∨ u = 3 ∨ u = 4 := by omega
    clear hu0 hu1 sp2 sp3 hr1 on1 i2 i3 q0 q1 q2 q3 q4
    rcases hu4 with rfl | rfl | rfl | rfl | rfl
    · go_wp2_with fail
      go_meet
      exact ⟨_, _, d3, d4, d5, _, k3, k4, k5, _, rfl, F0.out, ⟨by simp, by show y.uses.length ≤ _; omega, by show y.opens.length ≤ _; omega, by show y.shuts.length ≤ _; omega⟩, by omega, by omega⟩
    · go_wp2_with fail
      go_meet
      exact ⟨_, _, d3, d4, d5, _, k3, k4, k5, _, rfl, F1.out, ⟨by simp, by show y.uses.length ≤ _; omega, by show y.opens.length ≤ _; omega, by show y.shuts.length ≤ _; omega⟩, by omega, by omega⟩
    · go_wp2_with fail
      go_meet
      exact ⟨_, _, d3, d4, d5, _, k3, k4, k5, _, rfl, F2.out, ⟨by simp, by show y.uses.length ≤ _; omega, by show y.opens.length ≤ _; omega, by show y.shuts.length ≤ _; omega⟩, by omega, by omega⟩
    · go_wp2_with fail
      go_meet
      exact ⟨_, _, d3, d4, d5, _, k3, k4, k5, _, rfl, F3.out, ⟨by simp, by show y.uses.length ≤ _; omega, by show y.opens.length ≤ _; omega, by show y.shuts.length ≤ _; omega⟩, by omega, by omega⟩
    · go_wp2_with fail
      go_meet
      exact ⟨_, _, d3, d4, d5, _, k3, k4, k5, _, rfl, F4.out, ⟨by simp, by show y.uses.length ≤ _; omega, by show y.opens.length ≤ _; omega, by show y.shuts.length ≤ _; omega⟩, by omega, by omega⟩
  · have hS : ∀ W, Only (fun q => q = Rb) X W → W.cell? ⟨Sb, 3, none⟩ = some (.slice d3 y.uses.length k3) := fun W hb => cell_only hb (sp.row.cell 3 rfl) hSX (by omega)
    have hS0 := hS X (Only.refl _ _)
    have rX := sp.rd
    go_wp2_with fail
    refine wp_region_E (fun W => W.cell? ⟨Sb, 3, none⟩ = some (.slice d3 y.uses.length k3)) 13 (by kernel_rfl) ?_
    refine tk 0 ?vaa0 rfl (by kernel_rfl) (fun _ _ _ h => h) (by rfl) (hS0) ?yaa0 ?raa0
    case yaa0 => intro w' h; (try dsimp only at h); go_simp; (try with_reducible rfl)
    try simp only [Act.put, sA, sB, sC]
    refine tk 1 ?vaa1 rfl (by kernel_rfl) (fun _ _ _ h => h) (by rfl) (hS0) ?yaa1 ?raa1
    case yaa1 => intro w' h; (try dsimp only at h); go_simp; (try with_reducible rfl)
    try simp only [Act.put, sA, sB, sC]
    refine tk 2 ?vaa2 rfl (by kernel_rfl) (fun _ _ _ h => h) (by rfl) (hS0) ?yaa2 ?raa2
    case yaa2 => intro w' h; (try dsimp only at h); go_simp; (try with_reducible rfl)
    try simp only [Act.put, sA, sB, sC]
    refine tk 5 ?vaa5 rfl (by kernel_rfl) (fun _ _ _ h => h) (by rfl) (hS0) ?yaa5 ?raa5
    case yaa5 => intro w' h; (try dsimp only at h); go_simp; (try with_reducible rfl)
    try simp only [Act.put, sA, sB, sC]
    refine tk 7 ?vaa7 rfl (by kernel_rfl) (fun _ _ _ h => h) (by rfl) (hS0) ?yaa7 ?raa7
    case yaa7 => intro w' h; (try dsimp only at h); go_simp; (try with_reducible rfl)
    try simp only [Act.put, sA, sB, sC]
    refine wpAnyE_oneC (i := 3) rfl (by kernel_rfl) ?_
    intro K hK
    rw [if_pos (by rfl)]
    go_wp2_with fail
    refine hK.out _ _ (fun _ => hS _ (by (repeat (first | assumption | exact Only.refl _ _ | refine on_drew ?_ | refine on_alloc ?_ _)))) ?_
    clear hK K
    try simp only [Act.put, sA, sB, sC]
    refine wpAnyE_oneC (i := 4) rfl (by kernel_rfl) ?_
    intro K hK
    rw [if_pos (by rfl)]
    go_wp2_with (go_at_call 73; refine (of_any W0 Rb a n cap f _ (p + 1) (by (repeat (first | assumption | refine rd_drew ?_ | refine rd_alloc ?_ _))) (by omega) (by omega) (some ⟨X.heap.size, 0, none⟩) 3 spoilUses (strsAt_row spoilUses (by first | exact Row.drew (Row.new' (by first | rfl | simp)) | exact Row.new' (by first | rfl | simp))) (fun q hq => by obtain ⟨_, o, e⟩ := hq; cases e; omega) (by decide) (by decide)).mono ?_; rintro e Y ⟨⟨i, hi, rfl⟩, hr6, on6⟩; have onY : Only (fun q => q = Rb) X Y := Only.trans (by (repeat (first | assumption | exact Only.refl _ _ | refine on_drew ?_ | refine on_alloc ?_ _))) on6)
    refine hK.out _ _ (fun _ => hS _ onY) ?_
    clear hK K
    try simp only [Act.put, sA, sB, sC]
    have sj := gs_short spoilUses_short hi
    generalize gs spoilUses i = sn at sj ⊢
    refine wpAnyE_oneC (i := 6) rfl (by kernel_rfl) ?_
    intro K hK
    rw [if_pos (by rfl)]
    go_wp2_with (go_at_call 71; refine (pick_any W0 Rb a n cap f _ (p + 1 + 1) 5 (by (repeat (first | assumption | refine rd_drew ?_ | refine rd_alloc ?_ _))) (by omega) (by omega)).mono ?_; rintro e Y1 ⟨⟨u1, rfl, -, -⟩, hr7, on7⟩; have onY1 : Only (fun q => q = Rb) X Y1 := Only.trans onY on7)
    refine hK.out _ _ (fun _ => hS _ onY1) ?_
    clear hK K
    try simp only [Act.put, sA, sB, sC]
    refine wpAnyE_oneC (i := 8) rfl (by kernel_rfl) ?_
    intro K hK
    rw [if_pos (by rfl)]
    go_wp2_with (go_at_call 71; refine (pick_any W0 Rb a n cap f _ (p + 1 + 1 + 1) 3 (by (repeat (first | assumption | refine rd_drew ?_ | refine rd_alloc ?_ _))) (by omega) (by omega)).mono ?_; rintro e Y2 ⟨⟨u2, rfl, -, -⟩, hr8, on8⟩; have onY2 : Only (fun q => q = Rb) X Y2 := Only.trans onY1 on8)
    refine hK.out _ _ (fun _ => hS _ onY2) ?_
    clear hK K
    try simp only [Act.put, sA, sB, sC]
    have sp2 := sp.pick hr8 onY2
    have hSY : Sb < Y2.heap.size := sp2.row.lt
    have hOwn : ∀ W, Below Y2.heap.size Y2 W → OwnL W 101 3 d3 y.uses.length (useF y.uses) ∧ CapOf W 101 3 d3 y.uses.length k3 := fun W hb => ⟨sp2.own.l3.own.later hb, sp2.own.l3.cap.later hb⟩
    refine tk 9 ?vaa9 rfl (by kernel_rfl) (fun _ _ _ h => h) (by rfl) (hS _ onY2) ?yaa9 ?raa9
    case yaa9 => intro w' h; (try dsimp only at h); go_simp; (try with_reducible rfl)
    try simp only [Act.put, sA, sB, sC]
    refine wpAnyE_oneC (i := 10) rfl (by kernel_rfl) ?_
    intro K hK
    rw [if_pos (by rfl)]
    go_wp2_with fail
    refine hK.out _ _ (fun _ => hS _ (on_alloc onY2 _)) ?_
    clear hK K
    try simp only [Act.put, sA, sB, sC]
    refine wpAnyE_oneC (i := 11) rfl (by kernel_rfl) ?_
    intro K hK
    refine step_append_row (by rfl) _ _ (by rfl) sliceUse d3 y.uses.length k3 _ (by rfl) (hOwn _ (by (repeat (first | assumption | exact Below.refl _ _ | refine Below.drew ?_ | refine Below.alloc ?_ (by (try simp); (try omega)) _ | refine Below.setCell ?_ (by (try simp); (try omega)) _)))).1 (hOwn _ (by (repeat (first | assumption | exact Below.refl _ _ | refine Below.drew ?_ | refine Below.alloc ?_ (by (try simp); (try omega)) _ | refine Below.setCell ?_ (by (try simp); (try omega)) _)))).2 (some ⟨Y2.heap.size, 0, none⟩) 1 1 (useF [⟨sn, u1, u2⟩]) (by rfl) (use_row (u := ⟨sn, u1, u2⟩) (Row.new' (by simp))) (oneUse _) (by omega) ?_
    intro a6 c6 w6 apd
    have hw5 : ∃ W5 : World, Below Y2.heap.size Y2 W5 ∧ Appended 101 3 W5 w6 d3 y.uses.length 1 (useF y.uses) (useF [⟨sn, u1, u2⟩]) a6 c6 := ⟨_, (by (repeat (first | assumption | exact Below.refl _ _ | refine Below.drew ?_ | refine Below.alloc ?_ (by (try simp); (try omega)) _ | refine Below.setCell ?_ (by (try simp); (try omega)) _))), apd⟩
    clear apd
    obtain ⟨W5, hb5, apd⟩ := hw5
    have sp5 := sp2.later hb5
    have fn := sp5.use (u := ⟨sn, u1, u2⟩) (fun j hj => rfl) apd sj
    have r6 := sp5.row.only apd.only sp5.n3
    have f6 := r6.frozen 3
    have e6 : w6.cell? ⟨Sb, 3, none⟩ = some (.slice d3 y.uses.length k3) := r6.cell 3 rfl
    have FN : Hid _ := fn
    clear fn r6 apd sp5 hOwn hb5 sp2
    refine hK.out _ _ (fun _ => e6) ?_
    clear hK K
    try simp only [Act.put, sA, sB, sC]
    refine tk 12 ?vaa12 rfl (by kernel_rfl) (fun _ _ _ h => h) (by rfl) (e6) ?yaa12 ?raa12
    case yaa12 => intro w' h; (try dsimp only at h); go_simp; (try with_reducible rfl)
    try simp only [Act.put, sA, sB, sC]
    refine wpAnyE_oneC (i := 13) rfl (by kernel_rfl) ?_
    intro K hK
    rw [if_pos (by rfl)]
    go_wp2_with fail
    refine hK.out _ _ (fun h => absurd rfl h) ?_
    clear hK K
    try simp only [Act.put, sA, sB, sC]
    refine wpAnyE_done (by kernel_rfl) ?_ _
    clear hS hS0 e6 f6
    go_wp2_with fail
    go_meet
    exact ⟨_, d2, a6, d4, d5, k2, c6, k4, k5, _, rfl, FN.out, ⟨by show y.stuffs.length ≤ _; omega, by simp; omega, by show y.opens.length ≤ _; omega, by show y.shuts.length ≤ _; omega⟩, by omega, by omega⟩
  · have g3' : X.cell? ⟨Sb, 3, none⟩ = some (.slice d3 y.uses.length k3) := sp.row.cell 3 rfl
    by_cases hu : 0 < y.uses.length
    · have hu2 : (0 : Int) < y.uses.length := by omega
      obtain ⟨b3, hb3⟩ : ∃ b, d3 = some ⟨b, 0, none⟩ := by
       rcases sp.own.l3.own with h' | ⟨b, l, hb, -⟩
       · omega
       · exact ⟨b, hb⟩
      have HB : Hid (d3 = some ⟨b3, 0, none⟩) := hb3
      subst hb3
      have g3 : X.cell? ⟨Sb, 3, none⟩ = some (.slice (some ⟨b3, 0, none⟩) y.uses.length k3) := sp.row.cell 3 rfl
      have hS : ∀ W, Only (fun q => q = Rb) X W → W.cell? ⟨Sb, 3, none⟩ = some (.slice (some ⟨b3, 0, none⟩) y.uses.length k3) := fun W hb => cell_only hb g3 hSX (by omega)
      have hS0 := hS X (Only.refl _ _)
      have rX := sp.rd
      have hneX : ¬ X.heap.size = Rb := by omega
      have FIN : ∀ (Wf : World) (j : Nat) (z : Int), j < y.uses.length → Rd W0 Rb a n cap f Wf (p + 1 + 1 + 1) → Only (fun q => q = Rb) X Wf → FnAt W0 Rb a n cap f W1 Sb (Wf.setCell ⟨b3, j * 3 + 2, none⟩ (.int .i64 z)) (p + 1 + 1 + 1) ⟨y.number, y.kind, y.stuffs, y.uses.set j ⟨(gu y.uses j).name, (gu y.uses j).role, z⟩, y.opens, y.shuts⟩ d2 (some ⟨b3, 0, none⟩) d4 d5 k2 k3 k4 k5 := fun Wf j z hj hr ho => (sp.pick hr ho).amount rfl hj z
      have CEL : ∀ (Wf : World) (j : Nat), j < y.uses.length → Only (fun q => q = Rb) X Wf → (∃ z, Wf.cell? ⟨b3, j * 3 + 2, none⟩ = some (.int .i64 z)) ∧ Wf.frozen? ⟨b3, j * 3 + 2, none⟩ = false ∧ b3 < Wf.heap.size := fun Wf j hj ho => by
       have ow := sp.own.l3.own.only ho (fun q hq e => by have := sp.own.l3.lo q hq.2; have e' : q = Rb := e; omega)
       rcases ow with h' | ⟨b, l, hb, hr, hl, hc⟩
       · omega
       · cases hb
         exact ⟨⟨_, hr.cell _ (hc j hj 2 (by omega))⟩, hr.frozen _, hr.lt⟩
      clear sp
      go_wp2_with fail
      refine wp_region_E (fun W => W.cell? ⟨Sb, 3, none⟩ = some (.slice (some ⟨b3, 0, none⟩) y.uses.length k3)) 14 (by kernel_rfl) ?_
      refine tk 0 ?vag0 rfl (by kernel_rfl) (fun _ _ _ h => h) (by rfl) (hS0) ?yag0 ?rag0
      case yag0 => intro w' h; (try dsimp only at h); go_simp; (try with_reducible rfl)
      try simp only [Act.put, sA, sB, sC]
      refine tk 1 ?vag1 rfl (by kernel_rfl) (fun _ _ _ h => h) (by rfl) (hS0) ?yag1 ?rag1
      case yag1 => intro w' h; (try dsimp only at h); go_simp; (try with_reducible rfl)
      try simp only [Act.put, sA, sB, sC]
      refine tk 2 ?vag2 rfl (by kernel_rfl) (fun _ _ _ h => h) (by rfl) (hS0) ?yag2 ?rag2
      case yag2 => intro w' h; (try dsimp only at h); go_simp; (try with_reducible rfl)
      try simp only [Act.put, sA, sB, sC]
      refine tk 3 ?vag3 rfl (by kernel_rfl) (fun _ _ _ h => h) (by rfl) (hS0) ?yag3 ?rag3
      case yag3 => intro w' h; (try dsimp only at h); go_simp; (try with_reducible rfl)
      try simp only [Act.put, sA, sB, sC]
      refine tk 4 ?vag4 rfl (by kernel_rfl) (fun _ _ _ h => h) (by rfl) (hS0) ?yag4 ?rag4
      case yag4 => intro w' h; (try dsimp only at h); go_simp; (try with_reducible rfl)
      try simp only [Act.put, sA, sB, sC]
      refine tk 5 ?vag5 rfl (by kernel_rfl) (fun _ _ _ h => h) (by rfl) (hS0) ?yag5 ?rag5
      case yag5 => intro w' h; (try dsimp only at h); go_simp; (try with_reducible rfl)
      try simp only [Act.put, sA, sB, sC]
      refine tk 8 ?vag8 rfl (by kernel_rfl) (fun _ _ _ h => h) (by rfl) (hS0) ?yag8 ?rag8
      case yag8 => intro w' h; (try dsimp only at h); go_simp; (try with_reducible rfl)
      try simp only [Act.put, sA, sB, sC]
      refine wpAnyE_twoC 6 7 (by kernel_rfl) rfl rfl ?wg1 ?wg2
      case wg1 =>
       intro K hK
       rw [if_pos (by rfl)]
       go_wp2_with (go_at_call 71; refine (pick_any W0 Rb a n cap f _ (p + 1) _ (by (repeat (first | assumption | refine rd_drew ?_ | refine rd_alloc ?_ _))) (by omega) (by omega)).mono ?_; rintro e Y ⟨⟨v6, rfl, hv60, hv61⟩, hr6, on6⟩; have onY : Only (fun q => q = Rb) X Y := Only.trans (by (repeat (first | assumption | exact Only.refl _ _ | refine on_drew ?_ | refine on_alloc ?_ _))) on6)
       refine hK.out _ _ (fun _ => hS _ onY) ?_
       clear hK K
       try simp only [Act.put, sA, sB, sC]
       obtain ⟨j, rfl⟩ : ∃ j : Nat, v6 = j := ⟨v6.toNat, by omega⟩
       have hj : j < y.uses.length := by omega
       have hj2 : (j : Int) < y.uses.length := by omega
       have hcA := ocell on6
       have hneY : ¬ Y.heap.size = Rb := by have := hr6.row.lt; omega
       have hzA := on6.size
       try simp at hzA
       clear hv60 hv61
       refine wpAnyE_twoC 7 9 (by kernel_rfl) rfl rfl ?wg11 ?wg12
       case wg11 =>
        intro K hK
        rw [if_pos (by rfl)]
        go_wp2_with fail
        refine hK.out _ _ (fun _ => hS _ (by (repeat (first | assumption | exact Only.refl _ _ | refine on_drew ?_ | refine on_alloc ?_ _)))) ?_
        clear hK K
        try simp only [Act.put, sA, sB, sC]
        refine wpAnyE_oneC (i := 9) rfl (by kernel_rfl) ?_
        intro K hK
        rw [if_pos (by rfl)]
        go_wp2_with (go_at_call 71; refine (pick_any W0 Rb a n cap f _ (p + 1 + 1) 4 (by (repeat (first | assumption | refine rd_drew ?_ | refine rd_alloc ?_ _))) (by omega) (by omega)).mono ?_; rintro e Z ⟨⟨v9, rfl, hv90, hv91⟩, hr9, on9⟩; have onZ : Only (fun q => q = Rb) X Z := Only.trans (by (repeat (first | assumption | exact Only.refl _ _ | refine on_drew ?_ | refine on_alloc ?_ _))) on9)
        refine hK.out _ _ (fun _ => hS _ onZ) ?_
        clear hK K
        try simp only [Act.put, sA, sB, sC]
        have hv4 : v9 = 0 ∨ v9 = 1 ∨ v9 = 2 ∨ v9 = 3 := by omega
        have hcB := ocell on9
        have hzB := on9.size
        try simp at hzB
        obtain ⟨⟨zz, hzz⟩, hfz, hbz⟩ := CEL Z j hj onZ
        have hneZ : ¬ b3 = Z.heap.size := by omega
        clear hv90 hv91
        rcases hv4 with rfl | rfl | rfl | rfl
        all_goals
         refine wpAnyE_oneC (i := 10) rfl (by kernel_rfl) ?_
         intro K hK
         rw [if_pos (by rfl)]
         go_wp2_with fail
         refine hK.out _ _ (fun _ => hS _ (by (repeat (first | assumption | exact Only.refl _ _ | refine on_drew ?_ | refine on_alloc ?_ _)))) ?_
         clear hK K
         try simp only [Act.put, sA, sB, sC]
         refine wpAnyE_oneC (i := 11) rfl (by kernel_rfl) ?_
         intro K hK
         rw [if_pos (by rfl)]
         go_wp2_with fail
         refine hK.out _ _ (fun _ => hS _ (by (repeat (first | assumption | exact Only.refl _ _ | refine on_drew ?_ | refine on_alloc ?_ _)))) ?_
         clear hK K
         try simp only [Act.put, sA, sB, sC]
         refine wpAnyE_oneC (i := 12) rfl (by kernel_rfl) ?_
         intro K hK
         rw [if_pos (by rfl)]
         go_wp2_with fail
         refine hK.out _ _ (fun _ => hS _ (by (repeat (first | assumption | exact Only.refl _ _ | refine on_drew ?_ | refine on_alloc ?_ _)))) ?_
         clear hK K
         try simp only [Act.put, sA, sB, sC]
         refine wpAnyE_oneC (i := 13) rfl (by kernel_rfl) ?_
         intro K hK
         rw [if_pos (by rfl)]
         go_wp2_with fail
         refine hK.out _ _ (fun _ => hS _ (by (repeat (first | assumption | exact Only.refl _ _ | refine on_drew ?_ | refine on_alloc ?_ _)))) ?_
         clear hK K
         try simp only [Act.put, sA, sB, sC]
         refine wpAnyE_oneC (i := 14) rfl (by kernel_rfl) ?_
         intro K hK
         rw [if_pos (by rfl)]
         go_wp2_with fail
         refine hK.out _ _ (fun h => absurd rfl h) ?_
         clear hK K
         try simp only [Act.put, sA, sB, sC]
         refine wpAnyE_done (by kernel_rfl) ?_ _
         go_wp2_with fail
         go_meet
         exact ⟨_, d2, _, d4, d5, k2, k3, k4, k5, _, rfl, (by first | exact FIN _ j _ hj (by (repeat (first | assumption | refine rd_drew ?_ | refine rd_alloc ?_ _))) (by (repeat (first | assumption | exact Only.refl _ _ | refine on_drew ?_ | refine on_alloc ?_ _))) | exact fn_alloc (FIN _ j _ hj (by (repeat (first | assumption | refine rd_drew ?_ | refine rd_alloc ?_ _))) (by (repeat (first | assumption | exact Only.refl _ _ | refine on_drew ?_ | refine on_alloc ?_ _)))) _), ⟨by show y.stuffs.length ≤ _; omega, by simp; omega, by show y.opens.length ≤ _; omega, by show y.shuts.length ≤ _; omega⟩, by omega, by omega⟩
       case wg12 =>
        intro K hK
        rw [if_pos (by rfl)]
        go_wp2_with (go_at_call 71; refine (pick_any W0 Rb a n cap f _ (p + 1 + 1) 4 (by (repeat (first | assumption | refine rd_drew ?_ | refine rd_alloc ?_ _))) (by omega) (by omega)).mono ?_; rintro e Z ⟨⟨v9, rfl, hv90, hv91⟩, hr9, on9⟩; have onZ : Only (fun q => q = Rb) X Z := Only.trans (by (repeat (first | assumption | exact Only.refl _ _ | refine on_drew ?_ | refine on_alloc ?_ _))) on9)
        refine hK.out _ _ (fun _ => hS _ onZ) ?_
        clear hK K
        try simp only [Act.put, sA, sB, sC]
        have hv4 : v9 = 0 ∨ v9 = 1 ∨ v9 = 2 ∨ v9 = 3 := by omega
        have hcB := ocell on9
        have hzB := on9.size
        try simp at hzB
        obtain ⟨⟨zz, hzz⟩, hfz, hbz⟩ := CEL Z j hj onZ
        have hneZ : ¬ b3 = Z.heap.size := by omega
        clear hv90 hv91
        refine wpAnyE_oneC (i := 7) rfl (by kernel_rfl) ?_
        intro K hK
        rw [if_pos (by rfl)]
        go_wp2_with fail
        refine hK.out _ _ (fun _ => hS _ (by (repeat (first | assumption | exact Only.refl _ _ | refine on_drew ?_ | refine on_alloc ?_ _)))) ?_
        clear hK K
        try simp only [Act.put, sA, sB, sC]
        rcases hv4 with rfl | rfl | rfl | rfl
        all_goals
         refine wpAnyE_oneC (i := 10) rfl (by kernel_rfl) ?_
         intro K hK
         rw [if_pos (by rfl)]
         go_wp2_with fail
         refine hK.out _ _ (fun _ => hS _ (by (repeat (first | assumption | exact Only.refl _ _ | refine on_drew ?_ | refine on_alloc ?_ _)))) ?_
         clear hK K
         try simp only [Act.put, sA, sB, sC]
         refine wpAnyE_oneC (i := 11) rfl (by kernel_rfl) ?_
         intro K hK
         rw [if_pos (by rfl)]
         go_wp2_with fail
         refine hK.out _ _ (fun _ => hS _ (by (repeat (first | assumption | exact Only.refl _ _ | refine on_drew ?_ | refine on_alloc ?_ _)))) ?_
         clear hK K
         try simp only [Act.put, sA, sB, sC]
         refine wpAnyE_oneC (i := 12) rfl (by kernel_rfl) ?_
         intro K hK
         rw [if_pos (by rfl)]
         go_wp2_with fail
         refine hK.out _ _ (fun _ => hS _ (by (repeat (first | assumption | exact Only.refl _ _ | refine on_drew ?_ | refine on_alloc ?_ _)))) ?_
         clear hK K
         try simp only [Act.put, sA, sB, sC]
         refine wpAnyE_oneC (i := 13) rfl (by kernel_rfl) ?_
         intro K hK
         rw [if_pos (by rfl)]
         go_wp2_with fail
         refine hK.out _ _ (fun _ => hS _ (by (repeat (first | assumption | exact Only.refl _ _ | refine on_drew ?_ | refine on_alloc ?_ _)))) ?_
         clear hK K
         try simp only [Act.put, sA, sB, sC]
         refine wpAnyE_oneC (i := 14) rfl (by kernel_rfl) ?_
         intro K hK
         rw [if_pos (by rfl)]
         go_wp2_with fail
         refine hK.out _ _ (fun h => absurd rfl h) ?_
         clear hK K
         try simp only [Act.put, sA, sB, sC]
         refine wpAnyE_done (by kernel_rfl) ?_ _
         go_wp2_with fail
         go_meet
         exact ⟨_, d2, _, d4, d5, k2, k3, k4, k5, _, rfl, (by first | exact FIN _ j _ hj (by (repeat (first | assumption | refine rd_drew ?_ | refine rd_alloc ?_ _))) (by (repeat (first | assumption | exact Only.refl _ _ | refine on_drew ?_ | refine on_alloc ?_ _))) | exact fn_alloc (FIN _ j _ hj (by (repeat (first | assumption | refine rd_drew ?_ | refine rd_alloc ?_ _))) (by (repeat (first | assumption | exact Only.refl _ _ | refine on_drew ?_ | refine on_alloc ?_ _)))) _), ⟨by show y.stuffs.length ≤ _; omega, by simp; omega, by show y.opens.length ≤ _; omega, by show y.shuts.length ≤ _; omega⟩, by omega, by omega⟩
      case wg2 =>
       intro K hK
       rw [if_pos (by rfl)]
       go_wp2_with fail
       refine hK.out _ _ (fun _ => hS _ (by (repeat (first | assumption | exact Only.refl _ _ | refine on_drew ?_ | refine on_alloc ?_ _)))) ?_
       clear hK K
       try simp only [Act.put, sA, sB, sC]
       refine wpAnyE_oneC (i := 6) rfl (by kernel_rfl) ?_
       intro K hK
       rw [if_pos (by rfl)]
       go_wp2_with (go_at_call 71; refine (pick_any W0 Rb a n cap f _ (p + 1) _ (by (repeat (first | assumption | refine rd_drew ?_ | refine rd_alloc ?_ _))) (by omega) (by omega)).mono ?_; rintro e Y ⟨⟨v6, rfl, hv60, hv61⟩, hr6, on6⟩; have onY : Only (fun q => q = Rb) X Y := Only.trans (by (repeat (first | assumption | exact Only.refl _ _ | refine on_drew ?_ | refine on_alloc ?_ _))) on6)
       refine hK.out _ _ (fun _ => hS _ onY) ?_
       clear hK K
       try simp only [Act.put, sA, sB, sC]
       obtain ⟨j, rfl⟩ : ∃ j : Nat, v6 = j := ⟨v6.toNat, by omega⟩
       have hj : j < y.uses.length := by omega
       have hj2 : (j : Int) < y.uses.length := by omega
       have hcA := ocell on6
       have hneY : ¬ Y.heap.size = Rb := by have := hr6.row.lt; omega
       have hzA := on6.size
       try simp at hzA
       have hltXY : X.heap.size < Y.heap.size := by omega
       clear hv60 hv61
       refine wpAnyE_oneC (i := 9) rfl (by kernel_rfl) ?_
       intro K hK
       rw [if_pos (by rfl)]
       go_wp2_with (go_at_call 71; refine (pick_any W0 Rb a n cap f _ (p + 1 + 1) 4 (by (repeat (first | assumption | refine rd_drew ?_ | refine rd_alloc ?_ _))) (by omega) (by omega)).mono ?_; rintro e Z ⟨⟨v9, rfl, hv90, hv91⟩, hr9, on9⟩; have onZ : Only (fun q => q = Rb) X Z := Only.trans (by (repeat (first | assumption | exact Only.refl _ _ | refine on_drew ?_ | refine on_alloc ?_ _))) on9)
       refine hK.out _ _ (fun _ => hS _ onZ) ?_
       clear hK K
       try simp only [Act.put, sA, sB, sC]
       have hv4 : v9 = 0 ∨ v9 = 1 ∨ v9 = 2 ∨ v9 = 3 := by omega
       have hcB := ocell on9
       have hzB := on9.size
       try simp at hzB
       obtain ⟨⟨zz, hzz⟩, hfz, hbz⟩ := CEL Z j hj onZ
       have hneZ : ¬ b3 = Z.heap.size := by omega
       clear hv90 hv91
       rcases hv4 with rfl | rfl | rfl | rfl
       all_goals
        refine wpAnyE_oneC (i := 10) rfl (by kernel_rfl) ?_
        intro K hK
        rw [if_pos (by rfl)]
        go_wp2_with fail
        refine hK.out _ _ (fun _ => hS _ (by (repeat (first | assumption | exact Only.refl _ _ | refine on_drew ?_ | refine on_alloc ?_ _)))) ?_
        clear hK K
        try simp only [Act.put, sA, sB, sC]
        refine wpAnyE_oneC (i := 11) rfl (by kernel_rfl) ?_
        intro K hK
        rw [if_pos (by rfl)]
        go_wp2_with fail
        refine hK.out _ _ (fun _ => hS _ (by (repeat (first | assumption | exact Only.refl _ _ | refine on_drew ?_ | refine on_alloc ?_ _)))) ?_
        clear hK K
        try simp only [Act.put, sA, sB, sC]
        refine wpAnyE_oneC (i := 12) rfl (by kernel_rfl) ?_
        intro K hK
        rw [if_pos (by rfl)]
        go_wp2_with fail
        refine hK.out _ _ (fun _ => hS _ (by (repeat (first | assumption | exact Only.refl _ _ | refine on_drew ?_ | refine on_alloc ?_ _)))) ?_
        clear hK K
        try simp only [Act.put, sA, sB, sC]
        refine wpAnyE_oneC (i := 13) rfl (by kernel_rfl) ?_
        intro K hK
        rw [if_pos (by rfl)]
        go_wp2_with fail
        refine hK.out _ _ (fun _ => hS _ (by (repeat (first | assumption | exact Only.refl _ _ | refine on_drew ?_ | refine on_alloc ?_ _)))) ?_
        clear hK K
        try simp only [Act.put, sA, sB, sC]
        refine wpAnyE_oneC (i := 14) rfl (by kernel_rfl) ?_
        intro K hK
        rw [if_pos (by rfl)]
        go_wp2_with fail
        refine hK.out _ _ (fun h => absurd rfl h) ?_
        clear hK K
        try simp only [Act.put, sA, sB, sC]
        refine wpAnyE_done (by kernel_rfl) ?_ _
        go_wp2_with fail
        go_meet
        exact ⟨_, d2, _, d4, d5, k2, k3, k4, k5, _, rfl, (by first | exact FIN _ j _ hj (by (repeat (first | assumption | refine rd_drew ?_ | refine rd_alloc ?_ _))) (by (repeat (first | assumption | exact Only.refl _ _ | refine on_drew ?_ | refine on_alloc ?_ _))) | exact fn_alloc (FIN _ j _ hj (by (repeat (first | assumption | refine rd_drew ?_ | refine rd_alloc ?_ _))) (by (repeat (first | assumption | exact Only.refl _ _ | refine on_drew ?_ | refine on_alloc ?_ _)))) _), ⟨by show y.stuffs.length ≤ _; omega, by simp; omega, by show y.opens.length ≤ _; omega, by show y.shuts.length ≤ _; omega⟩, by omega, by omega⟩
    · have hu2 : ¬ (0 : Int) < y.uses.length := by omega
      have g3 : X.cell? ⟨Sb, 3, none⟩ = some (.slice d3 y.uses.length k3) := sp.row.cell 3 rfl
      have FN : Hid _ := sp.done
      clear sp
      go_wp2_with fail
      go_meet
      exact ⟨y, d2, d3, d4, d5, k2, k3, k4, k5, _, rfl, FN.out, ⟨by show y.stuffs.length ≤ _; omega, by show y.uses.length ≤ _; omega, by show y.opens.length ≤ _; omega, by show y.shuts.length ≤ _; omega⟩, by omega, by omega⟩
  · have hS : ∀ W, Only (fun q => q = Rb) X W → W.cell? ⟨Sb, 4, none⟩ = some (.slice d4 y.opens.length k4) := fun W hb => cell_only hb (sp.row.cell 4 rfl) hSX (by omega)
    have hS0 := hS X (Only.refl _ _)
    have rX := sp.rd
    go_wp2_with fail
    refine wp_region_E (fun W => W.cell? ⟨Sb, 4, none⟩ = some (.slice d4 y.opens.length k4)) 8 (by kernel_rfl) ?_
    refine tk 0 ?vab0 rfl (by kernel_rfl) (fun _ _ _ h => h) (by rfl) (hS0) ?yab0 ?rab0
    case yab0 => intro w' h; (try dsimp only at h); go_simp; (try with_reducible rfl)
    try simp only [Act.put, sA, sB, sC]
    refine tk 1 ?vab1 rfl (by kernel_rfl) (fun _ _ _ h => h) (by rfl) (hS0) ?yab1 ?rab1
    case yab1 => intro w' h; (try dsimp only at h); go_simp; (try with_reducible rfl)
    try simp only [Act.put, sA, sB, sC]
    refine tk 2 ?vab2 rfl (by kernel_rfl) (fun _ _ _ h => h) (by rfl) (hS0) ?yab2 ?rab2
    case yab2 => intro w' h; (try dsimp only at h); go_simp; (try with_reducible rfl)
    try simp only [Act.put, sA, sB, sC]
    refine wpAnyE_oneC (i := 3) rfl (by kernel_rfl) ?_
    intro K hK
    rw [if_pos (by rfl)]
    go_wp2_with fail
    refine hK.out _ _ (fun _ => hS _ (by (repeat (first | assumption | exact Only.refl _ _ | refine on_drew ?_ | refine on_alloc ?_ _)))) ?_
    clear hK K
    try simp only [Act.put, sA, sB, sC]
    refine wpAnyE_oneC (i := 4) rfl (by kernel_rfl) ?_
    intro K hK
    rw [if_pos (by rfl)]
    go_wp2_with (go_at_call 73; refine (of_any W0 Rb a n cap f _ (p + 1) (by (repeat (first | assumption | refine rd_drew ?_ | refine rd_alloc ?_ _))) (by omega) (by omega) (some ⟨X.heap.size, 0, none⟩) 3 spoilTurns (strsAt_row spoilTurns (by first | exact Row.drew (Row.new' (by first | rfl | simp)) | exact Row.new' (by first | rfl | simp))) (fun q hq => by obtain ⟨_, o, e⟩ := hq; cases e; omega) (by decide) (by decide)).mono ?_; rintro e Y ⟨⟨i, hi, rfl⟩, hr6, on6⟩; have onY : Only (fun q => q = Rb) X Y := Only.trans (by (repeat (first | assumption | exact Only.refl _ _ | refine on_drew ?_ | refine on_alloc ?_ _))) on6)
    refine hK.out _ _ (fun _ => hS _ onY) ?_
    clear hK K
    try simp only [Act.put, sA, sB, sC]
    have sj := gs_short spoilTurns_short hi
    generalize gs spoilTurns i = sn at sj ⊢
    have sp2 := sp.pick hr6 onY
    have hSY : Sb < Y.heap.size := sp2.row.lt
    have hOwn : ∀ W, Below Y.heap.size Y W → OwnL W 9 1 d4 y.opens.length (strF y.opens) ∧ CapOf W 9 1 d4 y.opens.length k4 := fun W hb => ⟨sp2.own.l4.own.later hb, sp2.own.l4.cap.later hb⟩
    refine wpAnyE_oneC (i := 5) rfl (by kernel_rfl) ?_
    intro K hK
    rw [if_pos (by rfl)]
    go_wp2_with fail
    refine hK.out _ _ (fun _ => hS _ (on_alloc onY _)) ?_
    clear hK K
    try simp only [Act.put, sA, sB, sC]
    refine wpAnyE_oneC (i := 6) rfl (by kernel_rfl) ?_
    intro K hK
    refine step_append_row (by rfl) _ _ (by rfl) sliceStr d4 y.opens.length k4 _ (by rfl) (hOwn _ (by (repeat (first | assumption | exact Below.refl _ _ | refine Below.drew ?_ | refine Below.alloc ?_ (by (try simp); (try omega)) _ | refine Below.setCell ?_ (by (try simp); (try omega)) _)))).1 (hOwn _ (by (repeat (first | assumption | exact Below.refl _ _ | refine Below.drew ?_ | refine Below.alloc ?_ (by (try simp); (try omega)) _ | refine Below.setCell ?_ (by (try simp); (try omega)) _)))).2 (some ⟨Y.heap.size, 0, none⟩) 1 1 (fun _ _ => .string sn) (by rfl) (rowAt_one (t := 9) (Row.new' (by simp))) (fun _ _ => rfl) (by omega) ?_
    intro a6 c6 w6 apd
    have hw5 : ∃ W5 : World, Below Y.heap.size Y W5 ∧ Appended 9 1 W5 w6 d4 y.opens.length 1 (strF y.opens) (fun _ _ => .string sn) a6 c6 := ⟨_, (by (repeat (first | assumption | exact Below.refl _ _ | refine Below.drew ?_ | refine Below.alloc ?_ (by (try simp); (try omega)) _ | refine Below.setCell ?_ (by (try simp); (try omega)) _))), apd⟩
    clear apd
    obtain ⟨W5, hb5, apd⟩ := hw5
    have sp5 := sp2.later hb5
    have fn := (sp5.opens apd sj)
    have r6 := sp5.row.only apd.only sp5.n4
    have f6 := r6.frozen 4
    have e6 : w6.cell? ⟨Sb, 4, none⟩ = some (.slice d4 y.opens.length k4) := r6.cell 4 rfl
    have FN : Hid _ := fn
    clear fn r6 apd sp5 hOwn hb5 sp2
    refine hK.out _ _ (fun _ => e6) ?_
    clear hK K
    try simp only [Act.put, sA, sB, sC]
    refine tk 7 ?vab7 rfl (by kernel_rfl) (fun _ _ _ h => h) (by rfl) (e6) ?yab7 ?rab7
    case yab7 => intro w' h; (try dsimp only at h); go_simp; (try with_reducible rfl)
    try simp only [Act.put, sA, sB, sC]
    refine wpAnyE_oneC (i := 8) rfl (by kernel_rfl) ?_
    intro K hK
    rw [if_pos (by rfl)]
    go_wp2_with fail
    refine hK.out _ _ (fun h => absurd rfl h) ?_
    clear hK K
    try simp only [Act.put, sA, sB, sC]
    refine wpAnyE_done (by kernel_rfl) ?_ _
    clear hS hS0 e6 f6
    go_wp2_with fail
    go_meet
    exact ⟨_, d2, d3, a6, d5, k2, k3, c6, k5, _, rfl, FN.out, ⟨by show y.stuffs.length ≤ _; omega, by show y.uses.length ≤ _; omega, by simp; omega, by show y.shuts.length ≤ _; omega⟩, by omega, by omega⟩
  · have hS : ∀ W, Only (fun q => q = Rb) X W → W.cell? ⟨Sb, 5, none⟩ = some (.slice d5 y.shuts.length k5) := fun W hb => cell_only hb (sp.row.cell 5 rfl) hSX (by omega)
    have hS0 := hS X (Only.refl _ _)
    have rX := sp.rd
    go_wp2_with fail
    refine wp_region_E (fun W => W.cell? ⟨Sb, 5, none⟩ = some (.slice d5 y.shuts.length k5)) 8 (by kernel_rfl) ?_
    refine tk 0 ?vac0 rfl (by kernel_rfl) (fun _ _ _ h => h) (by rfl) (hS0) ?yac0 ?rac0
    case yac0 => intro w' h; (try dsimp only at h); go_simp; (try with_reducible rfl)
    try simp only [Act.put, sA, sB, sC]
    refine tk 1 ?vac1 rfl (by kernel_rfl) (fun _ _ _ h => h) (by rfl) (hS0) ?yac1 ?rac1
    case yac1 => intro w' h; (try dsimp only at h); go_simp; (try with_reducible rfl)
    try simp only [Act.put, sA, sB, sC]
    refine tk 2 ?vac2 rfl (by kernel_rfl) (fun _ _ _ h => h) (by rfl) (hS0) ?yac2 ?rac2
    case yac2 => intro w' h; (try dsimp only at h); go_simp; (try with_reducible rfl)
    try simp only [Act.put, sA, sB, sC]
    refine wpAnyE_oneC (i := 3) rfl (by kernel_rfl) ?_
    intro K hK
    rw [if_pos (by rfl)]
    go_wp2_with fail
    refine hK.out _ _ (fun _ => hS _ (by (repeat (first | assumption | exact Only.refl _ _ | refine on_drew ?_ | refine on_alloc ?_ _)))) ?_
    clear hK K
    try simp only [Act.put, sA, sB, sC]
    refine wpAnyE_oneC (i := 4) rfl (by kernel_rfl) ?_
    intro K hK
    rw [if_pos (by rfl)]
    go_wp2_with (go_at_call 73; refine (of_any W0 Rb a n cap f _ (p + 1) (by (repeat (first | assumption | refine rd_drew ?_ | refine rd_alloc ?_ _))) (by omega) (by omega) (some ⟨X.heap.size, 0, none⟩) 3 spoilTurns (strsAt_row spoilTurns (by first | exact Row.drew (Row.new' (by first | rfl | simp)) | exact Row.new' (by first | rfl | simp))) (fun q hq => by obtain ⟨_, o, e⟩ := hq; cases e; omega) (by decide) (by decide)).mono ?_; rintro e Y ⟨⟨i, hi, rfl⟩, hr6, on6⟩; have onY : Only (fun q => q = Rb) X Y := Only.trans (by (repeat (first | assumption | exact Only.refl _ _ | refine on_drew ?_ | refine on_alloc ?_ _))) on6)
    refine hK.out _ _ (fun _ => hS _ onY) ?_
    clear hK K
    try simp only [Act.put, sA, sB, sC]
    have sj := gs_short spoilTurns_short hi
    generalize gs spoilTurns i = sn at sj ⊢
    have sp2 := sp.pick hr6 onY
    have hSY : Sb < Y.heap.size := sp2.row.lt
    have hOwn : ∀ W, Below Y.heap.size Y W → OwnL W 9 1 d5 y.shuts.length (strF y.shuts) ∧ CapOf W 9 1 d5 y.shuts.length k5 := fun W hb => ⟨sp2.own.l5.own.later hb, sp2.own.l5.cap.later hb⟩
    refine wpAnyE_oneC (i := 5) rfl (by kernel_rfl) ?_
    intro K hK
    rw [if_pos (by rfl)]
    go_wp2_with fail
    refine hK.out _ _ (fun _ => hS _ (on_alloc onY _)) ?_
    clear hK K
    try simp only [Act.put, sA, sB, sC]
    refine wpAnyE_oneC (i := 6) rfl (by kernel_rfl) ?_
    intro K hK
    refine step_append_row (by rfl) _ _ (by rfl) sliceStr d5 y.shuts.length k5 _ (by rfl) (hOwn _ (by (repeat (first | assumption | exact Below.refl _ _ | refine Below.drew ?_ | refine Below.alloc ?_ (by (try simp); (try omega)) _ | refine Below.setCell ?_ (by (try simp); (try omega)) _)))).1 (hOwn _ (by (repeat (first | assumption | exact Below.refl _ _ | refine Below.drew ?_ | refine Below.alloc ?_ (by (try simp); (try omega)) _ | refine Below.setCell ?_ (by (try simp); (try omega)) _)))).2 (some ⟨Y.heap.size, 0, none⟩) 1 1 (fun _ _ => .string sn) (by rfl) (rowAt_one (t := 9) (Row.new' (by simp))) (fun _ _ => rfl) (by omega) ?_
    intro a6 c6 w6 apd
    have hw5 : ∃ W5 : World, Below Y.heap.size Y W5 ∧ Appended 9 1 W5 w6 d5 y.shuts.length 1 (strF y.shuts) (fun _ _ => .string sn) a6 c6 := ⟨_, (by (repeat (first | assumption | exact Below.refl _ _ | refine Below.drew ?_ | refine Below.alloc ?_ (by (try simp); (try omega)) _ | refine Below.setCell ?_ (by (try simp); (try omega)) _))), apd⟩
    clear apd
    obtain ⟨W5, hb5, apd⟩ := hw5
    have sp5 := sp2.later hb5
    have fn := (sp5.shuts apd sj).done
    have r6 := sp5.row.only apd.only sp5.n5
    have f6 := r6.frozen 5
    have e6 : w6.cell? ⟨Sb, 5, none⟩ = some (.slice d5 y.shuts.length k5) := r6.cell 5 rfl
    have FN : Hid _ := fn
    clear fn r6 apd sp5 hOwn hb5 sp2
    refine hK.out _ _ (fun _ => e6) ?_
    clear hK K
    try simp only [Act.put, sA, sB, sC]
    refine tk 7 ?vac7 rfl (by kernel_rfl) (fun _ _ _ h => h) (by rfl) (e6) ?yac7 ?rac7
    case yac7 => intro w' h; (try dsimp only at h); go_simp; (try with_reducible rfl)
    try simp only [Act.put, sA, sB, sC]
    refine wpAnyE_oneC (i := 8) rfl (by kernel_rfl) ?_
    intro K hK
    rw [if_pos (by rfl)]
    go_wp2_with fail
    refine hK.out _ _ (fun h => absurd rfl h) ?_
    clear hK K
    try simp only [Act.put, sA, sB, sC]
    refine wpAnyE_done (by kernel_rfl) ?_ _
    clear hS hS0 e6 f6
    go_wp2_with fail
    go_meet
    exact ⟨_, d2, d3, d4, a6, k2, k3, k4, c6, _, rfl, FN.out, ⟨by show y.stuffs.length ≤ _; omega, by show y.uses.length ≤ _; omega, by show y.opens.length ≤ _; omega, by simp; omega⟩, by omega, by omega⟩
  · go_wp2_with fail
    refine (pick_any W0 Rb a n cap f X (p + 1) 2 sp.rd (by omega) (by omega)).mono ?_
    rintro e Y0 ⟨⟨u, rfl, hu0, hu1⟩, hr1, on1⟩
    have sp2 := sp.pick hr1 on1
    have ew0 : wrap64 (12 + u) = 12 + u := by unfold wrap64; omega
    obtain ⟨N, hN⟩ : ∃ N, N = 12 + u := ⟨_, rfl⟩
    have hN0 : 12 ≤ N := by omega
    have hN1 : N ≤ 13 := by omega
    clear sp hr1 on1
    go_wp2_with fail
    rw [← hN]
    clear hN ew0 hu0 hu1
    go_loopw [7] (fun i wr => ∃ (k : Nat) (lv : List ByteArray) (a5' : Option Addr) (c5' : Nat) (Y : World), Y = wr ∧ k ≤ 13 ∧ i = .int .i64 k ∧ SpAt W0 Rb a n cap f W1 Sb Y (p + 1 + 1) ⟨y.number, y.kind, y.stuffs, y.uses, y.opens, lv⟩ d2 d3 d4 a5' k2 k3 k4 c5' ∧ lv.length = y.shuts.length + k) (fun i _ => 14 - (intOf i).toNat)
    case atStart => exact ⟨0, y.shuts, d5, k5, _, rfl, by omega, rfl, sp2, by omega⟩
    case round =>
     obtain ⟨k, lv, a5', c5', Y, rfl, hk, rfl, spY, hlv⟩ := hrel
     clear sp2
     have g5 : Y.cell? ⟨Sb, 5, none⟩ = some (.slice a5' lv.length c5') := spY.row.cell 5 rfl
     by_cases hlt : (lv.length : Int) < N
     · have hk13 : k < 13 := by omega
       have HLV : Hid (lv.length = y.shuts.length + k) := hlv
       have hlv2 : lv.length ≤ 13 := by omega
       clear hlv
       go_wp2_with fail
       have ew2 := EW k hk13
       have hS : ∀ W, Below Y.heap.size Y W → W.cell? ⟨Sb, 5, none⟩ = some (.slice a5' lv.length c5') := fun W hb => cell_later hb g5
       have hS0 := hS Y (Below.refl _ _)
       have hOwn : ∀ W, Below Y.heap.size Y W → OwnL W 9 1 a5' lv.length (strF lv) ∧ CapOf W 9 1 a5' lv.length c5' := fun W hb => ⟨spY.own.l5.own.later hb, spY.own.l5.cap.later hb⟩
       refine wp_region_E (fun W => W.cell? ⟨Sb, 5, none⟩ = some (.slice a5' lv.length c5')) 9 (by kernel_rfl) ?_
       refine tk 0 ?vah0 rfl (by kernel_rfl) (fun _ _ _ h => h) (by rfl) (hS0) ?yah0 ?rah0
       case yah0 => intro w' h; (try dsimp only at h); go_simp; (try with_reducible rfl)
       try simp only [Act.put, sA, sB, sC]
       refine tk 1 ?vah1 rfl (by kernel_rfl) (fun _ _ _ h => h) (by rfl) (hS0) ?yah1 ?rah1
       case yah1 => intro w' h; (try dsimp only at h); go_simp; (try with_reducible rfl)
       try simp only [Act.put, sA, sB, sC]
       refine tk 2 ?vah2 rfl (by kernel_rfl) (fun _ _ _ h => h) (by rfl) (hS0) ?yah2 ?rah2
       case yah2 => intro w' h; (try dsimp only at h); go_simp; (try with_reducible rfl)
       try simp only [Act.put, sA, sB, sC]
       refine tk 3 ?vah3 rfl (by kernel_rfl) (fun _ _ _ h => h) (by rfl) (hS0) ?yah3 ?rah3
       case yah3 => intro w' h; (try dsimp only at h); go_simp; (try with_reducible rfl)
       try simp only [Act.put, sA, sB, sC]
       refine wpAnyE_oneC (i := 4) rfl (by kernel_rfl) ?_
       intro K hK
       rw [if_pos (by rfl)]
       go_wp2_with (go_at_call 151; refine (l5Dec_small _ (10 + k) (by omega) (by omega)).mono ?_; rintro e X9 ⟨⟨s9, rfl, hs9⟩, hb9⟩; have bX9 : Below Y.heap.size Y X9 := below_step (by (repeat (first | assumption | exact Below.refl _ _ | refine Below.drew ?_ | refine Below.alloc ?_ (by (try simp); (try omega)) _ | refine Below.setCell ?_ (by (try simp); (try omega)) _))) hb9; have hz9 := bX9.size; have hlim : ¬ 9223372036854775807 < 1 + s9.size := by omega)
       refine hK.out _ _ (fun _ => hS _ bX9) ?_
       clear hK K
       try simp only [Act.put, sA, sB, sC]
       refine tk 5 ?vah5 rfl (by kernel_rfl) (fun _ _ _ h => h) (by rfl) (hS _ bX9) ?yah5 ?rah5
       case yah5 => intro w' h; (try dsimp only at h); go_simp; (try with_reducible rfl)
       try simp only [Act.put, sA, sB, sC]
       refine wpAnyE_oneC (i := 6) rfl (by kernel_rfl) ?_
       intro K hK
       rw [if_pos (by rfl)]
       go_wp2_with fail
       refine hK.out _ _ (fun _ => hS _ (by (repeat (first | assumption | exact Below.refl _ _ | refine Below.drew ?_ | refine Below.alloc ?_ (by (try simp); (try omega)) _ | refine Below.setCell ?_ (by (try simp); (try omega)) _)))) ?_
       clear hK K
       try simp only [Act.put, sA, sB, sC]
       refine wpAnyE_oneC (i := 7) rfl (by kernel_rfl) ?_
       intro K hK
       refine step_append_row (by rfl) _ _ (by rfl) sliceStr a5' lv.length c5' _ (by rfl) (hOwn _ (by (repeat (first | assumption | exact Below.refl _ _ | refine Below.drew ?_ | refine Below.alloc ?_ (by (try simp); (try omega)) _ | refine Below.setCell ?_ (by (try simp); (try omega)) _)))).1 (hOwn _ (by (repeat (first | assumption | exact Below.refl _ _ | refine Below.drew ?_ | refine Below.alloc ?_ (by (try simp); (try omega)) _ | refine Below.setCell ?_ (by (try simp); (try omega)) _)))).2 (some ⟨X9.heap.size, 0, none⟩) 1 1 (fun _ _ => .string ({ data := #[122] } ++ s9)) (by rfl) (rowAt_one (t := 9) (Row.new' (by simp))) (fun _ _ => rfl) (by omega) ?_
       intro a6 c6 w6 apd
       have hw5 : ∃ W5 : World, Below Y.heap.size Y W5 ∧ Appended 9 1 W5 w6 a5' lv.length 1 (strF lv) (fun _ _ => .string ({ data := #[122] } ++ s9)) a6 c6 := ⟨_, (by (repeat (first | assumption | exact Below.refl _ _ | refine Below.drew ?_ | refine Below.alloc ?_ (by (try simp); (try omega)) _ | refine Below.setCell ?_ (by (try simp); (try omega)) _))), apd⟩
       clear apd
       obtain ⟨W5, hb5, apd⟩ := hw5
       have sp5 := spY.later hb5
       have hsz9 : (({ data := #[122] } : ByteArray) ++ s9).size ≤ 100 := by rw [ByteArray.size_append]; have : ({ data := #[122] } : ByteArray).size = 1 := rfl; omega
       have sn := sp5.shuts apd hsz9
       have r6 := sp5.row.only apd.only sp5.n5
       have f6 := r6.frozen 5
       have e6 : w6.cell? ⟨Sb, 5, none⟩ = some (.slice a5' lv.length c5') := r6.cell 5 rfl
       have SN : Hid _ := sn
       clear sn r6 apd sp5 hOwn hb5 spY
       refine hK.out _ _ (fun _ => e6) ?_
       clear hK K
       try simp only [Act.put, sA, sB, sC]
       refine tk 8 ?vah8 rfl (by kernel_rfl) (fun _ _ _ h => h) (by rfl) (e6) ?yah8 ?rah8
       case yah8 => intro w' h; (try dsimp only at h); go_simp; (try with_reducible rfl)
       try simp only [Act.put, sA, sB, sC]
       refine wpAnyE_oneC (i := 9) rfl (by kernel_rfl) ?_
       intro K hK
       rw [if_pos (by rfl)]
       go_wp2_with fail
       refine hK.out _ _ (fun h => absurd rfl h) ?_
       clear hK K
       try simp only [Act.put, sA, sB, sC]
       refine wpAnyE_done (by kernel_rfl) ?_ _
       clear hS hS0 e6 f6 g5
       go_wp2
       go_roundw
       case rel => exact ⟨k + 1, lv ++ [{ data := #[122] } ++ s9], _, _, _, rfl, by omega, by go_num, SN.out, by simp; have := HLV.out; omega⟩
       case measure => simp [intOf]; omega
     · have FN : Hid _ := spY.done
       clear spY
       go_wp2_with fail
       go_meet
       exact ⟨_, d2, d3, d4, a5', k2, k3, k4, c5', _, rfl, FN.out, ⟨by show y.stuffs.length ≤ _; omega, by show y.uses.length ≤ _; omega, by show y.opens.length ≤ _; omega, by show lv.length ≤ _; omega⟩, by omega, by omega⟩

end Go.Proofs.YtfmhkicncgccjaaGreat

