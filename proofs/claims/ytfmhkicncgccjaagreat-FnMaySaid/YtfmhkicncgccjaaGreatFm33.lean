/- Joined: DrP. -/
import Derived.Deep.CutBlock
import Derived.Test.YtfmhkicncgccjaaGreatFm06
import Derived.Test.YtfmhkicncgccjaaGreatFm26
import Derived.Test.YtfmhkicncgccjaaGreatFm27
import Derived.Test.YtfmhkicncgccjaaGreatFm30
import Derived.Test.YtfmhkicncgccjaaGreatFm32
/- What l5Does answers. -/
namespace Go.Proofs.YtfmhkicncgccjaaGreat
open Go.RowKit Go.Sort
set_option linter.unusedSimpArgs false
set_option linter.unusedVariables false

/-- Something that happens, as a value. -/
def doV (y : Want) (a2 a3 a4 a5 : Option Addr) (c2 c3 c4 c5 : Nat) (st ov mv : Int) (dn : Bool) : Value :=
 .agg #[.int .i64 y.number, .int .i64 y.kind, .slice a2 y.stuffs.length c2, .slice a3 y.uses.length c3, .slice a4 y.opens.length c4, .slice a5 y.shuts.length c5, .int .i64 st, .int .i64 ov, .int .i64 mv, .bool dn]
/-- Something that happens is answered; the reader has gone on by d places at most. -/
def DoOf (W0 : World) (Rb : Nat) (a : Option Addr) (n cap : Nat) (f : Nat → Nat) (B : Nat) (p d : Int) (e : Ending) (w' : World) : Prop :=
 ∃ (y : Want) (a2 a3 a4 a5 : Option Addr) (c2 c3 c4 c5 : Nat) (st ov mv : Int) (dn : Bool) (p' : Int), e = .returned (doV y a2 a3 a4 a5 c2 c3 c4 c5 st ov mv dn) ∧ DrW B w' y a2 a3 a4 a5 ∧ ShortW y ∧ RoomW 30000 y ∧ p ≤ p' ∧ p' ≤ p + d ∧ Rd W0 Rb a n cap f w' p'
def set10 (X : World) (b : Nat) (v0 v1 v2 v3 v4 v5 v6 v7 v8 v9 : Value) : World := (((((((((X.setCell ⟨b, 0, none⟩ v0).setCell ⟨b, 1, none⟩ v1).setCell ⟨b, 2, none⟩ v2).setCell ⟨b, 3, none⟩ v3).setCell ⟨b, 4, none⟩ v4).setCell ⟨b, 5, none⟩ v5).setCell ⟨b, 6, none⟩ v6).setCell ⟨b, 7, none⟩ v7).setCell ⟨b, 8, none⟩ v8).setCell ⟨b, 9, none⟩ v9
theorem set10_only (X : World) (b : Nat) (v0 v1 v2 v3 v4 v5 v6 v7 v8 v9 : Value) : Only (fun q => q = b) X (set10 X b v0 v1 v2 v3 v4 v5 v6 v7 v8 v9) :=
 ((((((((((Only.refl (fun q => q = b) X).set (b := b) rfl 0 v0).set rfl 1 v1).set rfl 2 v2).set rfl 3 v3).set rfl 4 v4).set rfl 5 v5).set rfl 6 v6).set rfl 7 v7).set rfl 8 v8).set rfl 9 v9
/-- What is answered where the variable Zb, made behind w, is written last. -/
theorem doOf_end {W0 : World} {Rb : Nat} {a : Option Addr} {n cap : Nat} {f : Nat → Nat} {w X : World} {Zb : Nat} {p p' d : Int} {y : Want} {a2 a3 a4 a5 : Option Addr} {c2 c3 c4 c5 : Nat} {st ov mv : Int} {dn : Bool} (v0 v1 v2 v3 v4 v5 v6 v7 v8 v9 : Value) (hr : Rd W0 Rb a n cap f X p') (on : Only (fun q => q = Rb) w X) (hz : w.heap.size ≤ Zb) (old : Rb < w.heap.size) (dr : DrW (Zb + 1) X y a2 a3 a4 a5) (short : ShortW y) (room : RoomW 30000 y) (hp : p ≤ p') (hp' : p' ≤ p + d) :
 DoOf W0 Rb a n cap f w.heap.size p d (.returned (doV y a2 a3 a4 a5 c2 c3 c4 c5 st ov mv dn)) (set10 X Zb v0 v1 v2 v3 v4 v5 v6 v7 v8 v9) ∧ Only (fun q => q = Rb) w (set10 X Zb v0 v1 v2 v3 v4 v5 v6 v7 v8 v9) := by
 have oc := set10_only X Zb v0 v1 v2 v3 v4 v5 v6 v7 v8 v9
 exact ⟨⟨y, a2, a3, a4, a5, c2, c3, c4, c5, st, ov, mv, dn, p', rfl, (dr.low oc (fun q hq => by have : q = Zb := hq; omega)).mono (by omega), short, room, hp, hp', hr.only oc (fun q hq => by have : q = Zb := hq; omega)⟩, on.next oc (fun q hq hq' => by have : q = Zb := hq; omega)⟩

set_option maxRecDepth 100000 in
set_option maxHeartbeats 8000000 in
theorem l5Does_any (W0 : World) (Rb : Nat) (a : Option Addr) (n cap : Nat) (f : Nat → Nat) (w : World) (p : Int) (h : Rd W0 Rb a n cap f w p) (h0 : 0 ≤ p) (h1 : p ≤ 700000000) (x : Book) (af ap av aq : Option Addr) (cf cp cv cq : Nat) (hin : DrB (Rb + 1) w x af ap av aq) (hT : Tiny x) :
 Calls Tryz.prog 118 #[.pointer (some ⟨Rb, 0, none⟩), bookV x af ap av aq cf cp cv cq] w fun e w' => DoOf W0 Rb a n cap f w.heap.size p 14000 e w' ∧ Only (fun q => q = Rb) w w' := by
 have hRb := h.row.lt
 have hPL : x.parts.length ≤ 1000 ∧ x.valves.length ≤ 1000 := ⟨by have := hT.parts.1; omega, by have := hT.valves.1; omega⟩
 have hUL : ∀ q ∈ x.parts, q.want.uses.length ≤ 1000 := fun q hq => by have := (hT.parts.2 q hq).uses.1; omega
 obtain ⟨W1, hW1⟩ : ∃ W, W = (w.alloc (.cells #[.slice af x.foes.length cf, .slice ap x.spots.length cp, .slice av x.valves.length cv, .slice aq x.parts.length cq, .int .i64 x.seen] 28)).alloc (.cells #[.int .i64 0, .int .i64 0, .slice none 0 0, .slice none 0 0, .slice none 0 0, .slice none 0 0, .int .i64 0, .int .i64 0, .int .i64 0, .bool false] 138) := ⟨_, rfl⟩
 have b1 : Below w.heap.size w W1 := by rw [hW1]; exact ((Below.refl _ _).alloc (Nat.le_refl _) _).alloc (by simp) _
 have rB : Row W1 w.heap.size 28 [.slice af x.foes.length cf, .slice ap x.spots.length cp, .slice av x.valves.length cv, .slice aq x.parts.length cq, .int .i64 x.seen] := by rw [hW1]; exact (Row.new _ _ _).alloc _
 have rZ : Row W1 (w.heap.size + 1) 138 [.int .i64 0, .int .i64 0, .slice none 0 0, .slice none 0 0, .slice none 0 0, .slice none 0 0, .int .i64 0, .int .i64 0, .int .i64 0, .bool false] := by rw [hW1]; exact Row.new' (by simp)
 have sz1 : W1.heap.size = w.heap.size + 2 := by rw [hW1]; simp
 have d1 := hin.later b1
 have r1 := h.later b1
 have OF := fun W q (hr : Rd W0 Rb a n cap f W q) (h0 : 0 ≤ q) (h1 : q ≤ 900000000) (hd : DrB (Rb + 1) W x af ap av aq) => l5Of_any W0 Rb a n cap f W q hr h0 h1 x af ap av aq cf cp cv cq hd hPL
 have MOVED := fun W q s (hr : Rd W0 Rb a n cap f W q) (h0 : 0 ≤ q) (h1 : q ≤ 900000000) (hd : DrB (Rb + 1) W x af ap av aq) => l5Moved_any W0 Rb a n cap f W q hr h0 h1 x af ap av aq cf cp cv cq hd hPL hUL s
 have DRAW := fun W q s (hr : Rd W0 Rb a n cap f W q) (h0 : 0 ≤ q) (h1 : q ≤ 800000000) (hd : DrB (Rb + 1) W x af ap av aq) => l5Draw_any W0 Rb a n cap f W q hr h0 h1 x af ap av aq cf cp cv cq hd hT s
 unfold bookV at OF MOVED DRAW ⊢
 have LOW : ∀ W, Only (fun q => q = Rb) W1 W → DrB (Rb + 1) W x af ap av aq := fun W ho => d1.low ho (fun q hq => by have : q = Rb := hq; omega)
 have BOOK : ∀ W, Only (fun q => q = Rb) W1 W → Row W w.heap.size 28 [.slice af x.foes.length cf, .slice ap x.spots.length cp, .slice av x.valves.length cv, .slice aq x.parts.length cq, .int .i64 x.seen] := fun W ho => rB.only ho (by omega)
 have ZERO : ∀ W, Only (fun q => q = Rb) W1 W → Row W (w.heap.size + 1) 138 [.int .i64 0, .int .i64 0, .slice none 0 0, .slice none 0 0, .slice none 0 0, .slice none 0 0, .int .i64 0, .int .i64 0, .int .i64 0, .bool false] := fun W ho => rZ.only ho (by omega)
 have ONW : ∀ W, Only (fun q => q = Rb) W1 W → Only (fun q => q = Rb) w W := fun W ho => (Only.of b1).trans ho
 go_enter Tryz.func118, Tryz.ntmps118
 go_wp2_with fail
 rw [← hW1]
 clear hW1 rB rZ d1 hin h
 refine (pick_any W0 Rb a n cap f W1 p 8 r1 h0 (by omega)).mono ?_
 rintro e X ⟨⟨v, rfl, hv0, hv1⟩, hrX, onX⟩
 clear r1
 have hvA : v = 0 ∨ v = 1 ∨ v = 2 ∨ v = 3 ∨ 4 ≤ v := by omega
 rcases hvA with rfl | rfl | rfl | rfl | hv4
 · have bk := BOOK X onX
   have y0 := bk.cell 0 rfl
   have y1 := bk.cell 1 rfl
   have y2 := bk.cell 2 rfl
   have y3 := bk.cell 3 rfl
   have y4 := bk.cell 4 rfl
   go_wp2_with fail
   refine (OF X (p + 1) hrX (by omega) (by omega) (LOW X onX)).mono ?_
   rintro e Y ⟨⟨i, p2, rfl, hp1, hp2, hrY⟩, onY⟩
   have on2 := onX.trans onY
   clear y0 y1 y2 y3 y4 bk
   have zz := ZERO Y on2
   have z0 := zz.cell 0 rfl
   have z1 := zz.cell 1 rfl
   have z2 := zz.cell 2 rfl
   have z3 := zz.cell 3 rfl
   have z4 := zz.cell 4 rfl
   have z5 := zz.cell 5 rfl
   have z6 := zz.cell 6 rfl
   have z7 := zz.cell 7 rfl
   have z8 := zz.cell 8 rfl
   have z9 := zz.cell 9 rfl
   have zf0 := zz.frozen 0
   have zf1 := zz.frozen 1
   have zf2 := zz.frozen 2
   have zf3 := zz.frozen 3
   have zf4 := zz.frozen 4
   have zf5 := zz.frozen 5
   have zf6 := zz.frozen 6
   have zf7 := zz.frozen 7
   have zf8 := zz.frozen 8
   have zf9 := zz.frozen 9
   clear zz OF MOVED DRAW LOW BOOK ZERO
   go_wp2
   refine bodyPost_ret (v := .agg #[.int .i64 0, .int .i64 0, .slice none 0 0, .slice none 0 0, .slice none 0 0, .slice none 0 0, .int .i64 i, .int .i64 0, .int .i64 0, .bool false])
    (by simp [results, Tryz.results118, go_sem, z0, z1, z2, z3, z4, z5, z6, z7, z8, z9]) rfl ?_
   exact doOf_end (y := ⟨0, 0, [], [], [], []⟩) (a2 := none) (a3 := none) (a4 := none) (a5 := none) (c2 := 0) (c3 := 0) (c4 := 0) (c5 := 0) _ _ _ _ _ _ _ _ _ _ hrY (ONW _ on2) (by omega) hRb (drW_nil _ _ _ _) (shortW_nil _ _) ⟨by simp, by simp, by simp, by simp⟩ (by omega) (by omega)
 · have bk := BOOK X onX
   have y0 := bk.cell 0 rfl
   have y1 := bk.cell 1 rfl
   have y2 := bk.cell 2 rfl
   have y3 := bk.cell 3 rfl
   have y4 := bk.cell 4 rfl
   go_wp2_with fail
   refine (OF X (p + 1) hrX (by omega) (by omega) (LOW X onX)).mono ?_
   rintro e Y ⟨⟨i, p2, rfl, hp1, hp2, hrY⟩, onY⟩
   have on2 := onX.trans onY
   clear y0 y1 y2 y3 y4 bk
   have zz := ZERO Y on2
   have z0 := zz.cell 0 rfl
   have z1 := zz.cell 1 rfl
   have z2 := zz.cell 2 rfl
   have z3 := zz.cell 3 rfl
   have z4 := zz.cell 4 rfl
   have z5 := zz.cell 5 rfl
   have z6 := zz.cell 6 rfl
   have z7 := zz.cell 7 rfl
   have z8 := zz.cell 8 rfl
   have z9 := zz.cell 9 rfl
   have zf0 := zz.frozen 0
   have zf1 := zz.frozen 1
   have zf2 := zz.frozen 2
   have zf3 := zz.frozen 3
   have zf4 := zz.frozen 4
   have zf5 := zz.frozen 5
   have zf6 := zz.frozen 6
   have zf7 := zz.frozen 7
   have zf8 := zz.frozen 8
   have zf9 := zz.frozen 9
   clear zz OF MOVED DRAW LOW BOOK ZERO
   go_wp2
   refine bodyPost_ret (v := .agg #[.int .i64 0, .int .i64 0, .slice none 0 0, .slice none 0 0, .slice none 0 0, .slice none 0 0, .int .i64 i, .int .i64 0, .int .i64 0, .bool false])
    (by simp [results, Tryz.results118, go_sem, z0, z1, z2, z3, z4, z5, z6, z7, z8, z9]) rfl ?_
   exact doOf_end (y := ⟨0, 0, [], [], [], []⟩) (a2 := none) (a3 := none) (a4 := none) (a5 := none) (c2 := 0) (c3 := 0) (c4 := 0) (c5 := 0) _ _ _ _ _ _ _ _ _ _ hrY (ONW _ on2) (by omega) hRb (drW_nil _ _ _ _) (shortW_nil _ _) ⟨by simp, by simp, by simp, by simp⟩ (by omega) (by omega)
 · have bk := BOOK X onX
   have y0 := bk.cell 0 rfl
   have y1 := bk.cell 1 rfl
   have y2 := bk.cell 2 rfl
   have y3 := bk.cell 3 rfl
   have y4 := bk.cell 4 rfl
   go_wp2_with fail
   refine (OF X (p + 1) hrX (by omega) (by omega) (LOW X onX)).mono ?_
   rintro e Y ⟨⟨i, p2, rfl, hp1, hp2, hrY⟩, onY⟩
   have on2 := onX.trans onY
   clear y0 y1 y2 y3 y4 bk
   have bk := BOOK Y on2
   have y0 := bk.cell 0 rfl
   have y1 := bk.cell 1 rfl
   have y2 := bk.cell 2 rfl
   have y3 := bk.cell 3 rfl
   have y4 := bk.cell 4 rfl
   go_wp2_with fail
   refine (MOVED Y p2 i hrY (by omega) (by omega) (LOW Y on2)).mono ?_
   rintro e Z ⟨⟨j, p3, rfl, hp3, hp4, hrZ⟩, onZ⟩
   have on3 := on2.trans onZ
   clear y0 y1 y2 y3 y4 bk
   go_wp2_with fail
   refine (pick_any W0 Rb a n cap f Z p3 3 hrZ (by omega) (by omega)).mono ?_
   rintro e V ⟨⟨u, rfl, hu0, hu1⟩, hrV, onV⟩
   have on4 := on3.trans onV
   have zz := ZERO V on4
   have z0 := zz.cell 0 rfl
   have z1 := zz.cell 1 rfl
   have z2 := zz.cell 2 rfl
   have z3 := zz.cell 3 rfl
   have z4 := zz.cell 4 rfl
   have z5 := zz.cell 5 rfl
   have z6 := zz.cell 6 rfl
   have z7 := zz.cell 7 rfl
   have z8 := zz.cell 8 rfl
   have z9 := zz.cell 9 rfl
   have zf0 := zz.frozen 0
   have zf1 := zz.frozen 1
   have zf2 := zz.frozen 2
   have zf3 := zz.frozen 3
   have zf4 := zz.frozen 4
   have zf5 := zz.frozen 5
   have zf6 := zz.frozen 6
   have zf7 := zz.frozen 7
   have zf8 := zz.frozen 8
   have zf9 := zz.frozen 9
   clear zz OF MOVED DRAW LOW BOOK ZERO
   go_wp2
   refine bodyPost_ret (v := .agg #[.int .i64 0, .int .i64 0, .slice none 0 0, .slice none 0 0, .slice none 0 0, .slice none 0 0, .int .i64 0, .int .i64 i, .int .i64 j, .bool (decide (0 < u))])
    (by simp [results, Tryz.results118, go_sem, z0, z1, z2, z3, z4, z5, z6, z7, z8, z9]) rfl ?_
   exact doOf_end (y := ⟨0, 0, [], [], [], []⟩) (a2 := none) (a3 := none) (a4 := none) (a5 := none) (c2 := 0) (c3 := 0) (c4 := 0) (c5 := 0) _ _ _ _ _ _ _ _ _ _ hrV (ONW _ on4) (by omega) hRb (drW_nil _ _ _ _) (shortW_nil _ _) ⟨by simp, by simp, by simp, by simp⟩ (by omega) (by omega)
 · have bk := BOOK X onX
   have y0 := bk.cell 0 rfl
   have y1 := bk.cell 1 rfl
   have y2 := bk.cell 2 rfl
   have y3 := bk.cell 3 rfl
   have y4 := bk.cell 4 rfl
   go_wp2_with fail
   refine (OF X (p + 1) hrX (by omega) (by omega) (LOW X onX)).mono ?_
   rintro e Y ⟨⟨i, p2, rfl, hp1, hp2, hrY⟩, onY⟩
   have on2 := onX.trans onY
   clear y0 y1 y2 y3 y4 bk
   have bk := BOOK Y on2
   have y0 := bk.cell 0 rfl
   have y1 := bk.cell 1 rfl
   have y2 := bk.cell 2 rfl
   have y3 := bk.cell 3 rfl
   have y4 := bk.cell 4 rfl
   go_wp2_with fail
   refine (MOVED Y p2 i hrY (by omega) (by omega) (LOW Y on2)).mono ?_
   rintro e Z ⟨⟨j, p3, rfl, hp3, hp4, hrZ⟩, onZ⟩
   have on3 := on2.trans onZ
   clear y0 y1 y2 y3 y4 bk
   go_wp2_with fail
   refine (pick_any W0 Rb a n cap f Z p3 3 hrZ (by omega) (by omega)).mono ?_
   rintro e V ⟨⟨u, rfl, hu0, hu1⟩, hrV, onV⟩
   have on4 := on3.trans onV
   have zz := ZERO V on4
   have z0 := zz.cell 0 rfl
   have z1 := zz.cell 1 rfl
   have z2 := zz.cell 2 rfl
   have z3 := zz.cell 3 rfl
   have z4 := zz.cell 4 rfl
   have z5 := zz.cell 5 rfl
   have z6 := zz.cell 6 rfl
   have z7 := zz.cell 7 rfl
   have z8 := zz.cell 8 rfl
   have z9 := zz.cell 9 rfl
   have zf0 := zz.frozen 0
   have zf1 := zz.frozen 1
   have zf2 := zz.frozen 2
   have zf3 := zz.frozen 3
   have zf4 := zz.frozen 4
   have zf5 := zz.frozen 5
   have zf6 := zz.frozen 6
   have zf7 := zz.frozen 7
   have zf8 := zz.frozen 8
   have zf9 := zz.frozen 9
   clear zz OF MOVED DRAW LOW BOOK ZERO
   go_wp2
   refine bodyPost_ret (v := .agg #[.int .i64 0, .int .i64 0, .slice none 0 0, .slice none 0 0, .slice none 0 0, .slice none 0 0, .int .i64 0, .int .i64 i, .int .i64 j, .bool (decide (0 < u))])
    (by simp [results, Tryz.results118, go_sem, z0, z1, z2, z3, z4, z5, z6, z7, z8, z9]) rfl ?_
   exact doOf_end (y := ⟨0, 0, [], [], [], []⟩) (a2 := none) (a3 := none) (a4 := none) (a5 := none) (c2 := 0) (c3 := 0) (c4 := 0) (c5 := 0) _ _ _ _ _ _ _ _ _ _ hrV (ONW _ on4) (by omega) hRb (drW_nil _ _ _ _) (shortW_nil _ _) ⟨by simp, by simp, by simp, by simp⟩ (by omega) (by omega)
 · have e0 : (v == 0) = false := by simp; omega
   have e1 : (v == 1) = false := by simp; omega
   have e2 : (v == 2) = false := by simp; omega
   have e3 : (v == 3) = false := by simp; omega
   go_upto_region 9 with fail
   go_cut [6] (fun q wx => ∃ (Sb : Nat) (y : Want) (a2 a3 a4 a5 : Option Addr) (c2 c3 c4 c5 : Nat) (p' : Int), q = .pointer (some ⟨Sb, 0, none⟩) ∧ WvAt W0 Rb a n cap f W1 Sb wx p' y a2 a3 a4 a5 c2 c3 c4 c5 ∧ RoomW 20500 y ∧ p ≤ p' ∧ p' ≤ p + 13010)
   case first =>
    have hS : ∀ W, Only (fun q => q = Rb) W1 W → (W.cell? ⟨w.heap.size, 0, none⟩ = some (.slice af x.foes.length cf) ∧ W.cell? ⟨w.heap.size, 1, none⟩ = some (.slice ap x.spots.length cp) ∧ W.cell? ⟨w.heap.size, 2, none⟩ = some (.slice av x.valves.length cv) ∧ W.cell? ⟨w.heap.size, 3, none⟩ = some (.slice aq x.parts.length cq) ∧ W.cell? ⟨w.heap.size, 4, none⟩ = some (.int .i64 x.seen)) := fun W ho => ⟨(BOOK W ho).cell 0 rfl, (BOOK W ho).cell 1 rfl, (BOOK W ho).cell 2 rfl, (BOOK W ho).cell 3 rfl, (BOOK W ho).cell 4 rfl⟩
    have hS0 := hS X onX
    refine wp_region_E (fun W => W.cell? ⟨w.heap.size, 0, none⟩ = some (.slice af x.foes.length cf) ∧ W.cell? ⟨w.heap.size, 1, none⟩ = some (.slice ap x.spots.length cp) ∧ W.cell? ⟨w.heap.size, 2, none⟩ = some (.slice av x.valves.length cv) ∧ W.cell? ⟨w.heap.size, 3, none⟩ = some (.slice aq x.parts.length cq) ∧ W.cell? ⟨w.heap.size, 4, none⟩ = some (.int .i64 x.seen)) 10 (by kernel_rfl) ?_
    refine tk 0 ?vaa0 rfl (by kernel_rfl) (fun _ _ _ h => h) (by rfl) (hS0) ?yaa0 ?raa0
    case yaa0 => intro w' h; (try dsimp only at h); go_simp; (try with_reducible rfl)
    try simp only [Act.put, sA, sB, sC]
    refine tk 1 ?vaa1 rfl (by kernel_rfl) (fun _ _ _ h => h) (by rfl) (hS0) ?yaa1 ?raa1
    case yaa1 => intro w' h; (try dsimp only at h); go_simp; (try with_reducible rfl)
    try simp only [Act.put, sA, sB, sC]
    refine tk 2 ?vaa2 rfl (by kernel_rfl) (fun _ _ _ h => h) (by rfl) (hS0) ?yaa2 ?raa2
    case yaa2 => intro w' h; (try dsimp only at h); go_simp; (try with_reducible rfl)
    try simp only [Act.put, sA, sB, sC]
    refine tk 3 ?vaa3 rfl (by kernel_rfl) (fun _ _ _ h => h) (by rfl) (hS0) ?yaa3 ?raa3
    case yaa3 => intro w' h; (try dsimp only at h); go_simp; (try with_reducible rfl)
    try simp only [Act.put, sA, sB, sC]
    refine tk 4 ?vaa4 rfl (by kernel_rfl) (fun _ _ _ h => h) (by rfl) (hS0) ?yaa4 ?raa4
    case yaa4 => intro w' h; (try dsimp only at h); go_simp; (try with_reducible rfl)
    try simp only [Act.put, sA, sB, sC]
    refine tk 5 ?vaa5 rfl (by kernel_rfl) (fun _ _ _ h => h) (by rfl) (hS0) ?yaa5 ?raa5
    case yaa5 => intro w' h; (try dsimp only at h); go_simp; (try with_reducible rfl)
    try simp only [Act.put, sA, sB, sC]
    refine wpAnyE_twoC 6 9 (by kernel_rfl) rfl rfl ?wa1 ?wa2
    case wa1 =>
     intro K hK
     rw [if_pos (by rfl)]
     go_wp2_with (go_at_call 71; refine (pick_any W0 Rb a n cap f _ (p + 1) 2 (by (repeat (first | assumption | refine rd_drew ?_ | refine rd_alloc ?_ _))) (by omega) (by omega)).mono ?_; rintro e Y ⟨⟨u, rfl, hu0, hu1⟩, hrY, onY⟩; have onY1 : Only (fun q => q = Rb) W1 Y := Only.trans (by (repeat (first | assumption | exact Only.refl _ _ | refine on_drew ?_ | refine on_alloc ?_ _))) onY; have hzY1 := onY1.size; have hzYY := onY.size; (try simp at hzYY))
     refine hK.out _ _ (fun _ => hS _ onY1) ?_
     clear hK K
     try simp only [Act.put, sA, sB, sC]
     refine tk 7 ?vaa17 rfl (by kernel_rfl) (fun _ _ _ h => h) (by rfl) (hS _ onY1) ?yaa17 ?raa17
     case yaa17 => intro w' h; (try dsimp only at h); go_simp; (try with_reducible rfl)
     try simp only [Act.put, sA, sB, sC]
     refine wpAnyE_twoC 8 9 (by kernel_rfl) rfl rfl ?wa11 ?wa12
     case wa11 =>
      intro K hK
      rw [if_pos (by rfl)]
      go_wp2_with (go_at_call 150; refine (DRAW _ (p + 1 + 1) _ (by (repeat (first | assumption | refine rd_drew ?_ | refine rd_alloc ?_ _))) (by omega) (by omega) (LOW _ (by (repeat (first | assumption | exact Only.refl _ _ | refine on_drew ?_ | refine on_alloc ?_ _))))).mono ?_; rintro e Z ⟨⟨y, g2, g3, g4, g5, k2, k3, k4, k5, p3, rfl, drZ, shZ, rmZ, hp3, hp4, hrZ⟩, onZ⟩; have onZ1 : Only (fun q => q = Rb) W1 Z := Only.trans (by (repeat (first | assumption | exact Only.refl _ _ | refine on_drew ?_ | refine on_alloc ?_ _))) onZ; have hzZ1 := onZ1.size; have hzZ := onZ.size; (try simp at hzZ); unfold wantW)
      refine hK.out _ _ (fun _ => hS _ onZ1) ?_
      clear hK K
      try simp only [Act.put, sA, sB, sC]
      refine wpAnyE_oneC (i := 9) rfl (by kernel_rfl) ?_
      intro K hK
      rw [if_pos (by rfl)]
      go_wp2_with fail
      refine hK.out _ _ (fun _ => hS _ ((by (repeat (first | assumption | exact Only.refl _ _ | refine on_drew ?_ | refine on_alloc ?_ _))))) ?_
      clear hK K
      try simp only [Act.put, sA, sB, sC]
      have wv := WvAt.make (w := W1) (y := ⟨0, 0, [], [], [], []⟩) (a2 := none) (a3 := none) (a4 := none) (a5 := none) (c2 := 0) (c3 := 0) (c4 := 0) (c5 := 0) hrZ onZ1 (by omega) (drW_nil _ _ _ _) (shortW_nil _ _)
      refine wpAnyE_oneC (i := 10) rfl (by kernel_rfl) ?_
      intro K hK
      have wz := wv
      have FIN := WvAt.make (w := W1) (c2 := k2) (c3 := k3) (c4 := k4) (c5 := k5) hrZ onZ1 (by omega) (drZ.mono (by (try simp); omega)) shZ
      have s0 := wz.row.cell 0 rfl
      have s1 := wz.row.cell 1 rfl
      have s2 := wz.row.cell 2 rfl
      have s3 := wz.row.cell 3 rfl
      have s4 := wz.row.cell 4 rfl
      have s5 := wz.row.cell 5 rfl
      have sf0 := wz.row.frozen 0
      have sf1 := wz.row.frozen 1
      have sf2 := wz.row.frozen 2
      have sf3 := wz.row.frozen 3
      have sf4 := wz.row.frozen 4
      have sf5 := wz.row.frozen 5
      have FN : Hid _ := FIN
      clear FIN wv wz
      rw [if_pos (by rfl)]
      go_wp2_with fail
      refine hK.out _ _ (fun h => absurd rfl h) ?_
      clear hK K
      try simp only [Act.put, sA, sB, sC]
      refine wpAnyE_done (by kernel_rfl) ?_ _
      go_wp2_with fail
      go_meet
      exact ⟨_, y, g2, g3, g4, g5, k2, k3, k4, k5, p3, rfl, FN.out, rmZ, by omega, by omega⟩
     case wa12 =>
      intro K hK
      rw [if_pos (by rfl)]
      go_wp2_with fail
      refine hK.out _ _ (fun _ => hS _ ((by (repeat (first | assumption | exact Only.refl _ _ | refine on_drew ?_ | refine on_alloc ?_ _))))) ?_
      clear hK K
      try simp only [Act.put, sA, sB, sC]
      have wv := WvAt.make (w := W1) (y := ⟨0, 0, [], [], [], []⟩) (a2 := none) (a3 := none) (a4 := none) (a5 := none) (c2 := 0) (c3 := 0) (c4 := 0) (c5 := 0) hrY onY1 (by omega) (drW_nil _ _ _ _) (shortW_nil _ _)
      refine wpAnyE_oneC (i := 8) rfl (by kernel_rfl) ?_
      intro K hK
      rw [if_pos (by rfl)]
      go_wp2_with (go_at_call 150; refine (DRAW _ (p + 1 + 1) _ (by (repeat (first | assumption | refine rd_drew ?_ | refine rd_alloc ?_ _))) (by omega) (by omega) (LOW _ (by (repeat (first | assumption | exact Only.refl _ _ | refine on_drew ?_ | refine on_alloc ?_ _))))).mono ?_; rintro e Z ⟨⟨y, g2, g3, g4, g5, k2, k3, k4, k5, p3, rfl, drZ, shZ, rmZ, hp3, hp4, hrZ⟩, onZ⟩; have onZ1 : Only (fun q => q = Rb) W1 Z := Only.trans (by (repeat (first | assumption | exact Only.refl _ _ | refine on_drew ?_ | refine on_alloc ?_ _))) onZ; have hzZ1 := onZ1.size; have hzZ := onZ.size; (try simp at hzZ); unfold wantW)
      refine hK.out _ _ (fun _ => hS _ onZ1) ?_
      clear hK K
      try simp only [Act.put, sA, sB, sC]
      refine wpAnyE_oneC (i := 10) rfl (by kernel_rfl) ?_
      intro K hK
      have wz := wv.pick hrZ (Only.trans (Only.refl _ _) onZ)
      have FIN := wz.over (c2' := k2) (c3' := k3) (c4' := k4) (c5' := k5) hrZ (Only.refl _ _) (drZ.mono (by (try simp); omega)) (fun q hq e => by have := drZ.ge hq; (try simp at this); have := wz.row.lt; omega) shZ
      have s0 := wz.row.cell 0 rfl
      have s1 := wz.row.cell 1 rfl
      have s2 := wz.row.cell 2 rfl
      have s3 := wz.row.cell 3 rfl
      have s4 := wz.row.cell 4 rfl
      have s5 := wz.row.cell 5 rfl
      have sf0 := wz.row.frozen 0
      have sf1 := wz.row.frozen 1
      have sf2 := wz.row.frozen 2
      have sf3 := wz.row.frozen 3
      have sf4 := wz.row.frozen 4
      have sf5 := wz.row.frozen 5
      have FN : Hid _ := FIN
      clear FIN wv wz
      rw [if_pos (by rfl)]
      go_wp2_with fail
      refine hK.out _ _ (fun h => absurd rfl h) ?_
      clear hK K
      try simp only [Act.put, sA, sB, sC]
      refine wpAnyE_done (by kernel_rfl) ?_ _
      go_wp2_with fail
      go_meet
      exact ⟨_, y, g2, g3, g4, g5, k2, k3, k4, k5, p3, rfl, FN.out, rmZ, by omega, by omega⟩
    case wa2 =>
     intro K hK
     rw [if_pos (by rfl)]
     go_wp2_with fail
     refine hK.out _ _ (fun _ => hS _ ((by (repeat (first | assumption | exact Only.refl _ _ | refine on_drew ?_ | refine on_alloc ?_ _))))) ?_
     clear hK K
     try simp only [Act.put, sA, sB, sC]
     have wv := WvAt.make (w := W1) (y := ⟨0, 0, [], [], [], []⟩) (a2 := none) (a3 := none) (a4 := none) (a5 := none) (c2 := 0) (c3 := 0) (c4 := 0) (c5 := 0) hrX onX (by omega) (drW_nil _ _ _ _) (shortW_nil _ _)
     refine wpAnyE_oneC (i := 6) rfl (by kernel_rfl) ?_
     intro K hK
     rw [if_pos (by rfl)]
     go_wp2_with (go_at_call 71; refine (pick_any W0 Rb a n cap f _ (p + 1) 2 (by (repeat (first | assumption | refine rd_drew ?_ | refine rd_alloc ?_ _))) (by omega) (by omega)).mono ?_; rintro e Y ⟨⟨u, rfl, hu0, hu1⟩, hrY, onY⟩; have onY1 : Only (fun q => q = Rb) W1 Y := Only.trans (by (repeat (first | assumption | exact Only.refl _ _ | refine on_drew ?_ | refine on_alloc ?_ _))) onY; have hzY1 := onY1.size; have hzYY := onY.size; (try simp at hzYY))
     refine hK.out _ _ (fun _ => hS _ onY1) ?_
     clear hK K
     try simp only [Act.put, sA, sB, sC]
     refine tk 7 ?vaa27 rfl (by kernel_rfl) (fun _ _ _ h => h) (by rfl) (hS _ onY1) ?yaa27 ?raa27
     case yaa27 => intro w' h; (try dsimp only at h); go_simp; (try with_reducible rfl)
     try simp only [Act.put, sA, sB, sC]
     refine wpAnyE_oneC (i := 8) rfl (by kernel_rfl) ?_
     intro K hK
     rw [if_pos (by rfl)]
     go_wp2_with (go_at_call 150; refine (DRAW _ (p + 1 + 1) _ (by (repeat (first | assumption | refine rd_drew ?_ | refine rd_alloc ?_ _))) (by omega) (by omega) (LOW _ (by (repeat (first | assumption | exact Only.refl _ _ | refine on_drew ?_ | refine on_alloc ?_ _))))).mono ?_; rintro e Z ⟨⟨y, g2, g3, g4, g5, k2, k3, k4, k5, p3, rfl, drZ, shZ, rmZ, hp3, hp4, hrZ⟩, onZ⟩; have onZ1 : Only (fun q => q = Rb) W1 Z := Only.trans (by (repeat (first | assumption | exact Only.refl _ _ | refine on_drew ?_ | refine on_alloc ?_ _))) onZ; have hzZ1 := onZ1.size; have hzZ := onZ.size; (try simp at hzZ); unfold wantW)
     refine hK.out _ _ (fun _ => hS _ onZ1) ?_
     clear hK K
     try simp only [Act.put, sA, sB, sC]
     refine wpAnyE_oneC (i := 10) rfl (by kernel_rfl) ?_
     intro K hK
     have wz := wv.pick hrZ (Only.trans (Only.trans (on_drew (Only.refl _ _)) onY) onZ)
     have FIN := wz.over (c2' := k2) (c3' := k3) (c4' := k4) (c5' := k5) hrZ (Only.refl _ _) (drZ.mono (by (try simp); omega)) (fun q hq e => by have := drZ.ge hq; (try simp at this); have := wz.row.lt; omega) shZ
     have s0 := wz.row.cell 0 rfl
     have s1 := wz.row.cell 1 rfl
     have s2 := wz.row.cell 2 rfl
     have s3 := wz.row.cell 3 rfl
     have s4 := wz.row.cell 4 rfl
     have s5 := wz.row.cell 5 rfl
     have sf0 := wz.row.frozen 0
     have sf1 := wz.row.frozen 1
     have sf2 := wz.row.frozen 2
     have sf3 := wz.row.frozen 3
     have sf4 := wz.row.frozen 4
     have sf5 := wz.row.frozen 5
     have FN : Hid _ := FIN
     clear FIN wv wz
     rw [if_pos (by rfl)]
     go_wp2_with fail
     refine hK.out _ _ (fun h => absurd rfl h) ?_
     clear hK K
     try simp only [Act.put, sA, sB, sC]
     refine wpAnyE_done (by kernel_rfl) ?_ _
     go_wp2_with fail
     go_meet
     exact ⟨_, y, g2, g3, g4, g5, k2, k3, k4, k5, p3, rfl, FN.out, rmZ, by omega, by omega⟩
   case rest =>
    obtain ⟨Sb, y, a2, a3, a4, a5, c2, c3, c4, c5, p1, rfl, wv, rm, hp1, hp2⟩ := hcut
    clear hrX onX
    go_wp2_with fail
    refine (pick_any W0 Rb a n cap f wc p1 12 wv.rd (by omega) (by omega)).mono ?_
    rintro e Y ⟨⟨u, rfl, hu0, hu1⟩, hrY, onY⟩
    have wvY := wv.pick hrY onY
    clear wv hrY onY
    go_upto_block 1 with fail
    go_cut [6] (fun q wx => ∃ (Sb : Nat) (y : Want) (a2 a3 a4 a5 : Option Addr) (c2 c3 c4 c5 : Nat) (p' : Int), q = .pointer (some ⟨Sb, 0, none⟩) ∧ WvAt W0 Rb a n cap f W1 Sb wx p' y a2 a3 a4 a5 c2 c3 c4 c5 ∧ RoomW 30000 y ∧ p ≤ p' ∧ p' ≤ p + 14000)
    case rest =>
     obtain ⟨Sb2, y', g2, g3, g4, g5, k2, k3, k4, k5, p3, rfl, wz, rm3, hp3, hp4⟩ := hcut
     clear wvY
     have zz := ZERO wc wz.on
     have z0 := zz.cell 0 rfl
     have z1 := zz.cell 1 rfl
     have z2 := zz.cell 2 rfl
     have z3 := zz.cell 3 rfl
     have z4 := zz.cell 4 rfl
     have z5 := zz.cell 5 rfl
     have z6 := zz.cell 6 rfl
     have z7 := zz.cell 7 rfl
     have z8 := zz.cell 8 rfl
     have z9 := zz.cell 9 rfl
     have zf0 := zz.frozen 0
     have zf1 := zz.frozen 1
     have zf2 := zz.frozen 2
     have zf3 := zz.frozen 3
     have zf4 := zz.frozen 4
     have zf5 := zz.frozen 5
     have zf6 := zz.frozen 6
     have zf7 := zz.frozen 7
     have zf8 := zz.frozen 8
     have zf9 := zz.frozen 9
     have s0 := wz.row.cell 0 rfl
     have s1 := wz.row.cell 1 rfl
     have s2 := wz.row.cell 2 rfl
     have s3 := wz.row.cell 3 rfl
     have s4 := wz.row.cell 4 rfl
     have s5 := wz.row.cell 5 rfl
     have FN : Hid _ := wz
     clear wz zz OF MOVED DRAW LOW BOOK ZERO
     go_wp2
     refine bodyPost_ret (v := .agg #[.int .i64 y'.number, .int .i64 y'.kind, .slice g2 y'.stuffs.length k2, .slice g3 y'.uses.length k3, .slice g4 y'.opens.length k4, .slice g5 y'.shuts.length k5, .int .i64 0, .int .i64 0, .int .i64 0, .bool false])
      (by simp [results, Tryz.results118, go_sem, z0, z1, z2, z3, z4, z5, z6, z7, z8, z9]) rfl ?_
     exact doOf_end (y := y') (a2 := g2) (a3 := g3) (a4 := g4) (a5 := g5) (c2 := k2) (c3 := k3) (c4 := k4) (c5 := k5) _ _ _ _ _ _ _ _ _ _ FN.out.rd (ONW _ FN.out.on) (by omega) hRb (FN.out.dr.mono (by omega)) FN.out.short rm3 (by omega) (by omega)
    case first =>
     have hu : u = 0 ∨ u = 1 ∨ u = 2 ∨ 3 ≤ u := by omega
     rcases hu with rfl | rfl | rfl | hu3
     · have y4 : Y.cell? ⟨w.heap.size, 4, none⟩ = some (.int .i64 x.seen) := (BOOK Y wvY.on).cell 4 rfl
       go_wp2_with fail
       refine (pick_any W0 Rb a n cap f Y (p1 + 1) _ wvY.rd (by omega) (by omega)).mono ?_
       rintro e Z ⟨⟨u2, rfl, -, -⟩, hrZ, onZ⟩
       have wvZ := wvY.pick hrZ onZ
       have s0 : Z.cell? ⟨Sb, 0, none⟩ = some (.int .i64 y.number) := wvZ.row.cell 0 rfl
       have sf0 := wvZ.row.frozen 0
       have FIN : ∀ v, Hid (WvAt W0 Rb a n cap f W1 Sb (Z.setCell ⟨Sb, 0, none⟩ (.int .i64 v)) (p1 + 1 + 1) ⟨v, y.kind, y.stuffs, y.uses, y.opens, y.shuts⟩ a2 a3 a4 a5 c2 c3 c4 c5) := fun v => wvZ.number v
       clear wvY wvZ hrZ onZ y4
       go_wp2_with fail
       go_meet
       exact ⟨_, _, a2, a3, a4, a5, c2, c3, c4, c5, _, rfl, (FIN _).out, ⟨by have := rm.stuffs; show y.stuffs.length ≤ _; omega, by have := rm.uses; show y.uses.length ≤ _; omega, by have := rm.opens; show y.opens.length ≤ _; omega, by have := rm.shuts; show y.shuts.length ≤ _; omega⟩, by omega, by omega⟩
     · have SPOIL := l5SpoilWant_any W0 Rb a n cap f Y (p1 + 1) wvY.rd (by omega) (by omega) y a2 a3 a4 a5 c2 c3 c4 c5 wvY.dr.in_ wvY.short rm
       unfold wantW at SPOIL
       have s0 := wvY.row.cell 0 rfl
       have s1 := wvY.row.cell 1 rfl
       have s2 := wvY.row.cell 2 rfl
       have s3 := wvY.row.cell 3 rfl
       have s4 := wvY.row.cell 4 rfl
       have s5 := wvY.row.cell 5 rfl
       go_wp2_with fail
       refine SPOIL.mono ?_
       rintro e Z ⟨⟨y', g2, g3, g4, g5, k2, k3, k4, k5, p3, rfl, drZ, shZ, rmZ, hp3, hp4, hrZ⟩, onZ⟩
       unfold wantW
       clear SPOIL s0 s1 s2 s3 s4 s5
       have wz := wvY.pick hrZ onZ
       have hzY := wvY.on.size
       have hzS := wvY.row.lt
       have FIN := wz.over (c2' := k2) (c3' := k3) (c4' := k4) (c5' := k5) hrZ (Only.refl _ _) (drZ.mono hzY) (fun q hq e => by have := drZ.ge hq; omega) shZ
       have s0 := wz.row.cell 0 rfl
       have s1 := wz.row.cell 1 rfl
       have s2 := wz.row.cell 2 rfl
       have s3 := wz.row.cell 3 rfl
       have s4 := wz.row.cell 4 rfl
       have s5 := wz.row.cell 5 rfl
       have sf0 := wz.row.frozen 0
       have sf1 := wz.row.frozen 1
       have sf2 := wz.row.frozen 2
       have sf3 := wz.row.frozen 3
       have sf4 := wz.row.frozen 4
       have sf5 := wz.row.frozen 5
       have FN : Hid _ := FIN
       clear FIN wz wvY
       go_wp2_with fail
       go_meet
       exact ⟨_, y', g2, g3, g4, g5, k2, k3, k4, k5, p3, rfl, FN.out, rmZ, by omega, by omega⟩
     · have y3 : Y.cell? ⟨w.heap.size, 3, none⟩ = some (.slice aq x.parts.length cq) := (BOOK Y wvY.on).cell 3 rfl
       by_cases hp : 0 < x.parts.length
       · have hp2 : (0 : Int) < x.parts.length := by omega
         have hS : ∀ W, Only (fun q => q = Rb) Y W → W.cell? ⟨w.heap.size, 3, none⟩ = some (.slice aq x.parts.length cq) := fun W ho => (BOOK W (wvY.on.trans ho)).cell 3 rfl
         have hS0 := hS Y (Only.refl _ _)
         have rY := wvY.rd
         go_wp2_with fail
         refine wp_region_E (fun W => W.cell? ⟨w.heap.size, 3, none⟩ = some (.slice aq x.parts.length cq)) 11 (by kernel_rfl) ?_
         refine tk 0 ?vab0 rfl (by kernel_rfl) (fun _ _ _ h => h) (by rfl) (hS0) ?yab0 ?rab0
         case yab0 => intro w' h; (try dsimp only at h); go_simp; (try with_reducible rfl)
         try simp only [Act.put, sA, sB, sC]
         refine tk 1 ?vab1 rfl (by kernel_rfl) (fun _ _ _ h => h) (by rfl) (hS0) ?yab1 ?rab1
         case yab1 => intro w' h; (try dsimp only at h); go_simp; (try with_reducible rfl)
         try simp only [Act.put, sA, sB, sC]
         refine tk 2 ?vab2 rfl (by kernel_rfl) (fun _ _ _ h => h) (by rfl) (hS0) ?yab2 ?rab2
         case yab2 => intro w' h; (try dsimp only at h); go_simp; (try with_reducible rfl)
         try simp only [Act.put, sA, sB, sC]
         refine tk 3 ?vab3 rfl (by kernel_rfl) (fun _ _ _ h => h) (by rfl) (hS0) ?yab3 ?rab3
         case yab3 => intro w' h; (try dsimp only at h); go_simp; (try with_reducible rfl)
         try simp only [Act.put, sA, sB, sC]
         refine tk 4 ?vab4 rfl (by kernel_rfl) (fun _ _ _ h => h) (by rfl) (hS0) ?yab4 ?rab4
         case yab4 => intro w' h; (try dsimp only at h); go_simp; (try with_reducible rfl)
         try simp only [Act.put, sA, sB, sC]
         refine tk 5 ?vab5 rfl (by kernel_rfl) (fun _ _ _ h => h) (by rfl) (hS0) ?yab5 ?rab5
         case yab5 => intro w' h; (try dsimp only at h); go_simp; (try with_reducible rfl)
         try simp only [Act.put, sA, sB, sC]
         refine wpAnyE_oneC (i := 6) rfl (by kernel_rfl) ?_
         intro K hK
         rw [if_pos (by rfl)]
         go_wp2_with (go_at_call 71; refine (pick_any W0 Rb a n cap f _ (p1 + 1) _ (by (repeat (first | assumption | refine rd_drew ?_ | refine rd_alloc ?_ _))) (by omega) (by omega)).mono ?_; rintro e V ⟨⟨v6, rfl, hv60, hv61⟩, hrV, onV⟩; have onV1 : Only (fun q => q = Rb) Y V := Only.trans (by (repeat (first | assumption | exact Only.refl _ _ | refine on_drew ?_ | refine on_alloc ?_ _))) onV)
         refine hK.out _ _ (fun _ => hS _ onV1) ?_
         clear hK K
         try simp only [Act.put, sA, sB, sC]
         obtain ⟨i, rfl⟩ : ∃ i : Nat, v6 = i := ⟨v6.toNat, by omega⟩
         have hi : i < x.parts.length := by omega
         have hi2 : (i : Int) < x.parts.length := by omega
         clear hv60 hv61
         have wvV := wvY.pick hrV onV1
         obtain ⟨A, C, hpr, hpw⟩ := (LOW V wvV.on).parts
         obtain ⟨bq, oq, hq, hbq, hcq⟩ := hpr i hi
         have hty := hT.parts.2 _ (gq_mem hi)
         have COPY := l1Want_cap (gq x.parts i).want (A i 2) (A i 3) (A i 4) (A i 5) (C i 2) (C i 3) (C i 4) (C i 5) V (hpw i hi).in_ hty.room
         unfold wantW at COPY
         have SHT := hty.short
         have RMT := hty.roomW
         clear hpr hpw hty
         subst hq
         have hcq0 := hcq 0 (by omega)
         have hcq1 := hcq 1 (by omega)
         have hcq2 := hcq 2 (by omega)
         have hcq3 := hcq 3 (by omega)
         have hcq4 := hcq 4 (by omega)
         have hcq5 := hcq 5 (by omega)
         simp only [partCell, Nat.add_zero] at hcq0 hcq1 hcq2 hcq3 hcq4 hcq5
         clear hcq
         generalize (gq x.parts i).want = yp at COPY SHT RMT hcq0 hcq1 hcq2 hcq3 hcq4 hcq5
         refine wpAnyE_oneC (i := 7) rfl (by kernel_rfl) ?_
         intro K hK
         rw [if_pos (by rfl)]
         go_wp2_with fail
         refine hK.out _ _ (fun _ => hS _ onV1) ?_
         clear hK K
         try simp only [Act.put, sA, sB, sC]
         refine wpAnyE_oneC (i := 8) rfl (by kernel_rfl) ?_
         intro K hK
         rw [if_pos (by rfl)]
         go_wp2_with fail
         refine hK.out _ _ (fun _ => hS _ onV1) ?_
         clear hK K
         try simp only [Act.put, sA, sB, sC]
         refine wpAnyE_oneC (i := 9) rfl (by kernel_rfl) ?_
         intro K hK
         rw [if_pos (by rfl)]
         go_wp2_with fail
         refine hK.out _ _ (fun _ => hS _ onV1) ?_
         clear hK K
         try simp only [Act.put, sA, sB, sC]
         refine wpAnyE_oneC (i := 10) rfl (by kernel_rfl) ?_
         intro K hK
         rw [if_pos (by rfl)]
         go_wp2_with (go_at_call 79; refine COPY.mono ?_; rintro e Z ⟨⟨g2, g3, g4, g5, k2, k3, k4, k5, rfl, own⟩, hbZ⟩)
         refine hK.out _ _ (fun _ => hS _ (onV1.trans (Only.of hbZ))) ?_
         clear hK K
         try simp only [Act.put, sA, sB, sC]
         have wz := wvV.later hbZ
         have hzV := wvV.on.size
         have hzS := wvV.row.lt
         have FIN := wz.over (c2' := k2) (c3' := k3) (c4' := k4) (c5' := k5) wz.rd (Only.refl _ _) (own.dr.mono hzV) (fun q hq e => by have := own.dr.ge hq; omega) SHT
         have s0 := wz.row.cell 0 rfl
         have s1 := wz.row.cell 1 rfl
         have s2 := wz.row.cell 2 rfl
         have s3 := wz.row.cell 3 rfl
         have s4 := wz.row.cell 4 rfl
         have s5 := wz.row.cell 5 rfl
         have sf0 := wz.row.frozen 0
         have sf1 := wz.row.frozen 1
         have sf2 := wz.row.frozen 2
         have sf3 := wz.row.frozen 3
         have sf4 := wz.row.frozen 4
         have sf5 := wz.row.frozen 5
         have FN : Hid _ := FIN
         clear FIN wz wvV wvY COPY own hcq0 hcq1 hcq2 hcq3 hcq4 hcq5
         refine wpAnyE_oneC (i := 11) rfl (by kernel_rfl) ?_
         intro K hK
         rw [if_pos (by rfl)]
         go_wp2_with fail
         refine hK.out _ _ (fun h => absurd rfl h) ?_
         clear hK K
         try simp only [Act.put, sA, sB, sC]
         refine wpAnyE_done (by kernel_rfl) ?_ _
         go_wp2_with fail
         go_meet
         exact ⟨_, yp, g2, g3, g4, g5, k2, k3, k4, k5, _, rfl, FN.out, RMT.mono (by omega), by omega, by omega⟩
       · have hp2 : ¬ (0 : Int) < x.parts.length := by omega
         have FN : Hid _ := wvY
         clear wvY
         go_wp2_with fail
         go_meet
         exact ⟨_, y, a2, a3, a4, a5, c2, c3, c4, c5, _, rfl, FN.out, rm.mono (by omega), by omega, by omega⟩
     · have e0 : (u == 0) = false := by simp; omega
       have e1 : (u == 1) = false := by simp; omega
       have e2 : (u == 2) = false := by simp; omega
       have FN : Hid _ := wvY
       clear wvY
       go_wp2_with fail
       go_meet
       exact ⟨_, y, a2, a3, a4, a5, c2, c3, c4, c5, _, rfl, FN.out, rm.mono (by omega), by omega, by omega⟩

end Go.Proofs.YtfmhkicncgccjaaGreat

