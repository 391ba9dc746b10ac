/- Joined: StB, DrQ, DrR, DrS0, DrS1, DrS2. -/
import Derived.Test.YtfmhkicncgccjaaGreatFm20
import Derived.Test.YtfmhkicncgccjaaGreatFm23
import Derived.Test.YtfmhkicncgccjaaGreatFm24
import Derived.Test.YtfmhkicncgccjaaGreatFm33
import Derived.Test.YtfmhkicncgccjaaGreatFm25
import Derived.Test.YtfmhkicncgccjaaGreatFm43
import Derived.Test.YtfmhkicncgccjaaGreatFm06
/- What the specification's ClaimStop answers. -/
namespace Go.Proofs.YtfmhkicncgccjaaGreat
open Go.RowKit Go.Sort
set_option linter.unusedSimpArgs false
set_option linter.unusedVariables false

set_option maxRecDepth 100000 in
set_option maxHeartbeats 4000000 in
theorem specStop_own (x : Book) (af ap av aq : Option Addr) (cf cp cv cq : Nat) (n : Int) (w : World) (hin : BookIn w x af ap av aq) (fx : BookFit x) (R : BookRoom x) :
 Calls Tryz.prog 16 #[bookV x af ap av aq cf cp cv cq, .int .i64 n] w fun e w' => Gives w.heap.size (stopB x n) (stopC x n) e w' ∧ Below w.heap.size w w' := by
 unfold bookV
 obtain ⟨W0, hW0⟩ : ∃ W, W = (w.alloc (.cells #[.slice af x.foes.length cf, .slice ap x.spots.length cp, .slice av x.valves.length cv, .slice aq x.parts.length cq, .int .i64 x.seen] 28)).alloc (.cells #[.slice none 0 0, .slice none 0 0, .slice none 0 0, .slice none 0 0, .int .i64 0] 28) := ⟨_, rfl⟩
 have b0 : Below w.heap.size w W0 := by rw [hW0]; exact ((Below.refl _ _).alloc (Nat.le_refl _) _).alloc (by simp) _
 have i0 : Row W0 w.heap.size 28 [.slice af x.foes.length cf, .slice ap x.spots.length cp, .slice av x.valves.length cv, .slice aq x.parts.length cq, .int .i64 x.seen] := by rw [hW0]; exact (Row.new _ _ _).alloc _
 have z0 : Row W0 (w.heap.size + 1) 28 [.slice none 0 0, .slice none 0 0, .slice none 0 0, .slice none 0 0, .int .i64 0] := by
  rw [hW0]
  have := Row.new (w.alloc (.cells #[.slice af x.foes.length cf, .slice ap x.spots.length cp, .slice av x.valves.length cv, .slice aq x.parts.length cq, .int .i64 x.seen] 28)) 28 [.slice none 0 0, .slice none 0 0, .slice none 0 0, .slice none 0 0, .int .i64 0]
  simpa using this
 have sz0 : W0.heap.size = w.heap.size + 2 := by rw [hW0]; simp
 go_enter Tryz.func16, Tryz.ntmps16
 go_wp2_with fail
 rw [← hW0]
 clear hW0
 refine (specBookOk_any x af ap av aq cf cp cv cq W0 (hin.later b0) fx).mono ?_
 rintro e w1 ⟨rfl, hb⟩
 have b1 := b0.trans (hb.mono b0.size)
 have i1 := i0.later hb
 have z1 := z0.later hb
 have sz1 : w.heap.size + 2 ≤ w1.heap.size := by have := hb.size; omega
 clear b0 i0 z0 hb sz0
 have g0 := i1.cell 0 rfl
 have g1 := i1.cell 1 rfl
 have g2 := i1.cell 2 rfl
 have g3 := i1.cell 3 rfl
 have g4 := i1.cell 4 rfl
 cases hB : bookB x with
 | false =>
  have eB : stopB x n = bookNil := by simp [stopB, hB]
  have eC : stopC x n = 1 := by simp [stopC, hB]
  have r0 := z1.cell 0 rfl
  have r1 := z1.cell 1 rfl
  have r2 := z1.cell 2 rfl
  have r3 := z1.cell 3 rfl
  have r4 := z1.cell 4 rfl
  have l0 := z1.frozen 0
  have l1 := z1.frozen 1
  have l2 := z1.frozen 2
  have l3 := z1.frozen 3
  have l4 := z1.frozen 4
  go_wp2
  refine bodyPost_ret (v := .tuple #[.agg #[.slice none 0 0, .slice none 0 0, .slice none 0 0, .slice none 0 0, .int .i64 0], .int .i64 1])
   (by simp [results, Tryz.results16, go_sem, r0, r1, r2, r3, r4]) rfl ⟨?_, ?_⟩
  · rw [eB, eC]
    exact ⟨none, none, none, none, 0, 0, 0, 0, _, _, _, _, rfl, ownBook_nil _, fun q hq => absurd hq inBk_nil⟩
  · exact ((((b1.setCell (by simp) _).setCell (by simp) _).setCell (by simp) _).setCell (by simp) _).setCell (by simp) _
 | true =>
  go_wp2_with fail
  refine (l2Copy_own x af ap av aq cf cp cv cq w1 (hin.later b1) R).mono ?_
  rintro e w2 ⟨⟨f0, f1, f2, f3, k0, k1, k2, k3, A1, C1, A2, C2, rfl, own, -, -, lo⟩, hb⟩
  have b2 := b1.trans (hb.mono b1.size)
  have i2 := i1.later hb
  have z2 := z1.later hb
  have sz2 : w.heap.size + 2 ≤ w2.heap.size := by have := hb.size; omega
  clear b1 i1 z1 g0 g1 g2 g3 g4
  unfold bookV
  obtain ⟨W3, hW3⟩ : ∃ W, W = w2.alloc (.cells #[.slice f0 x.foes.length k0, .slice f1 x.spots.length k1, .slice f2 x.valves.length k2, .slice f3 x.parts.length k3, .int .i64 x.seen] 28) := ⟨_, rfl⟩
  have hb3 : Below w2.heap.size w2 W3 := by rw [hW3]; exact (Below.refl _ _).alloc (Nat.le_refl _) _
  have c3 : Row W3 w2.heap.size 28 [.slice f0 x.foes.length k0, .slice f1 x.spots.length k1, .slice f2 x.valves.length k2, .slice f3 x.parts.length k3, .int .i64 x.seen] := by rw [hW3]; exact Row.new _ _ _
  have b3 := b2.trans (hb3.mono b2.size)
  have i3 := i2.later hb3
  have z3 := z2.later hb3
  have own3 := own.later hb3
  have LO : Hid (∀ q, InBk x f0 f1 f2 f3 A1 A2 q → w.heap.size + 2 ≤ q ∧ q < w2.heap.size) := fun q hq => ⟨by have := lo q hq; omega, own.lt hq⟩
  clear b2 i2 z2 hb hb3 own lo
  have g0 := i3.cell 0 rfl
  have g1 := i3.cell 1 rfl
  have g2 := i3.cell 2 rfl
  have g3 := i3.cell 3 rfl
  have g4 := i3.cell 4 rfl
  rw [hW3] at g0 g1 g2 g3 g4
  go_wp2_with fail
  rw [← hW3]
  clear hW3 g0 g1 g2 g3 g4
  refine (l2Part_any x af ap av aq cf cp cv cq n W3 (hin.later b3).parts fx.parts.1).mono ?_
  rintro e w4 ⟨rfl, hb⟩
  have b4 := b3.trans (hb.mono b3.size)
  have z4 := z3.later hb
  have c4 := c3.later hb
  have own4 := own3.later hb
  clear b3 i3 z3 c3 own3 hb
  have h0 := c4.cell 0 rfl
  have h1 := c4.cell 1 rfl
  have h2 := c4.cell 2 rfl
  have h3 := c4.cell 3 rfl
  have h4 := c4.cell 4 rfl
  have r0 := z4.cell 0 rfl
  have r1 := z4.cell 1 rfl
  have r2 := z4.cell 2 rfl
  have r3 := z4.cell 3 rfl
  have r4 := z4.cell 4 rfl
  have l0 := z4.frozen 0
  have l1 := z4.frozen 1
  have l2 := z4.frozen 2
  have l3 := z4.frozen 3
  have l4 := z4.frozen 4
  have hne : w2.heap.size ≠ w.heap.size + 1 := by omega
  rcases partI_cases x.parts n with ⟨hp, -⟩ | ⟨j, hj, hp, -⟩
  · have HE : Hid (stopB x n = x ∧ stopC x n = 3) := ⟨by simp [stopB, hB, hp], by simp [stopC, hB, hp]⟩
    rw [hp]
    clear hp
    go_wp2
    refine bodyPost_ret (v := .tuple #[.agg #[.slice f0 x.foes.length k0, .slice f1 x.spots.length k1, .slice f2 x.valves.length k2, .slice f3 x.parts.length k3, .int .i64 x.seen], .int .i64 3])
     (by simp [results, Tryz.results16, go_sem, r0, r1, r2, r3, r4]) rfl ⟨?_, ?_⟩
    · rw [HE.out.1, HE.out.2]
      have g : ∀ y, InBk x f0 f1 f2 f3 A1 A2 y → ¬ y = w.heap.size + 1 := fun y hy => by have := LO.out y hy; omega
      exact ⟨f0, f1, f2, f3, k0, k1, k2, k3, A1, C1, A2, C2, rfl, ((((own4.only (Only.cell _ ⟨w.heap.size + 1, 0, none⟩ _) g).only (Only.cell _ ⟨w.heap.size + 1, 1, none⟩ _) g).only (Only.cell _ ⟨w.heap.size + 1, 2, none⟩ _) g).only (Only.cell _ ⟨w.heap.size + 1, 3, none⟩ _) g).only (Only.cell _ ⟨w.heap.size + 1, 4, none⟩ _) g, fun q hq => by have := LO.out q hq; omega⟩
    · exact ((((b4.setCell (by simp) _).setCell (by simp) _).setCell (by simp) _).setCell (by simp) _).setCell (by simp) _
  · have HE : Hid (stopB x n = ⟨x.foes, x.spots, x.valves, stopAt x.parts j, x.seen⟩ ∧ stopC x n = 0) := ⟨by simp [stopB, hB, hp], by simp [stopC, hB, hp]⟩
    rw [hp]
    clear hp
    obtain ⟨b, rfl⟩ := own4.parts.row.some_of (by omega)
    obtain ⟨c6, fz6, hbl⟩ := own4.parts.row.cellAt hj (by omega : 6 < 7)
    have st := own4.stop hj
    have hbb := LO.out b (Or.inr (Or.inr (Or.inr (Or.inl ⟨by omega, 0, rfl⟩))))
    have hj2 : (j : Int) < x.parts.length := by omega
    have hj0 : (0 : Int) ≤ j := by omega
    have hj1 : ¬ (j : Int) < 0 := by omega
    have hnb : w2.heap.size ≠ b := by omega
    have hnb1 : w.heap.size + 1 ≠ b := by omega
    have ST : Hid _ := st
    clear st own4
    go_wp2
    refine bodyPost_ret (v := .tuple #[.agg #[.slice f0 x.foes.length k0, .slice f1 x.spots.length k1, .slice f2 x.valves.length k2, .slice (some ⟨b, 0, none⟩) x.parts.length k3, .int .i64 x.seen], .int .i64 0])
     (by simp [results, Tryz.results16, go_sem, r0, r1, r2, r3, r4]) rfl ⟨?_, ?_⟩
    · rw [HE.out.1, HE.out.2]
      have LO' : ∀ q, InBk ⟨x.foes, x.spots, x.valves, stopAt x.parts j, x.seen⟩ f0 f1 f2 (some ⟨b, 0, none⟩) A1 A2 q → w.heap.size + 2 ≤ q := fun q hq => by
       rcases hq with hq | hq | hq | hq
       · exact (LO.out q (Or.inl hq)).1
       · exact (LO.out q (Or.inr (Or.inl hq))).1
       · exact (LO.out q (Or.inr (Or.inr (Or.inl hq)))).1
       · exact (LO.out q (Or.inr (Or.inr (Or.inr ((inPt_stop hj).1 hq))))).1
      have g : ∀ y, InBk ⟨x.foes, x.spots, x.valves, stopAt x.parts j, x.seen⟩ f0 f1 f2 (some ⟨b, 0, none⟩) A1 A2 y → ¬ y = w.heap.size + 1 := fun y hy => by have := LO' y hy; omega
      exact ⟨f0, f1, f2, _, k0, k1, k2, k3, A1, C1, A2, C2, by unfold bookV; rw [stopAt_length], ((((ST.out.only (Only.cell _ ⟨w.heap.size + 1, 0, none⟩ _) g).only (Only.cell _ ⟨w.heap.size + 1, 1, none⟩ _) g).only (Only.cell _ ⟨w.heap.size + 1, 2, none⟩ _) g).only (Only.cell _ ⟨w.heap.size + 1, 3, none⟩ _) g).only (Only.cell _ ⟨w.heap.size + 1, 4, none⟩ _) g, fun q hq => by have := LO' q hq; omega⟩
    · exact (((((b4.setCell (by simp; omega) _).setCell (by simp) _).setCell (by simp) _).setCell (by simp) _).setCell (by simp) _).setCell (by simp) _

end Go.Proofs.YtfmhkicncgccjaaGreat

/- What l5Step answers. -/
namespace Go.Proofs.YtfmhkicncgccjaaGreat
open Go.RowKit Go.Sort
set_option linter.unusedSimpArgs false
set_option linter.unusedVariables false

/-- A book with few and short names is answered, in memory from B on. -/
def StepOf (B : Nat) (e : Ending) (w' : World) : Prop :=
 ∃ (x : Book) (af ap av aq : Option Addr) (cf cp cv cq : Nat), e = .returned (bookV x af ap av aq cf cp cv cq) ∧ DrB B w' x af ap av aq ∧ Tiny x
def set5 (X : World) (b : Nat) (v0 v1 v2 v3 v4 : Value) : World := ((((X.setCell ⟨b, 0, none⟩ v0).setCell ⟨b, 1, none⟩ v1).setCell ⟨b, 2, none⟩ v2).setCell ⟨b, 3, none⟩ v3).setCell ⟨b, 4, none⟩ v4
theorem set5_only {D : Nat → Prop} {w X : World} (h : Only D w X) (b : Nat) (hb : D b) (v0 v1 v2 v3 v4 : Value) : Only D w (set5 X b v0 v1 v2 v3 v4) :=
 ((((h.set hb 0 v0).set hb 1 v1).set hb 2 v2).set hb 3 v3).set hb 4 v4
theorem stepOf_end {w W1 X : World} {Bb Zb : Nat} {x' : Book} {f0 f1 f2 f3 : Option Addr} {k0 k1 k2 k3 : Nat} {A1 : Nat → Option Addr} {C1 : Nat → Nat} {A2 : Nat → Nat → Option Addr} {C2 : Nat → Nat → Nat} (b1 : Below w.heap.size w W1) (hb : Below W1.heap.size W1 X) (own : OwnBook X x' f0 f1 f2 f3 A1 C1 A2 C2) (lo : ∀ q, InBk x' f0 f1 f2 f3 A1 A2 q → W1.heap.size ≤ q) (hT : Tiny x') (h1 : w.heap.size ≤ Bb) (h2 : Bb < W1.heap.size) (h3 : w.heap.size ≤ Zb) (h4 : Zb < W1.heap.size) (v0 v1 v2 v3 v4 u0 u1 u2 u3 u4 : Value) :
 StepOf w.heap.size (.returned (bookV x' f0 f1 f2 f3 k0 k1 k2 k3)) (set5 (set5 X Bb v0 v1 v2 v3 v4) Zb u0 u1 u2 u3 u4) ∧ Below w.heap.size w (set5 (set5 X Bb v0 v1 v2 v3 v4) Zb u0 u1 u2 u3 u4) := by
 have oc : Only (fun q => q = Bb ∨ q = Zb) X (set5 (set5 X Bb v0 v1 v2 v3 v4) Zb u0 u1 u2 u3 u4) := set5_only (set5_only (Only.refl _ _) Bb (Or.inl rfl) _ _ _ _ _) Zb (Or.inr rfl) _ _ _ _ _
 have b2 : Below w.heap.size w X := b1.trans (hb.mono b1.size)
 refine ⟨⟨x', f0, f1, f2, f3, k0, k1, k2, k3, rfl, ((DrB.of_own own lo).low oc (fun q hq => by rcases hq with h | h <;> omega)).mono b1.size, hT⟩, b2.trans (oc.below (fun q hq => by rcases hq with h | h <;> omega) b2.size)⟩
set_option maxRecDepth 100000 in
set_option maxHeartbeats 8000000 in
theorem l5Step_any (x : Book) (af ap av aq : Option Addr) (cf cp cv cq : Nat) (y : Want) (a2 a3 a4 a5 : Option Addr) (c2 c3 c4 c5 : Nat) (st ov mv : Int) (dn : Bool) (w : World) (hin : BookIn w x af ap av aq) (hT : Tiny x) (hiw : WantIn w y a2 a3 a4 a5) (hs : ShortW y) (hR : RoomW 30000 y) :
 Calls Tryz.prog 117 #[bookV x af ap av aq cf cp cv cq, doV y a2 a3 a4 a5 c2 c3 c4 c5 st ov mv dn] w fun e w' => StepOf w.heap.size e w' ∧ Below w.heap.size w w' := by
 obtain ⟨W1, hW1⟩ : ∃ W, W = ((w.alloc (.cells #[.slice af x.foes.length cf, .slice ap x.spots.length cp, .slice av x.valves.length cv, .slice aq x.parts.length cq, .int .i64 x.seen] 28)).alloc (.cells #[.int .i64 y.number, .int .i64 y.kind, .slice a2 y.stuffs.length c2, .slice a3 y.uses.length c3, .slice a4 y.opens.length c4, .slice a5 y.shuts.length c5, .int .i64 st, .int .i64 ov, .int .i64 mv, .bool dn] 138)).alloc (.cells #[.slice none 0 0, .slice none 0 0, .slice none 0 0, .slice none 0 0, .int .i64 0] 28) := ⟨_, rfl⟩
 have b1 : Below w.heap.size w W1 := by rw [hW1]; exact (((Below.refl _ _).alloc (Nat.le_refl _) _).alloc (by simp) _).alloc (by simp; omega) _
 have rB : Row W1 w.heap.size 28 [.slice af x.foes.length cf, .slice ap x.spots.length cp, .slice av x.valves.length cv, .slice aq x.parts.length cq, .int .i64 x.seen] := by rw [hW1]; exact ((Row.new _ _ _).alloc _).alloc _
 have rZ : Row W1 (w.heap.size + 1 + 1) 28 [.slice none 0 0, .slice none 0 0, .slice none 0 0, .slice none 0 0, .int .i64 0] := by rw [hW1]; exact Row.new' (by simp)
 have sz1 : W1.heap.size = w.heap.size + 3 := by rw [hW1]; simp
 have hne : ¬ w.heap.size + 1 + 1 = w.heap.size := by omega
 have STOP := specStop_own x af ap av aq cf cp cv cq st W1 (hin.later b1) hT.fit hT.room
 have OVER := specOver_own x af ap av aq cf cp cv cq ov mv dn W1 (hin.later b1) hT.fit hT.room
 have GRANT := specGrant_own x af ap av aq cf cp cv cq y a2 a3 a4 a5 c2 c3 c4 c5 W1 (hin.later b1) hT.fit hT.room (hiw.later b1) (hs.fit hR)
 have TS : Hid (Tiny (stopB x st)) := hT.stop st
 have TO : Hid (Tiny (overB x ov mv dn)) := hT.over ov mv dn
 have TG : Hid (Tiny (grantB x y)) := hT.grant hs
 generalize stopB x st = xs at STOP TS
 generalize overB x ov mv dn = xo at OVER TO
 generalize grantB x y = xg at GRANT TG
 generalize stopC x st = cs at STOP
 generalize overC x ov mv = co at OVER
 generalize codeC x y = cg at GRANT
 unfold bookV doV
 unfold bookV at STOP OVER GRANT
 try unfold wantW at GRANT
 by_cases hst : 0 < st
 · go_enter Tryz.func117, Tryz.ntmps117
   go_wp2_with fail
   rw [← hW1]
   clear hW1
   refine STOP.mono ?_
   rintro e X ⟨⟨f0, f1, f2, f3, k0, k1, k2, k3, A1, C1, A2, C2, rfl, own, lo⟩, hb⟩
   unfold bookV
   clear STOP OVER GRANT
   have FIN : ∀ v0 v1 v2 v3 v4 u0 u1 u2 u3 u4, Hid _ := fun v0 v1 v2 v3 v4 u0 u1 u2 u3 u4 => stepOf_end (Bb := w.heap.size) (Zb := w.heap.size + 1 + 1) (k0 := k0) (k1 := k1) (k2 := k2) (k3 := k3) b1 hb own lo TS.out (by omega) (by omega) (by omega) (by omega) v0 v1 v2 v3 v4 u0 u1 u2 u3 u4
   have rBX := rB.later hb
   have rZX := rZ.later hb
   have g0 := rBX.cell 0 rfl
   have gf0 := rBX.frozen 0
   have z0 := rZX.cell 0 rfl
   have zf0 := rZX.frozen 0
   have g1 := rBX.cell 1 rfl
   have gf1 := rBX.frozen 1
   have z1 := rZX.cell 1 rfl
   have zf1 := rZX.frozen 1
   have g2 := rBX.cell 2 rfl
   have gf2 := rBX.frozen 2
   have z2 := rZX.cell 2 rfl
   have zf2 := rZX.frozen 2
   have g3 := rBX.cell 3 rfl
   have gf3 := rBX.frozen 3
   have z3 := rZX.cell 3 rfl
   have zf3 := rZX.frozen 3
   have g4 := rBX.cell 4 rfl
   have gf4 := rBX.frozen 4
   have z4 := rZX.cell 4 rfl
   have zf4 := rZX.frozen 4
   clear own lo hb rBX rZX rB rZ
   go_wp2
   refine bodyPost_ret (v := .agg #[.slice f0 xs.foes.length k0, .slice f1 xs.spots.length k1, .slice f2 xs.valves.length k2, .slice f3 xs.parts.length k3, .int .i64 xs.seen])
    (by simp [results, Tryz.results117, go_sem, z0, z1, z2, z3, z4]) rfl ?_
   exact (FIN _ _ _ _ _ _ _ _ _ _).out
 · by_cases hov : 0 < ov
   · go_enter Tryz.func117, Tryz.ntmps117
     go_wp2_with fail
     rw [← hW1]
     clear hW1
     refine OVER.mono ?_
     rintro e X ⟨⟨f0, f1, f2, f3, k0, k1, k2, k3, A1, C1, A2, C2, rfl, own, lo⟩, hb⟩
     unfold bookV
     clear STOP OVER GRANT
     have FIN : ∀ v0 v1 v2 v3 v4 u0 u1 u2 u3 u4, Hid _ := fun v0 v1 v2 v3 v4 u0 u1 u2 u3 u4 => stepOf_end (Bb := w.heap.size) (Zb := w.heap.size + 1 + 1) (k0 := k0) (k1 := k1) (k2 := k2) (k3 := k3) b1 hb own lo TO.out (by omega) (by omega) (by omega) (by omega) v0 v1 v2 v3 v4 u0 u1 u2 u3 u4
     have rBX := rB.later hb
     have rZX := rZ.later hb
     have g0 := rBX.cell 0 rfl
     have gf0 := rBX.frozen 0
     have z0 := rZX.cell 0 rfl
     have zf0 := rZX.frozen 0
     have g1 := rBX.cell 1 rfl
     have gf1 := rBX.frozen 1
     have z1 := rZX.cell 1 rfl
     have zf1 := rZX.frozen 1
     have g2 := rBX.cell 2 rfl
     have gf2 := rBX.frozen 2
     have z2 := rZX.cell 2 rfl
     have zf2 := rZX.frozen 2
     have g3 := rBX.cell 3 rfl
     have gf3 := rBX.frozen 3
     have z3 := rZX.cell 3 rfl
     have zf3 := rZX.frozen 3
     have g4 := rBX.cell 4 rfl
     have gf4 := rBX.frozen 4
     have z4 := rZX.cell 4 rfl
     have zf4 := rZX.frozen 4
     clear own lo hb rBX rZX rB rZ
     go_wp2
     refine bodyPost_ret (v := .agg #[.slice f0 xo.foes.length k0, .slice f1 xo.spots.length k1, .slice f2 xo.valves.length k2, .slice f3 xo.parts.length k3, .int .i64 xo.seen])
      (by simp [results, Tryz.results117, go_sem, z0, z1, z2, z3, z4]) rfl ?_
     exact (FIN _ _ _ _ _ _ _ _ _ _).out
   · go_enter Tryz.func117, Tryz.ntmps117
     go_wp2_with fail
     rw [← hW1]
     clear hW1
     refine GRANT.mono ?_
     rintro e X ⟨⟨f0, f1, f2, f3, k0, k1, k2, k3, A1, C1, A2, C2, rfl, own, lo⟩, hb⟩
     unfold bookV
     clear STOP OVER GRANT
     have FIN : ∀ v0 v1 v2 v3 v4 u0 u1 u2 u3 u4, Hid _ := fun v0 v1 v2 v3 v4 u0 u1 u2 u3 u4 => stepOf_end (Bb := w.heap.size) (Zb := w.heap.size + 1 + 1) (k0 := k0) (k1 := k1) (k2 := k2) (k3 := k3) b1 hb own lo TG.out (by omega) (by omega) (by omega) (by omega) v0 v1 v2 v3 v4 u0 u1 u2 u3 u4
     have rBX := rB.later hb
     have rZX := rZ.later hb
     have g0 := rBX.cell 0 rfl
     have gf0 := rBX.frozen 0
     have z0 := rZX.cell 0 rfl
     have zf0 := rZX.frozen 0
     have g1 := rBX.cell 1 rfl
     have gf1 := rBX.frozen 1
     have z1 := rZX.cell 1 rfl
     have zf1 := rZX.frozen 1
     have g2 := rBX.cell 2 rfl
     have gf2 := rBX.frozen 2
     have z2 := rZX.cell 2 rfl
     have zf2 := rZX.frozen 2
     have g3 := rBX.cell 3 rfl
     have gf3 := rBX.frozen 3
     have z3 := rZX.cell 3 rfl
     have zf3 := rZX.frozen 3
     have g4 := rBX.cell 4 rfl
     have gf4 := rBX.frozen 4
     have z4 := rZX.cell 4 rfl
     have zf4 := rZX.frozen 4
     clear own lo hb rBX rZX rB rZ
     go_wp2
     refine bodyPost_ret (v := .agg #[.slice f0 xg.foes.length k0, .slice f1 xg.spots.length k1, .slice f2 xg.valves.length k2, .slice f3 xg.parts.length k3, .int .i64 xg.seen])
      (by simp [results, Tryz.results117, go_sem, z0, z1, z2, z3, z4]) rfl ?_
     exact (FIN _ _ _ _ _ _ _ _ _ _).out

end Go.Proofs.YtfmhkicncgccjaaGreat

/- What l5Book answers. -/
namespace Go.Proofs.YtfmhkicncgccjaaGreat
open Go.RowKit Go.Sort
set_option linter.unusedSimpArgs false
set_option linter.unusedVariables false

theorem dr_drew {B : Nat} {w : World} {x : Book} {af ap av aq : Option Addr} (h : DrB B w x af ap av aq) : DrB B w.drew x af ap av aq := h.later (Below.drew (Below.refl _ _))
theorem Row.set5 {X : World} {b : Nat} {t : TypeId} {u0 u1 u2 u3 u4 : Value} (h : Row X b t [u0, u1, u2, u3, u4]) (v0 v1 v2 v3 v4 : Value) : Row (set5 X b v0 v1 v2 v3 v4) b t [v0, v1, v2, v3, v4] := ((((h.set 0 v0).set 1 v1).set 2 v2).set 3 v3).set 4 v4
set_option maxRecDepth 100000 in
set_option maxHeartbeats 8000000 in
theorem l5Book_any (W0 : World) (Rb : Nat) (a : Option Addr) (n cap : Nat) (f : Nat → Nat) (w : World) (p : Int) (h : Rd W0 Rb a n cap f w p) (h0 : 0 ≤ p) (h1 : p ≤ 600000000) :
 Calls Tryz.prog 70 #[.pointer (some ⟨Rb, 0, none⟩)] w fun e w' => BookOf W0 Rb a n cap f w.heap.size p 400000 e w' ∧ Only (fun q => q = Rb) w w' := by
 have hRb := h.row.lt
 obtain ⟨W1, hW1⟩ : ∃ W, W = w.alloc (.cells #[.slice none 0 0, .slice none 0 0, .slice none 0 0, .slice none 0 0, .int .i64 0] 28) := ⟨_, rfl⟩
 have b1 : Below w.heap.size w W1 := by rw [hW1]; exact (Below.refl _ _).alloc (Nat.le_refl _) _
 have rZ : Row W1 w.heap.size 28 [.slice none 0 0, .slice none 0 0, .slice none 0 0, .slice none 0 0, .int .i64 0] := by rw [hW1]; exact Row.new _ _ _
 have sz1 : W1.heap.size = w.heap.size + 1 := by rw [hW1]; simp
 go_enter Tryz.func70, Tryz.ntmps70
 go_wp2_with fail
 rw [← hW1]
 clear hW1
 refine (l5Base_any W0 Rb a n cap f W1 p (h.later b1) h0 (by omega)).mono ?_
 rintro e X ⟨⟨x, af, ap, av, aq, cf, cp, cv, cq, p1, rfl, dr, tiny, hp1, hp2, hr⟩, on⟩
 unfold bookV
 obtain ⟨Bb, hBb⟩ : ∃ b, b = X.heap.size := ⟨_, rfl⟩
 obtain ⟨X2, hX2⟩ : ∃ W, W = X.alloc (.cells #[.slice af x.foes.length cf, .slice ap x.spots.length cp, .slice av x.valves.length cv, .slice aq x.parts.length cq, .int .i64 x.seen] 28) := ⟨_, rfl⟩
 have b2 : Below X.heap.size X X2 := by rw [hX2]; exact (Below.refl _ _).alloc (Nat.le_refl _) _
 have rB : Row X2 Bb 28 [.slice af x.foes.length cf, .slice ap x.spots.length cp, .slice av x.valves.length cv, .slice aq x.parts.length cq, .int .i64 x.seen] := by rw [hX2, hBb]; exact Row.new _ _ _
 have on2 : Only (fun q => q = Rb) W1 X2 := on.trans (Only.of b2)
 have dr2 : DrB (w.heap.size + 1) X2 x af ap av aq := (dr.later b2).mono (by omega)
 have hr2 := hr.later b2
 have hBb1 : w.heap.size + 1 ≤ Bb := by have := on.size; omega
 clear hr on dr
 go_wp2_with fail
 rw [← hX2, ← hBb]
 clear hX2 hBb b2
 refine (pick_any W0 Rb a n cap f X2 p1 24 hr2 (by omega) (by omega)).mono ?_
 rintro e Y ⟨⟨v, rfl, hv0, hv1⟩, hrY, onY⟩
 obtain ⟨k0, rfl⟩ : ∃ k0 : Nat, v = k0 := ⟨v.toNat, by omega⟩
 have hk0 : k0 ≤ 23 := by omega
 have rBY := rB.only onY (by omega)
 have drY := dr2.low onY (fun q hq => by have : q = Rb := hq; omega)
 have onY1 := on2.trans onY
 have START : Hid _ := And.intro rBY (And.intro drY (And.intro tiny (And.intro hrY onY1)))
 clear rB dr2 on2 hr2 rBY drY hrY onY onY1 hv0 hv1 tiny
 go_wp2_with fail
 go_loopw [4] (fun nn wr => ∃ (k : Nat) (x : Book) (af ap av aq : Option Addr) (cf cp cv cq : Nat) (p' : Int) (Z : World), Z = wr ∧ k ≤ 23 ∧ nn = .int .i64 k ∧ Row Z Bb 28 [.slice af x.foes.length cf, .slice ap x.spots.length cp, .slice av x.valves.length cv, .slice aq x.parts.length cq, .int .i64 x.seen] ∧ DrB (w.heap.size + 1) Z x af ap av aq ∧ Tiny x ∧ p ≤ p' ∧ p' ≤ p + 100 + 14000 * (23 - k) ∧ Rd W0 Rb a n cap f Z p' ∧ Only (fun q => q = Rb) W1 Z) (fun nn _ => (intOf nn).toNat)
 case atStart => exact ⟨k0, x, af, ap, av, aq, cf, cp, cv, cq, p1 + 1, _, rfl, hk0, rfl, START.out.1, START.out.2.1, START.out.2.2.1, by omega, by omega, START.out.2.2.2.1, START.out.2.2.2.2⟩
 case round =>
  clear START
  obtain ⟨k, x, af, ap, av, aq, cf, cp, cv, cq, p', Z, rfl, hk, rfl, rZb, drZ, tiny, hp3, hp4, hrZ, onZ⟩ := hrel
  by_cases hlt : 0 < k
  · obtain ⟨m, rfl⟩ : ∃ m, k = m + 1 := ⟨k - 1, by omega⟩
    have hlt2 : (0 : Int) < ((m + 1 : Nat) : Int) := by omega
    have em : ((m + 1 : Nat) : Int) - 1 = m := by omega
    have hS : ∀ W, Row W Bb 28 [.slice af x.foes.length cf, .slice ap x.spots.length cp, .slice av x.valves.length cv, .slice aq x.parts.length cq, .int .i64 x.seen] → (W.cell? ⟨Bb, 0, none⟩ = some (.slice af x.foes.length cf) ∧ W.cell? ⟨Bb, 1, none⟩ = some (.slice ap x.spots.length cp) ∧ W.cell? ⟨Bb, 2, none⟩ = some (.slice av x.valves.length cv) ∧ W.cell? ⟨Bb, 3, none⟩ = some (.slice aq x.parts.length cq) ∧ W.cell? ⟨Bb, 4, none⟩ = some (.int .i64 x.seen)) := fun W r => ⟨r.cell 0 rfl, r.cell 1 rfl, r.cell 2 rfl, r.cell 3 rfl, r.cell 4 rfl⟩
    have hS0 := hS Z rZb
    have DOES := fun W (hr : Rd W0 Rb a n cap f W p') (hd : DrB (Rb + 1) W x af ap av aq) => l5Does_any W0 Rb a n cap f W p' hr (by omega) (by omega) x af ap av aq cf cp cv cq hd tiny
    unfold bookV at DOES
    go_wp2_with fail
    refine wp_region_E (fun W => W.cell? ⟨Bb, 0, none⟩ = some (.slice af x.foes.length cf) ∧ W.cell? ⟨Bb, 1, none⟩ = some (.slice ap x.spots.length cp) ∧ W.cell? ⟨Bb, 2, none⟩ = some (.slice av x.valves.length cv) ∧ W.cell? ⟨Bb, 3, none⟩ = some (.slice aq x.parts.length cq) ∧ W.cell? ⟨Bb, 4, none⟩ = some (.int .i64 x.seen)) 5 (by kernel_rfl) ?_
    refine tk 0 ?vaa0 rfl (by kernel_rfl) (fun _ _ _ h => h) (by rfl) (hS0) ?yaa0 ?raa0
    case yaa0 => intro w' h; (try dsimp only at h); go_simp; (try with_reducible rfl)
    try simp only [Act.put, sA, sB, sC]
    refine tk 1 ?vaa1 rfl (by kernel_rfl) (fun _ _ _ h => h) (by rfl) (hS0) ?yaa1 ?raa1
    case yaa1 => intro w' h; (try dsimp only at h); go_simp; (try with_reducible rfl)
    try simp only [Act.put, sA, sB, sC]
    refine tk 2 ?vaa2 rfl (by kernel_rfl) (fun _ _ _ h => h) (by rfl) (hS0) ?yaa2 ?raa2
    case yaa2 => intro w' h; (try dsimp only at h); go_simp; (try with_reducible rfl)
    try simp only [Act.put, sA, sB, sC]
    refine wpAnyE_oneC (i := 3) rfl (by kernel_rfl) ?_
    intro K hK
    rw [if_pos (by rfl)]
    go_wp2_with (go_at_call 118; refine (DOES _ (by (repeat (first | assumption | refine rd_drew ?_ | refine rd_alloc ?_ _))) (by first | exact (dr_drew drZ).mono (by omega) | exact drZ.mono (by omega))).mono ?_; rintro e V ⟨⟨y, a2, a3, a4, a5, c2, c3, c4, c5, st, ov, mv, dn, p3, rfl, drW, shW, rmW, hp5, hp6, hrV⟩, onV⟩; have onV1 : Only (fun q => q = Rb) Z V := Only.trans (by (repeat (first | assumption | exact Only.refl _ _ | refine on_drew ?_ | refine on_alloc ?_ _))) onV)
    have rV : Row V Bb 28 [.slice af x.foes.length cf, .slice ap x.spots.length cp, .slice av x.valves.length cv, .slice aq x.parts.length cq, .int .i64 x.seen] := rZb.only onV1 (by omega)
    refine hK.out _ _ (fun _ => hS _ rV) ?_
    clear hK K
    try simp only [Act.put, sA, sB, sC]
    have drV := drZ.low onV1 (fun q hq => by have : q = Rb := hq; omega)
    have STEP := l5Step_any x af ap av aq cf cp cv cq y a2 a3 a4 a5 c2 c3 c4 c5 st ov mv dn V drV.in_ tiny drW.in_ shW rmW
    unfold bookV at STEP
    clear DOES
    refine wpAnyE_oneC (i := 4) rfl (by kernel_rfl) ?_
    intro K hK
    rw [if_pos (by rfl)]
    go_wp2_with (go_at_call 117; refine STEP.mono ?_; rintro e U ⟨⟨x', f0, f1, f2, f3, k0', k1', k2', k3', rfl, drU, tinyU⟩, hbU⟩; unfold bookV)
    refine hK.out _ _ (fun _ => hS _ (rV.later hbU)) ?_
    clear hK K
    try simp only [Act.put, sA, sB, sC]
    have rU := rV.later hbU
    have oc : ∀ v0 v1 v2 v3 v4, Only (fun q => q = Bb) U (set5 U Bb v0 v1 v2 v3 v4) := fun v0 v1 v2 v3 v4 => set5_only (D := fun q => q = Bb) (Only.refl _ _) Bb rfl _ _ _ _ _
    have hzV : Bb < V.heap.size := rV.lt
    have onU := (onZ.trans onV1).trans (Only.of hbU)
    have hrU := hrV.later hbU
    have FIN : ∀ v0 v1 v2 v3 v4, Hid (DrB (w.heap.size + 1) (set5 U Bb v0 v1 v2 v3 v4) x' f0 f1 f2 f3 ∧ Rd W0 Rb a n cap f (set5 U Bb v0 v1 v2 v3 v4) p3 ∧ Only (fun q => q = Rb) W1 (set5 U Bb v0 v1 v2 v3 v4) ∧ Row (set5 U Bb v0 v1 v2 v3 v4) Bb 28 [v0, v1, v2, v3, v4]) := fun v0 v1 v2 v3 v4 => ⟨(drU.low (oc _ _ _ _ _) (fun q hq => by have : q = Bb := hq; omega)).mono (by omega), hrU.only (oc _ _ _ _ _) (fun q hq => by have : q = Bb := hq; omega), onU.next (oc _ _ _ _ _) (fun q hq hq' => by have : q = Bb := hq; omega), rU.set5 _ _ _ _ _⟩
    have g0 := rU.cell 0 rfl
    have g1 := rU.cell 1 rfl
    have g2 := rU.cell 2 rfl
    have g3 := rU.cell 3 rfl
    have g4 := rU.cell 4 rfl
    have gf0 := rU.frozen 0
    have gf1 := rU.frozen 1
    have gf2 := rU.frozen 2
    have gf3 := rU.frozen 3
    have gf4 := rU.frozen 4
    clear STEP drU hrU onU oc drV drW
    refine wpAnyE_oneC (i := 5) rfl (by kernel_rfl) ?_
    intro K hK
    rw [if_pos (by rfl)]
    go_wp2_with fail
    refine hK.out _ _ (fun h => absurd rfl h) ?_
    clear hK K
    try simp only [Act.put, sA, sB, sC]
    refine wpAnyE_done (by kernel_rfl) ?_ _
    clear hS hS0
    go_wp2
    go_roundw
    case rel => exact ⟨m, x', f0, f1, f2, f3, k0', k1', k2', k3', p3, _, rfl, by omega, (by first | rfl | go_num | (rw [em])), (FIN _ _ _ _ _).out.2.2.2, (FIN _ _ _ _ _).out.1, tinyU, by omega, by omega, (FIN _ _ _ _ _).out.2.1, (FIN _ _ _ _ _).out.2.2.1⟩
    case measure => simp [intOf]
  · have hlt2 : ¬ (0 : Int) < k := by omega
    have zZ := rZ.only onZ (by omega)
    have g0 := rZb.cell 0 rfl
    have g1 := rZb.cell 1 rfl
    have g2 := rZb.cell 2 rfl
    have g3 := rZb.cell 3 rfl
    have g4 := rZb.cell 4 rfl
    have z0 := zZ.cell 0 rfl
    have z1 := zZ.cell 1 rfl
    have z2 := zZ.cell 2 rfl
    have z3 := zZ.cell 3 rfl
    have z4 := zZ.cell 4 rfl
    have zf0 := zZ.frozen 0
    have zf1 := zZ.frozen 1
    have zf2 := zZ.frozen 2
    have zf3 := zZ.frozen 3
    have zf4 := zZ.frozen 4
    have oc : ∀ v0 v1 v2 v3 v4, Only (fun q => q = w.heap.size) Z (set5 Z w.heap.size v0 v1 v2 v3 v4) := fun v0 v1 v2 v3 v4 => set5_only (D := fun q => q = w.heap.size) (Only.refl _ _) w.heap.size rfl _ _ _ _ _
    have onw : Only (fun q => q = Rb) w Z := (Only.of b1).trans onZ
    have FIN : ∀ v0 v1 v2 v3 v4, Hid (BookOf W0 Rb a n cap f w.heap.size p 400000 (.returned (bookV x af ap av aq cf cp cv cq)) (set5 Z w.heap.size v0 v1 v2 v3 v4) ∧ Only (fun q => q = Rb) w (set5 Z w.heap.size v0 v1 v2 v3 v4)) := fun v0 v1 v2 v3 v4 => ⟨⟨x, af, ap, av, aq, cf, cp, cv, cq, p', rfl, (drZ.low (oc _ _ _ _ _) (fun q hq => by have : q = w.heap.size := hq; omega)).mono (by omega), tiny, by omega, by omega, hrZ.only (oc _ _ _ _ _) (fun q hq => by have : q = w.heap.size := hq; omega)⟩, onw.next (oc _ _ _ _ _) (fun q hq hq' => by have : q = w.heap.size := hq; omega)⟩
    clear drZ hrZ onZ oc onw zZ rZb
    go_wp2
    refine bodyPost_ret (v := .agg #[.slice af x.foes.length cf, .slice ap x.spots.length cp, .slice av x.valves.length cv, .slice aq x.parts.length cq, .int .i64 x.seen])
     (by simp [results, Tryz.results70, go_sem, z0, z1, z2, z3, z4]) rfl ?_
    exact (FIN _ _ _ _ _).out

end Go.Proofs.YtfmhkicncgccjaaGreat

/- Books that are not too great: what l5Spoil, l5Any and the draws answer. -/
namespace Go.Proofs.YtfmhkicncgccjaaGreat
open Go.RowKit Go.Sort
set_option linter.unusedSimpArgs false
set_option linter.unusedVariables false

/-- A book whose lists and names are not too great. -/
structure Small (x : Book) : Prop where
 fit : BookFit x
 room : BookRoom x
 parts : x.parts.length ≤ 1000
 valves : x.valves.length ≤ 1000
 names : ∀ s ∈ x.valves, s.size ≤ 1000
theorem Tiny.small {x : Book} (h : Tiny x) : Small x := ⟨h.fit, h.room, by have := h.parts.1; omega, by have := h.valves.1; omega, fun s hs => by have := h.valves.2 s hs; omega⟩
/-- A book that is not too great is answered, in memory from B on. -/
def AnyOf (W0 : World) (Rb : Nat) (a : Option Addr) (n cap : Nat) (f : Nat → Nat) (B : Nat) (p d : Int) (e : Ending) (w' : World) : Prop :=
 ∃ (x : Book) (af ap av aq : Option Addr) (cf cp cv cq : Nat) (p' : Int), e = .returned (bookV x af ap av aq cf cp cv cq) ∧ DrB B w' x af ap av aq ∧ Small x ∧ p ≤ p' ∧ p' ≤ p + d ∧ Rd W0 Rb a n cap f w' p'

end Go.Proofs.YtfmhkicncgccjaaGreat

/- A copy of a book that is being spoilt: its variable, its lists and the reader; plain: what each change leaves of it. -/
namespace Go.Proofs.YtfmhkicncgccjaaGreat
open Go.RowKit Go.Sort
set_option linter.unusedSimpArgs false
set_option linter.unusedVariables false

/-- What an append leaves, told of what is in the lists' blocks alone. -/
structure AppX (e : TypeId) (size : Nat) (w w' : World) (a0 : Option Addr) (n m : Nat) (f g : Nat → Nat → Value) (a' : Option Addr) (c' : Nat) : Prop where
 own : OwnL w' e size a' (n + m) (behindF n f g)
 at_ : ∀ y, InSlot a' (n + m) y → InSlot a0 n y ∨ y = w.heap.size
 only : Only (InSlot a0 n) w w'
 le : n + m ≤ c'
theorem run_append_x {P : Program} (w : World) {t e : TypeId} {size : Nat} (ty : TypeId) (hT : SliceT P t e size) (a0 : Option Addr) (n c0 : Nat) (f : Nat → Nat → Value) (ho : OwnL w e size a0 n f) (hc : CapX w e size a0 n c0)
 (ax : Option Addr) (m c : Nat) (g : Nat → Nat → Value) (hx : RowAt w ax m size g) (h1 : ∀ k j, (g k j).oneCell' = true) (hn : n + m ≤ 16777216) :
 ∃ a' c' w', (Builtin.append_ #[t, t] ty #[.slice a0 n c0, .slice ax m c]).run P w = .ok (.slice a' (n + m) c') w' ∧ AppX e size w w' a0 n m f g a' c' := by
 rcases hc with ⟨rfl, rfl⟩ | ⟨h0, hc⟩
 · obtain ⟨a', c', w', hr, h2, h3, h4, h5⟩ := run_append_zeroX (P := P) w ty hT a0 ax m c g hx h1 (by omega)
   rw [← Nat.zero_add m] at h2 h3 h4
   refine ⟨a', c', w', by rw [Nat.zero_add]; exact hr, h2.congr (fun k hk j hj => ?_), fun y hy => Or.inr (h3 y hy), Only.of h5, h4.le⟩
   have := behindF_ge (n := 0) (f := f) (g := g) (k := k) (j := j)
   rw [Nat.zero_add] at this
   exact this.symm
 · obtain ⟨a', c', w', hr, ap⟩ := run_append_row (P := P) w ty hT a0 n c0 f ho hc ax m c g hx h1 hn
   exact ⟨a', c', w', hr, ap.own, fun y hy => (ap.at_ y hy.2).imp (fun h => ⟨h0, h⟩) id, ap.only.mono (fun y hy => ⟨h0, hy⟩), ap.cap.le⟩
theorem step_append_x {P : Program} {w : World} {ops : Array Oper} {o : Oper} {a : Act} {K : Act → World → Prop} {Q : Exit → Act → World → Prop} {E : Prop} (hgd : o.guard = none) (s x : Operand) {t e : TypeId} {size : Nat}
 (ho : o.op = .call { callee := .builtin .append, args := #[s, x], argTypes := #[t, t] }) (hT : SliceT P t e size)
 (a0 : Option Addr) (n c0 : Nat) (f : Nat → Nat → Value) (hs : a.eval s = .slice a0 n c0) (hown : OwnL w e size a0 n f) (hcap : CapX w e size a0 n c0)
 (ax : Option Addr) (m c : Nat) (g : Nat → Nat → Value) (hxe : a.eval x = .slice ax m c) (hx : RowAt w ax m size g) (h1 : ∀ k j, (g k j).oneCell' = true) (hn : n + m ≤ 16777216)
 (h : ∀ a' c' w', AppX e size w w' a0 n m f g a' c' → K (a.put o.dst (.slice a' (n + m) c')) w') :
 if Region.wanted o (yielded ops a.tmps) = true then Oper.wp P o a w K Q else E := by
 have hw : Region.wanted o (yielded ops a.tmps) = true := by simp [Region.wanted, hgd]
 rw [if_pos hw]
 obtain ⟨a', c', w', hr, ap⟩ := run_append_x (P := P) w o.type hT a0 n c0 f hown hcap ax m c g hx h1 hn
 unfold Oper.wp execOp
 simp only [ho, resolve, invoke, builtin, Sem.run_bind, Sem.run_pure, Result.andThen_ok, List.map_toArray, List.map_cons, List.map_nil, hs, hxe, hr]
 exact h a' c' w' ap
/-- One cell of a list is written. -/
theorem OwnL.put {X : World} {t : TypeId} {s b n : Nat} {f : Nat → Nat → Value} (h : OwnL X t s (some ⟨b, 0, none⟩) n f) {k c : Nat} (hk : k < n) (hc : c < s) (v : Value) :
 OwnL (X.setCell ⟨b, k * s + c, none⟩ v) t s (some ⟨b, 0, none⟩) n (fun i j => if i = k ∧ j = c then v else f i j) := by
 rcases h with h | ⟨b', l, e, hr, hl, hf⟩
 · omega
 · cases e
   have hlt : k * s + c < n * s := by
    have h1 : (k + 1) * s ≤ n * s := Nat.mul_le_mul_right s hk
    rw [Nat.add_mul, Nat.one_mul] at h1
    omega
   refine Or.inr ⟨b, _, rfl, hr.set (k * s + c) v, by rw [List.length_set]; exact hl, fun i hi j hj => ?_⟩
   rw [List.getElem?_set]
   have dv : ∀ x y, y < s → (x * s + y) / s = x := fun x y hy => by rw [Nat.mul_comm, Nat.mul_add_div (by omega), Nat.div_eq_of_lt hy, Nat.add_zero]
   by_cases e : k * s + c = i * s + j
   · have e1 : k = i := by have := congrArg (· / s) e; simp only [dv k c hc, dv i j hj] at this; exact this
     subst e1
     have e2 : c = j := by omega
     subst e2
     rw [if_pos rfl, if_pos (by omega)]
     show _ = some (if k = k ∧ c = c then v else f k c)
     rw [if_pos ⟨rfl, rfl⟩]
   · rw [if_neg e]
     show _ = some (if i = k ∧ j = c then v else f i j)
     rw [if_neg (fun h => e (by rw [h.1, h.2]))]
     exact hf i hi j hj
theorem gq_set {ps : List Part} {k : Nat} (hk : k < ps.length) (s : Part) (i : Nat) : gq (ps.set k s) i = if i = k then s else gq ps i := by
 unfold gq
 rw [List.getD_eq_getElem?_getD, List.getElem?_set]
 by_cases e : k = i
 · subst e; simp [hk]
 · rw [if_neg e, if_neg (fun h => e h.symm), List.getD_eq_getElem?_getD]
theorem mem_set' {α : Type} {l : List α} {k : Nat} {s t : α} (h : t ∈ l.set k s) : t = s ∨ t ∈ l := by
 rcases List.mem_or_eq_of_mem_set h with h | h
 · exact Or.inr h
 · exact Or.inl h
theorem OwnSpots.dr {B : Nat} {X : World} {a : Option Addr} {ps : List Spot} {A : Nat → Option Addr} {C : Nat → Nat} (h : OwnSpots X a ps A C) (lo : ∀ q, InSp a ps A q → B ≤ q) :
 ∃ (m : Nat → Option Addr) (c : Nat → Nat), RowAt X a ps.length 5 (fun k => spotCell (gp ps k) (m k) (c k)) ∧ (∀ k, k < ps.length → StrsAt X (m k) (gp ps k).may ∧ From B (m k) (gp ps k).may.length) ∧ ∀ k, k < ps.length → (gp ps k).may.length ≤ c k :=
 ⟨A, C, h.row.rowAt, fun k hk => ⟨(h.may k hk).rowAt, fun q hq => lo q (Or.inr ⟨k, hk, hq⟩)⟩, h.cap⟩
theorem OwnParts.drw {B : Nat} {X : World} {a : Option Addr} {ps : List Part} {A : Nat → Nat → Option Addr} {C : Nat → Nat → Nat} (h : OwnParts X a ps A C) (lo : ∀ q, InPt a ps A q → B ≤ q) {k : Nat} (hk : k < ps.length) : DrW B X (gq ps k).want (A k 0) (A k 1) (A k 2) (A k 3) :=
 ⟨⟨(h.list k hk 0 (by omega)).rowAt, (h.list k hk 1 (by omega)).rowAt, (h.list k hk 2 (by omega)).rowAt, (h.list k hk 3 (by omega)).rowAt⟩,
  fun q hq => lo q (Or.inr ⟨k, hk, 0, by omega, hq⟩), fun q hq => lo q (Or.inr ⟨k, hk, 1, by omega, hq⟩), fun q hq => lo q (Or.inr ⟨k, hk, 2, by omega, hq⟩), fun q hq => lo q (Or.inr ⟨k, hk, 3, by omega, hq⟩)⟩
theorem OwnParts.dr {B : Nat} {X : World} {a : Option Addr} {ps : List Part} {A : Nat → Nat → Option Addr} {C : Nat → Nat → Nat} (h : OwnParts X a ps A C) (lo : ∀ q, InPt a ps A q → B ≤ q) :
 ∃ (A : Nat → Nat → Option Addr) (C : Nat → Nat → Nat), RowAt X a ps.length 7 (fun k => partCell (gq ps k) (A k) (C k)) ∧ ∀ k, k < ps.length → DrW B X (gq ps k).want (A k 2) (A k 3) (A k 4) (A k 5) :=
 ⟨fun k f => A k (f - 2), fun k f => C k (f - 2), h.row.rowAt, fun k hk => h.drw lo hk⟩
theorem CapOf.strict {w : World} {t : TypeId} {s : Nat} {a : Option Addr} {n c : Nat} (h : CapOf w t s a n c) (h0 : n = 0 → a = none) : CapX w t s a n c := by
 by_cases e : n = 0
 · rcases h with ⟨_, _, h3⟩ | ⟨b, l, h1, _⟩
   · exact Or.inl ⟨e, h3⟩
   · rw [h0 e] at h1; cases h1
 · exact Or.inr ⟨e, h⟩

/-- A book from its measures. -/
theorem small_of {x : Book} (f : x.foes.length ≤ 1000 ∧ ∀ s ∈ x.foes, s.a.size ≤ 1000 ∧ s.b.size ≤ 1000) (s : x.spots.length ≤ 1000 ∧ ∀ s ∈ x.spots, s.name.size ≤ 1000 ∧ s.may.length ≤ 1000 ∧ ∀ t ∈ s.may, t.size ≤ 1000)
 (v : x.valves.length ≤ 1000 ∧ ∀ s ∈ x.valves, s.size ≤ 1000) (q : x.parts.length ≤ 1000 ∧ ∀ q ∈ x.parts, ShortW q.want ∧ RoomW 30000 q.want) : Small x := by
 have hM := len100
 exact ⟨⟨⟨by omega, fun t ht => by have := f.2 t ht; omega⟩, ⟨by omega, fun t ht => by have := s.2 t ht; exact ⟨by omega, by omega, fun u hu => by have := this.2.2 u hu; omega⟩⟩, ⟨by omega, fun t ht => by have := v.2 t ht; omega⟩, ⟨by omega, fun t ht => (q.2 t ht).1.fit (q.2 t ht).2⟩⟩,
  ⟨by omega, by omega, fun t ht => by have := s.2 t ht; omega, by omega, by omega, fun t ht => (q.2 t ht).2.room⟩, q.1, v.1, v.2⟩
theorem Tiny.f {x : Book} (h : Tiny x) : x.foes.length ≤ 1000 ∧ ∀ s ∈ x.foes, s.a.size ≤ 1000 ∧ s.b.size ≤ 1000 := ⟨by have := h.foes.1; omega, fun s hs => by have := h.foes.2 s hs; omega⟩
theorem Tiny.s {x : Book} (h : Tiny x) : x.spots.length ≤ 1000 ∧ ∀ s ∈ x.spots, s.name.size ≤ 1000 ∧ s.may.length ≤ 1000 ∧ ∀ t ∈ s.may, t.size ≤ 1000 := ⟨by have := h.spots.1; omega, fun s hs => by have := h.spots.2 s hs; unfold TinyS at this; exact ⟨by omega, by omega, fun t ht => by have := this.2.2 t ht; omega⟩⟩
theorem Tiny.v {x : Book} (h : Tiny x) : x.valves.length ≤ 1000 ∧ ∀ s ∈ x.valves, s.size ≤ 1000 := ⟨by have := h.valves.1; omega, fun s hs => by have := h.valves.2 s hs; omega⟩
theorem Tiny.q {x : Book} (h : Tiny x) : x.parts.length ≤ 1000 ∧ ∀ q ∈ x.parts, ShortW q.want ∧ RoomW 30000 q.want := ⟨by have := h.parts.1; omega, fun q hq => ⟨(h.parts.2 q hq).short, (h.parts.2 q hq).roomW.mono (by omega)⟩⟩

def bookCs (x : Book) (d0 d1 d2 d3 : Option Addr) (k0 k1 k2 k3 : Nat) : List Value := [.slice d0 x.foes.length k0, .slice d1 x.spots.length k1, .slice d2 x.valves.length k2, .slice d3 x.parts.length k3, .int .i64 x.seen]
/-- A copy of a book, in the block Sb. -/
structure SkAt (W0 : World) (Rb : Nat) (a : Option Addr) (n cap : Nat) (f : Nat → Nat) (w : World) (Sb : Nat) (x : Book) (d0 d1 d2 d3 : Option Addr) (k0 k1 k2 k3 : Nat) (A1 : Nat → Option Addr) (C1 : Nat → Nat) (A2 : Nat → Nat → Option Addr) (C2 : Nat → Nat → Nat) (X : World) (p : Int) : Prop where
 row : Row X Sb 28 (bookCs x d0 d1 d2 d3 k0 k1 k2 k3)
 rd : Rd W0 Rb a n cap f X p
 on : Only (fun q => q = Rb) w X
 new : w.heap.size ≤ Sb
 old : Rb < w.heap.size
 own : OwnBook X x d0 d1 d2 d3 A1 C1 A2 C2
 lo : ∀ q, InBk x d0 d1 d2 d3 A1 A2 q → w.heap.size ≤ q ∧ q ≠ Sb
 cf : CapX X 70 2 d0 x.foes.length k0
 cv : CapX X 9 1 d2 x.valves.length k2
 cm : CapM X x.spots A1 C1
 cp : CapX X 61 7 d3 x.parts.length k3
 tiny : Tiny x
/-- A book that is done, in the block Sb. -/
structure FkAt (W0 : World) (Rb : Nat) (a : Option Addr) (n cap : Nat) (f : Nat → Nat) (w : World) (Sb : Nat) (X : World) (p : Int) (x : Book) (d0 d1 d2 d3 : Option Addr) (k0 k1 k2 k3 : Nat) : Prop where
 row : Row X Sb 28 (bookCs x d0 d1 d2 d3 k0 k1 k2 k3)
 rd : Rd W0 Rb a n cap f X p
 on : Only (fun q => q = Rb) w X
 dr : DrB w.heap.size X x d0 d1 d2 d3
 small : Small x

section
variable {W0 : World} {Rb : Nat} {a : Option Addr} {n cap : Nat} {f : Nat → Nat} {w : World} {Sb : Nat} {X X' : World} {p p' : Int} {x : Book} {d0 d1 d2 d3 : Option Addr} {k0 k1 k2 k3 : Nat} {A1 : Nat → Option Addr} {C1 : Nat → Nat} {A2 : Nat → Nat → Option Addr} {C2 : Nat → Nat → Nat}
theorem SkAt.start (hr : Rd W0 Rb a n cap f X p) (on : Only (fun q => q = Rb) w X) (old : Rb < w.heap.size) (own : OwnBook X x d0 d1 d2 d3 A1 C1 A2 C2) (lo : ∀ q, InBk x d0 d1 d2 d3 A1 A2 q → w.heap.size ≤ q) (cp : CapOf X 61 7 d3 x.parts.length k3) (h3 : x.parts.length = 0 → d3 = none)
 (cs : CapX X 70 2 d0 x.foes.length k0 ∧ CapX X 9 1 d2 x.valves.length k2 ∧ CapM X x.spots A1 C1) (tiny : Tiny x) :
 SkAt W0 Rb a n cap f w X.heap.size x d0 d1 d2 d3 k0 k1 k2 k3 A1 C1 A2 C2 (X.alloc (.cells #[.slice d0 x.foes.length k0, .slice d1 x.spots.length k1, .slice d2 x.valves.length k2, .slice d3 x.parts.length k3, .int .i64 x.seen] 28)) p := by
 have b : Below X.heap.size X (X.alloc (.cells #[.slice d0 x.foes.length k0, .slice d1 x.spots.length k1, .slice d2 x.valves.length k2, .slice d3 x.parts.length k3, .int .i64 x.seen] 28)) := (Below.refl _ _).alloc (Nat.le_refl _) _
 exact ⟨Row.new _ _ _, hr.later b, on.trans (Only.of b), on.size, old, own.later b, fun q hq => ⟨lo q hq, by have := own.lt hq; omega⟩, cs.1.later b, cs.2.1.later b, cs.2.2.later b, (cp.strict h3).later b, tiny⟩
theorem SkAt.pick (h : SkAt W0 Rb a n cap f w Sb x d0 d1 d2 d3 k0 k1 k2 k3 A1 C1 A2 C2 X p) (hr : Rd W0 Rb a n cap f X' p') (ho : Only (fun q => q = Rb) X X') : SkAt W0 Rb a n cap f w Sb x d0 d1 d2 d3 k0 k1 k2 k3 A1 C1 A2 C2 X' p' :=
 have hlt : Rb < Sb := by have := h.new; have := h.old; omega
 have ne : ∀ q, InBk x d0 d1 d2 d3 A1 A2 q → ¬ q = Rb := fun q hq => by have := h.lo q hq; have := h.old; omega
 ⟨h.row.only ho (by omega), hr, h.on.trans ho, h.new, h.old, h.own.only ho ne, h.lo, h.cf.only ho (fun q hq => ne q (Or.inl hq)), h.cv.only ho (fun q hq => ne q (Or.inr (Or.inr (Or.inl hq)))), h.cm.only ho (fun k hk q hq => ne q (Or.inr (Or.inl (Or.inr ⟨k, hk, hq⟩)))), h.cp.only ho (fun q hq => ne q (Or.inr (Or.inr (Or.inr (Or.inl hq))))), h.tiny⟩
theorem SkAt.later (h : SkAt W0 Rb a n cap f w Sb x d0 d1 d2 d3 k0 k1 k2 k3 A1 C1 A2 C2 X p) (hb : Below X.heap.size X X') : SkAt W0 Rb a n cap f w Sb x d0 d1 d2 d3 k0 k1 k2 k3 A1 C1 A2 C2 X' p :=
 ⟨h.row.later hb, h.rd.later hb, h.on.trans (Only.of hb), h.new, h.old, h.own.later hb, h.lo, h.cf.later hb, h.cv.later hb, h.cm.later hb, h.cp.later hb, h.tiny⟩
theorem SkAt.done (h : SkAt W0 Rb a n cap f w Sb x d0 d1 d2 d3 k0 k1 k2 k3 A1 C1 A2 C2 X p) : FkAt W0 Rb a n cap f w Sb X p x d0 d1 d2 d3 k0 k1 k2 k3 := ⟨h.row, h.rd, h.on, DrB.of_own h.own (fun q hq => (h.lo q hq).1), h.tiny.small⟩
/-- Something of the copy is written. -/
theorem SkAt.fin (h : SkAt W0 Rb a n cap f w Sb x d0 d1 d2 d3 k0 k1 k2 k3 A1 C1 A2 C2 X p) {D : Nat → Prop} (ho : Only D X X') (hD : ∀ q, D q → w.heap.size ≤ q) {x' : Book} {e0 e1 e2 e3 : Option Addr} {l0 l1 l2 l3 : Nat} (hr : Row X' Sb 28 (bookCs x' e0 e1 e2 e3 l0 l1 l2 l3)) (dr : DrB w.heap.size X' x' e0 e1 e2 e3) (hs : Small x') :
 FkAt W0 Rb a n cap f w Sb X' p x' e0 e1 e2 e3 l0 l1 l2 l3 :=
 ⟨hr, h.rd.only ho (fun q hq => by have := hD q hq; have := h.old; omega), h.on.next ho (fun q hq hq' => by have := hD q hq; omega), dr, hs⟩
theorem SkAt.seen (h : SkAt W0 Rb a n cap f w Sb x d0 d1 d2 d3 k0 k1 k2 k3 A1 C1 A2 C2 X p) (v : Int) : FkAt W0 Rb a n cap f w Sb (X.setCell ⟨Sb, 4, none⟩ (.int .i64 v)) p ⟨x.foes, x.spots, x.valves, x.parts, v⟩ d0 d1 d2 d3 k0 k1 k2 k3 := by
 have ho : Only (fun q => q = Sb) X (X.setCell ⟨Sb, 4, none⟩ (.int .i64 v)) := Only.cell _ ⟨Sb, 4, none⟩ _
 have dr := DrB.of_own (B := w.heap.size) (h.own.only ho (fun q hq => (h.lo q hq).2)) (fun q hq => (h.lo q hq).1)
 exact h.fin ho (fun q hq => by have : q = Sb := hq; have := h.new; omega) (h.row.set 4 _) ⟨dr.foes, dr.f0, dr.spots, dr.f1, dr.valves, dr.f2, dr.parts, dr.f3⟩ (small_of h.tiny.f h.tiny.s h.tiny.v h.tiny.q)
/-- A pair of foes is put behind. -/
theorem SkAt.foe (h : SkAt W0 Rb a n cap f w Sb x d0 d1 d2 d3 k0 k1 k2 k3 A1 C1 A2 C2 X p) {fo : Foe} {d : Option Addr} {k : Nat} (ap : AppX 70 2 X X' d0 x.foes.length 1 (foeF x.foes) (foeF [fo]) d k) (hs : fo.a.size ≤ 1000 ∧ fo.b.size ≤ 1000) :
 FkAt W0 Rb a n cap f w Sb (X'.setCell ⟨Sb, 0, none⟩ (.slice d (x.foes.length + 1) k)) p ⟨x.foes ++ [fo], x.spots, x.valves, x.parts, x.seen⟩ d d1 d2 d3 k k1 k2 k3 := by
 have oc : Only (fun q => q = Sb) X' (X'.setCell ⟨Sb, 0, none⟩ (.slice d (x.foes.length + 1) k)) := Only.cell _ ⟨Sb, 0, none⟩ _
 have ho : Only (fun q => InSlot d0 x.foes.length q ∨ q = Sb) X (X'.setCell ⟨Sb, 0, none⟩ (.slice d (x.foes.length + 1) k)) := (ap.only.mono (fun q hq => Or.inl hq)).trans (oc.mono (fun q hq => Or.inr hq))
 have hlen : (x.foes ++ [fo]).length = x.foes.length + 1 := by simp
 have hlt := h.row.lt
 have hX := h.on.size
 have hn := h.new
 have r1 := (h.row.only ap.only (fun hq => (h.lo Sb (Or.inl hq)).2 rfl)).set 0 (.slice d (x.foes.length + 1) k)
 have of : OwnL (X'.setCell ⟨Sb, 0, none⟩ (.slice d (x.foes.length + 1) k)) 70 2 d (x.foes ++ [fo]).length (foeF (x.foes ++ [fo])) := by
  rw [hlen]
  refine (ap.own.only oc (fun q hq e => ?_)).congr (fun i hi j hj => ?_)
  · rcases ap.at_ q hq with h' | h'
    · exact (h.lo q (Or.inl h')).2 e
    · have e' : q = Sb := e; omega
  · by_cases e : i < x.foes.length
    · rw [behindF_lt e]; unfold foeF gf; rw [List.getD_eq_getElem?_getD, List.getD_eq_getElem?_getD, List.getElem?_append_left e]
    · have e2 : i = x.foes.length := by omega
      subst e2
      have := behindF_ge (n := x.foes.length) (f := foeF x.foes) (g := foeF [fo]) (k := 0) (j := j)
      rw [Nat.add_zero] at this
      rw [this]; unfold foeF gf; rw [List.getD_eq_getElem?_getD, List.getD_eq_getElem?_getD, List.getElem?_append_right (Nat.le_refl _), Nat.sub_self]
 refine h.fin ho (fun q hq => ?_) (by unfold bookCs; rw [hlen]; exact r1) ⟨of.rowAt, fun q hq => ?_, (h.own.spots.only ho (fun q hq hq' => ?_)).dr (fun q hq => (h.lo q (Or.inr (Or.inl hq))).1), fun q hq => (h.lo q (Or.inr (Or.inl (Or.inl hq)))).1, (h.own.valves.only ho (fun q hq hq' => ?_)).rowAt, fun q hq => (h.lo q (Or.inr (Or.inr (Or.inl hq)))).1, (h.own.parts.only ho (fun q hq hq' => ?_)).dr (fun q hq => (h.lo q (Or.inr (Or.inr (Or.inr hq)))).1), fun q hq => (h.lo q (Or.inr (Or.inr (Or.inr (Or.inl hq))))).1⟩ (small_of ⟨by have := h.tiny.foes.1; simp; omega, fun t ht => ?_⟩ h.tiny.s h.tiny.v h.tiny.q)
 · rcases hq with hq | hq
   · exact (h.lo q (Or.inl hq)).1
   · omega
 · rw [hlen] at hq
   rcases ap.at_ q hq with h' | h'
   · exact (h.lo q (Or.inl h')).1
   · omega
 · rcases hq' with e | e
   · exact h.own.d01 q e hq
   · exact (h.lo q (Or.inr (Or.inl hq))).2 e
 · rcases hq' with e | e
   · exact h.own.d02 q e hq
   · exact (h.lo q (Or.inr (Or.inr (Or.inl hq)))).2 e
 · rcases hq' with e | e
   · exact h.own.d03 q e hq
   · exact (h.lo q (Or.inr (Or.inr (Or.inr hq)))).2 e
 · rcases List.mem_append.1 ht with h' | h'
   · exact h.tiny.f.2 t h'
   · rw [List.mem_singleton.1 h']; exact hs
/-- A valve is put behind. -/
theorem SkAt.valve (h : SkAt W0 Rb a n cap f w Sb x d0 d1 d2 d3 k0 k1 k2 k3 A1 C1 A2 C2 X p) {s : ByteArray} {d : Option Addr} {k : Nat} (ap : AppX 9 1 X X' d2 x.valves.length 1 (strF x.valves) (fun _ _ => .string s) d k) (hs : s.size ≤ 1000) :
 FkAt W0 Rb a n cap f w Sb (X'.setCell ⟨Sb, 2, none⟩ (.slice d (x.valves.length + 1) k)) p ⟨x.foes, x.spots, x.valves ++ [s], x.parts, x.seen⟩ d0 d1 d d3 k0 k1 k k3 := by
 have oc : Only (fun q => q = Sb) X' (X'.setCell ⟨Sb, 2, none⟩ (.slice d (x.valves.length + 1) k)) := Only.cell _ ⟨Sb, 2, none⟩ _
 have ho : Only (fun q => InSlot d2 x.valves.length q ∨ q = Sb) X (X'.setCell ⟨Sb, 2, none⟩ (.slice d (x.valves.length + 1) k)) := (ap.only.mono (fun q hq => Or.inl hq)).trans (oc.mono (fun q hq => Or.inr hq))
 have hlen : (x.valves ++ [s]).length = x.valves.length + 1 := by simp
 have hlt := h.row.lt
 have hX := h.on.size
 have hn := h.new
 have r1 := (h.row.only ap.only (fun hq => (h.lo Sb (Or.inr (Or.inr (Or.inl hq)))).2 rfl)).set 2 (.slice d (x.valves.length + 1) k)
 have of : OwnL (X'.setCell ⟨Sb, 2, none⟩ (.slice d (x.valves.length + 1) k)) 9 1 d (x.valves ++ [s]).length (strF (x.valves ++ [s])) := by
  rw [hlen]
  refine (ap.own.only oc (fun q hq e => ?_)).congr (fun i hi j hj => strF_snoc _ _ _ _ hi)
  rcases ap.at_ q hq with h' | h'
  · exact (h.lo q (Or.inr (Or.inr (Or.inl h')))).2 e
  · have e' : q = Sb := e; omega
 refine h.fin ho (fun q hq => ?_) (by unfold bookCs; rw [hlen]; exact r1) ⟨(h.own.foes.only ho (fun q hq hq' => ?_)).rowAt, fun q hq => (h.lo q (Or.inl hq)).1, (h.own.spots.only ho (fun q hq hq' => ?_)).dr (fun q hq => (h.lo q (Or.inr (Or.inl hq))).1), fun q hq => (h.lo q (Or.inr (Or.inl (Or.inl hq)))).1, of.rowAt, fun q hq => ?_, (h.own.parts.only ho (fun q hq hq' => ?_)).dr (fun q hq => (h.lo q (Or.inr (Or.inr (Or.inr hq)))).1), fun q hq => (h.lo q (Or.inr (Or.inr (Or.inr (Or.inl hq))))).1⟩ (small_of h.tiny.f h.tiny.s ⟨by have := h.tiny.valves.1; simp; omega, fun t ht => ?_⟩ h.tiny.q)
 · rcases hq with hq | hq
   · exact (h.lo q (Or.inr (Or.inr (Or.inl hq)))).1
   · omega
 · rcases hq' with e | e
   · exact h.own.d02 q hq e
   · exact (h.lo q (Or.inl hq)).2 e
 · rcases hq' with e | e
   · exact h.own.d12 q hq e
   · exact (h.lo q (Or.inr (Or.inl hq))).2 e
 · rw [hlen] at hq
   rcases ap.at_ q hq with h' | h'
   · exact (h.lo q (Or.inr (Or.inr (Or.inl h')))).1
   · omega
 · rcases hq' with e | e
   · exact h.own.d23 q e hq
   · exact (h.lo q (Or.inr (Or.inr (Or.inr hq)))).2 e
 · rcases List.mem_append.1 ht with h' | h'
   · exact h.tiny.v.2 t h'
   · rw [List.mem_singleton.1 h']; exact hs
/-- Some parts are written anew: they lie in their block as before, or in a new one, and nothing else but the variable is touched. -/
theorem SkAt.parts (h : SkAt W0 Rb a n cap f w Sb x d0 d1 d2 d3 k0 k1 k2 k3 A1 C1 A2 C2 X p) (ho : Only (fun q => InSlot d3 x.parts.length q ∨ q = Sb) X X') {ps : List Part} {d : Option Addr} {k : Nat} (hr : Row X' Sb 28 (bookCs ⟨x.foes, x.spots, x.valves, ps, x.seen⟩ d0 d1 d2 d k0 k1 k2 k))
 (hp : ∃ (A : Nat → Nat → Option Addr) (C : Nat → Nat → Nat), RowAt X' d ps.length 7 (fun k => partCell (gq ps k) (A k) (C k)) ∧ ∀ k, k < ps.length → DrW w.heap.size X' (gq ps k).want (A k 2) (A k 3) (A k 4) (A k 5)) (hd : From w.heap.size d ps.length) (hs : ps.length ≤ 1000 ∧ ∀ q ∈ ps, ShortW q.want ∧ RoomW 30000 q.want) :
 FkAt W0 Rb a n cap f w Sb X' p ⟨x.foes, x.spots, x.valves, ps, x.seen⟩ d0 d1 d2 d k0 k1 k2 k := by
 have hn := h.new
 refine h.fin ho (fun q hq => ?_) hr ⟨(h.own.foes.only ho (fun q hq hq' => ?_)).rowAt, fun q hq => (h.lo q (Or.inl hq)).1, (h.own.spots.only ho (fun q hq hq' => ?_)).dr (fun q hq => (h.lo q (Or.inr (Or.inl hq))).1), fun q hq => (h.lo q (Or.inr (Or.inl (Or.inl hq)))).1, (h.own.valves.only ho (fun q hq hq' => ?_)).rowAt, fun q hq => (h.lo q (Or.inr (Or.inr (Or.inl hq)))).1, hp, hd⟩ (small_of h.tiny.f h.tiny.s h.tiny.v hs)
 · rcases hq with hq | hq
   · exact (h.lo q (Or.inr (Or.inr (Or.inr (Or.inl hq))))).1
   · omega
 · rcases hq' with e | e
   · exact h.own.d03 q hq (Or.inl e)
   · exact (h.lo q (Or.inl hq)).2 e
 · rcases hq' with e | e
   · exact h.own.d13 q hq (Or.inl e)
   · exact (h.lo q (Or.inr (Or.inl hq))).2 e
 · rcases hq' with e | e
   · exact h.own.d23 q hq (Or.inl e)
   · exact (h.lo q (Or.inr (Or.inr (Or.inl hq)))).2 e
/-- A copy of part j is put behind. -/
theorem SkAt.part (h : SkAt W0 Rb a n cap f w Sb x d0 d1 d2 d3 k0 k1 k2 k3 A1 C1 A2 C2 X p) {j : Nat} (hj : j < x.parts.length) {d : Option Addr} {k : Nat} (ap : AppX 61 7 X X' d3 x.parts.length 1 (fun k => partCell (gq x.parts k) (fun f => A2 k (f - 2)) (fun f => C2 k (f - 2))) (fun _ => partCell (gq x.parts j) (fun f => A2 j (f - 2)) (fun f => C2 j (f - 2))) d k) :
 FkAt W0 Rb a n cap f w Sb (X'.setCell ⟨Sb, 3, none⟩ (.slice d (x.parts.length + 1) k)) p ⟨x.foes, x.spots, x.valves, x.parts ++ [gq x.parts j], x.seen⟩ d0 d1 d2 d k0 k1 k2 k := by
 have oc : Only (fun q => q = Sb) X' (X'.setCell ⟨Sb, 3, none⟩ (.slice d (x.parts.length + 1) k)) := Only.cell _ ⟨Sb, 3, none⟩ _
 have ho : Only (fun q => InSlot d3 x.parts.length q ∨ q = Sb) X (X'.setCell ⟨Sb, 3, none⟩ (.slice d (x.parts.length + 1) k)) := (ap.only.mono (fun q hq => Or.inl hq)).trans (oc.mono (fun q hq => Or.inr hq))
 have hlen : (x.parts ++ [gq x.parts j]).length = x.parts.length + 1 := by simp
 have hlt := h.row.lt
 have hX := h.on.size
 have hn := h.new
 have r1 := (h.row.only ap.only (fun hq => (h.lo Sb (Or.inr (Or.inr (Or.inr (Or.inl hq))))).2 rfl)).set 3 (.slice d (x.parts.length + 1) k)
 have drw : ∀ i, i < x.parts.length → DrW w.heap.size (X'.setCell ⟨Sb, 3, none⟩ (.slice d (x.parts.length + 1) k)) (gq x.parts i).want (A2 i 0) (A2 i 1) (A2 i 2) (A2 i 3) := fun i hi => by
  have l : ∀ c, c < 4 → RowAt (X'.setCell ⟨Sb, 3, none⟩ (.slice d (x.parts.length + 1) k)) (A2 i c) (pL (gq x.parts i) c) (sS c) (pF (gq x.parts i) c) := fun c hc => ((h.own.parts.list i hi c hc).only ho (fun q hq hq' => hq'.elim (h.own.parts.apart i hi c hc q hq) (fun e => (h.lo q (Or.inr (Or.inr (Or.inr (Or.inr ⟨i, hi, c, hc, hq⟩))))).2 e))).rowAt
  have o := h.own.parts.drw (fun q hq => (h.lo q (Or.inr (Or.inr (Or.inr hq)))).1) hi
  exact ⟨⟨l 0 (by omega), l 1 (by omega), l 2 (by omega), l 3 (by omega)⟩, o.f2, o.f3, o.f4, o.f5⟩
 refine h.parts ho (by unfold bookCs; rw [hlen]; exact r1) ⟨fun i f => A2 (if i = x.parts.length then j else i) (f - 2), fun i f => C2 (if i = x.parts.length then j else i) (f - 2), ?_, fun i hi => ?_⟩ (fun q hq => ?_) ⟨by have := h.tiny.parts.1; simp; omega, fun t ht => ?_⟩
 · rw [hlen]
   refine (OwnL.congr (ap.own.only oc (fun q hq e => ?_)) (fun i hi c hc => ?_)).rowAt
   · rcases ap.at_ q hq with h' | h'
     · exact (h.lo q (Or.inr (Or.inr (Or.inr (Or.inl h'))))).2 e
     · have e' : q = Sb := e; omega
   · by_cases e : i < x.parts.length
     · rw [behindF_lt e, gq_snoc_lt e]; simp only [if_neg (show ¬ i = x.parts.length by omega)]
     · have e2 : i = x.parts.length := by omega
       subst e2
       have := behindF_ge (n := x.parts.length) (f := fun k => partCell (gq x.parts k) (fun f => A2 k (f - 2)) (fun f => C2 k (f - 2))) (g := fun _ => partCell (gq x.parts j) (fun f => A2 j (f - 2)) (fun f => C2 j (f - 2))) (k := 0) (j := c)
       rw [Nat.add_zero] at this
       rw [this, gq_snoc_eq]; simp only [if_true]
 · by_cases e : i = x.parts.length
   · subst e
     rw [gq_snoc_eq]
     simp only [if_true]
     exact drw j hj
   · have e2 : i < x.parts.length := by rw [hlen] at hi; omega
     rw [gq_snoc_lt e2]
     simp only [if_neg e]
     exact drw i e2
 · rw [hlen] at hq
   rcases ap.at_ q hq with h' | h'
   · exact (h.lo q (Or.inr (Or.inr (Or.inr (Or.inl h'))))).1
   · omega
 · rcases List.mem_append.1 ht with h' | h'
   · exact h.tiny.q.2 t h'
   · rw [List.mem_singleton.1 h']; exact h.tiny.q.2 _ (gq_mem hj)
/-- The want of part j is written. -/
theorem SkAt.want (h : SkAt W0 Rb a n cap f w Sb x d0 d1 d2 d3 k0 k1 k2 k3 A1 C1 A2 C2 X p) {j b : Nat} (hd : d3 = some ⟨b, 0, none⟩) (hj : j < x.parts.length) {y : Want} {a2 a3 a4 a5 : Option Addr} {c2 c3 c4 c5 : Nat} (dw : DrW w.heap.size X y a2 a3 a4 a5) (nw : ∀ q, (InSlot a2 y.stuffs.length q ∨ InSlot a3 y.uses.length q ∨ InSlot a4 y.opens.length q ∨ InSlot a5 y.shuts.length q) → q ≠ b) (hs : ShortW y) (hR : RoomW 30000 y) :
 FkAt W0 Rb a n cap f w Sb ((((((X.setCell ⟨b, j * 7, none⟩ (.int .i64 y.number)).setCell ⟨b, j * 7 + 1, none⟩ (.int .i64 y.kind)).setCell ⟨b, j * 7 + 2, none⟩ (.slice a2 y.stuffs.length c2)).setCell ⟨b, j * 7 + 3, none⟩ (.slice a3 y.uses.length c3)).setCell ⟨b, j * 7 + 4, none⟩ (.slice a4 y.opens.length c4)).setCell ⟨b, j * 7 + 5, none⟩ (.slice a5 y.shuts.length c5)) p
  ⟨x.foes, x.spots, x.valves, x.parts.set j ⟨y, (gq x.parts j).stopped⟩, x.seen⟩ d0 d1 d2 d3 k0 k1 k2 k3 := by
 subst hd
 obtain ⟨X', hX'⟩ : ∃ W, W = ((((((X.setCell ⟨b, j * 7, none⟩ (.int .i64 y.number)).setCell ⟨b, j * 7 + 1, none⟩ (.int .i64 y.kind)).setCell ⟨b, j * 7 + 2, none⟩ (.slice a2 y.stuffs.length c2)).setCell ⟨b, j * 7 + 3, none⟩ (.slice a3 y.uses.length c3)).setCell ⟨b, j * 7 + 4, none⟩ (.slice a4 y.opens.length c4)).setCell ⟨b, j * 7 + 5, none⟩ (.slice a5 y.shuts.length c5)) := ⟨_, rfl⟩
 have ob : Only (fun q => q = b) X X' := by rw [hX']; exact ((((((Only.refl (fun q => q = b) X).set (b := b) rfl _ _).set rfl _ _).set rfl _ _).set rfl _ _).set rfl _ _).set rfl _ _
 have o1 := (((((h.own.parts.row.put hj (c := 0) (by omega) (.int .i64 y.number)).put hj (c := 1) (by omega) (.int .i64 y.kind)).put hj (c := 2) (by omega) (.slice a2 y.stuffs.length c2)).put hj (c := 3) (by omega) (.slice a3 y.uses.length c3)).put hj (c := 4) (by omega) (.slice a4 y.opens.length c4)).put hj (c := 5) (by omega) (.slice a5 y.shuts.length c5)
 rw [Nat.add_zero, ← hX'] at o1
 rw [← hX']
 have ib : InSlot (some ⟨b, 0, none⟩) x.parts.length b := ⟨by omega, 0, rfl⟩
 have ho : Only (fun q => InSlot (some ⟨b, 0, none⟩) x.parts.length q ∨ q = Sb) X X' := ob.mono (fun q hq => Or.inl (by have e : q = b := hq; rw [e]; exact ib))
 have hlen : (x.parts.set j ⟨y, (gq x.parts j).stopped⟩).length = x.parts.length := by simp
 have hbS := (h.lo b (Or.inr (Or.inr (Or.inr (Or.inl ib))))).2
 refine h.parts ho (by unfold bookCs; rw [hlen]; exact h.row.only ob (fun e => hbS e.symm)) ⟨fun i f => if i = j then (match f with | 2 => a2 | 3 => a3 | 4 => a4 | _ => a5) else A2 i (f - 2), fun i f => if i = j then (match f with | 2 => c2 | 3 => c3 | 4 => c4 | _ => c5) else C2 i (f - 2), ?_, fun i hi => ?_⟩ (fun q hq => ?_) ⟨by have := h.tiny.parts.1; simp; omega, fun t ht => ?_⟩
 · rw [hlen]
   refine (o1.congr (fun i hi c hc => ?_)).rowAt
   rw [gq_set hj]
   by_cases e : i = j
   · subst e
     simp only [if_true, true_and]
     match c, hc with
     | 0, _ => rfl
     | 1, _ => rfl
     | 2, _ => rfl
     | 3, _ => rfl
     | 4, _ => rfl
     | 5, _ => rfl
     | 6, _ => rfl
   · simp only [if_neg e, e, false_and, if_false]
 · rw [hlen] at hi
   rw [gq_set hj]
   by_cases e : i = j
   · simp only [if_pos e]
     have nb : ∀ {P : Nat → Prop}, (∀ q, P q → q ≠ b) → ∀ q, P q → ¬ q = b := fun h => h
     exact ⟨⟨RowAt.only dw.in_.stuffs ob (fun q hq => nw q (Or.inl hq)), RowAt.only dw.in_.uses ob (fun q hq => nw q (Or.inr (Or.inl hq))), RowAt.only dw.in_.opens ob (fun q hq => nw q (Or.inr (Or.inr (Or.inl hq)))), RowAt.only dw.in_.shuts ob (fun q hq => nw q (Or.inr (Or.inr (Or.inr hq))))⟩, dw.f2, dw.f3, dw.f4, dw.f5⟩
   · simp only [if_neg e]
     have l : ∀ c, c < 4 → RowAt X' (A2 i c) (pL (gq x.parts i) c) (sS c) (pF (gq x.parts i) c) := fun c hc => ((h.own.parts.list i hi c hc).only ob (fun q hq hq' => h.own.parts.apart i hi c hc q hq (by have e : q = b := hq'; rw [e]; exact ib))).rowAt
     have o := h.own.parts.drw (fun q hq => (h.lo q (Or.inr (Or.inr (Or.inr hq)))).1) hi
     exact ⟨⟨l 0 (by omega), l 1 (by omega), l 2 (by omega), l 3 (by omega)⟩, o.f2, o.f3, o.f4, o.f5⟩
 · rw [hlen] at hq
   exact (h.lo q (Or.inr (Or.inr (Or.inr (Or.inl hq))))).1
 · rcases mem_set' ht with h' | h'
   · rw [h']; exact ⟨hs, hR⟩
   · exact h.tiny.q.2 t h'
/-- A cell of spot j is written, and, it may be, its list told anew. -/
theorem SkAt.spot (h : SkAt W0 Rb a n cap f w Sb x d0 d1 d2 d3 k0 k1 k2 k3 A1 C1 A2 C2 X p) {j b : Nat} (hd : d1 = some ⟨b, 0, none⟩) (hj : j < x.spots.length) (hX : Only (InSlot (A1 j) (gp x.spots j).may.length) X X') (c : Nat) (hc : c < 5) (v : Value) (s : Spot) (m : Option Addr) (l : Nat)
 (hv : ∀ i, i < 5 → spotCell s m l i = if i = c then v else spotCell (gp x.spots j) (A1 j) (C1 j) i) (hm : OwnL X' 9 1 m s.may.length (strF s.may)) (hl : s.may.length ≤ l) (hlo : ∀ q, InSlot m s.may.length q → w.heap.size ≤ q ∧ q ≠ b) (hs : s.name.size ≤ 1000 ∧ s.may.length ≤ 1000 ∧ ∀ t ∈ s.may, t.size ≤ 1000) :
 FkAt W0 Rb a n cap f w Sb (X'.setCell ⟨b, j * 5 + c, none⟩ v) p ⟨x.foes, x.spots.set j s, x.valves, x.parts, x.seen⟩ d0 d1 d2 d3 k0 k1 k2 k3 := by
 subst hd
 have ib : InSlot (some ⟨b, 0, none⟩) x.spots.length b := ⟨by omega, 0, rfl⟩
 have ob : Only (fun q => q = b) X' (X'.setCell ⟨b, j * 5 + c, none⟩ v) := Only.cell _ ⟨b, j * 5 + c, none⟩ _
 have ho : Only (fun q => InSlot (A1 j) (gp x.spots j).may.length q ∨ q = b) X (X'.setCell ⟨b, j * 5 + c, none⟩ v) := (hX.mono (fun q hq => Or.inl hq)).trans (ob.mono (fun q hq => Or.inr hq))
 have hD : ∀ q, (InSlot (A1 j) (gp x.spots j).may.length q ∨ q = b) → InSp (some ⟨b, 0, none⟩) x.spots A1 q := fun q hq => hq.elim (fun e => Or.inr ⟨j, hj, e⟩) (fun e => Or.inl (by rw [e]; exact ib))
 have hlen : (x.spots.set j s).length = x.spots.length := by simp
 have o1 := (h.own.spots.row.only hX (fun q hq hq' => h.own.spots.apart j hj q hq' hq)).put hj hc v
 refine h.fin ho (fun q hq => (h.lo q (Or.inr (Or.inl (hD q hq)))).1) (by unfold bookCs; rw [hlen]; exact h.row.only ho (fun e => (h.lo Sb (Or.inr (Or.inl (hD Sb e)))).2 rfl))
  ⟨(h.own.foes.only ho (fun q hq hq' => h.own.d01 q hq (hD q hq'))).rowAt, fun q hq => (h.lo q (Or.inl hq)).1, ⟨fun i => if i = j then m else A1 i, fun i => if i = j then l else C1 i, ?_, fun i hi => ?_, fun i hi => ?_⟩, fun q hq => ?_, (h.own.valves.only ho (fun q hq hq' => h.own.d12 q (hD q hq') hq)).rowAt, fun q hq => (h.lo q (Or.inr (Or.inr (Or.inl hq)))).1, (h.own.parts.only ho (fun q hq hq' => h.own.d13 q (hD q hq') hq)).dr (fun q hq => (h.lo q (Or.inr (Or.inr (Or.inr hq)))).1), fun q hq => (h.lo q (Or.inr (Or.inr (Or.inr (Or.inl hq))))).1⟩
  (small_of h.tiny.f ⟨by have := h.tiny.spots.1; simp; omega, fun t ht => ?_⟩ h.tiny.v h.tiny.q)
 · rw [hlen]
   refine (o1.congr (fun i hi e he => ?_)).rowAt
   rw [gp_set hj]
   by_cases e1 : i = j
   · subst e1
     simp only [if_true, true_and]
     exact (hv e he).symm
   · simp only [if_neg e1, e1, false_and, if_false]
 · rw [hlen] at hi
   rw [gp_set hj]
   by_cases e : i = j
   · simp only [if_pos e]
     exact ⟨(hm.only ob (fun q hq => (hlo q hq).2)).rowAt, fun q hq => (hlo q hq).1⟩
   · simp only [if_neg e]
     exact ⟨((h.own.spots.may i hi).only ho (fun q hq hq' => hq'.elim (h.own.spots.each i j hi hj e q hq) (fun e' => h.own.spots.apart i hi q hq (by rw [e']; exact ib)))).rowAt, fun q hq => (h.lo q (Or.inr (Or.inl (Or.inr ⟨i, hi, hq⟩)))).1⟩
 · rw [hlen] at hi
   rw [gp_set hj]
   by_cases e : i = j
   · simp only [if_pos e]; exact hl
   · simp only [if_neg e]; exact h.own.spots.cap i hi
 · rw [hlen] at hq
   exact (h.lo q (Or.inr (Or.inl (Or.inl hq)))).1
 · rcases mem_set' ht with h' | h'
   · rw [h']; exact hs
   · exact h.tiny.s.2 t h'
/-- A cell of spot j is written that is none of its list. -/
theorem SkAt.spotC (h : SkAt W0 Rb a n cap f w Sb x d0 d1 d2 d3 k0 k1 k2 k3 A1 C1 A2 C2 X p) {j b : Nat} (hd : d1 = some ⟨b, 0, none⟩) (hj : j < x.spots.length) (c : Nat) (hc : c < 5) (v : Value) (s : Spot) (hv : ∀ i, i < 5 → spotCell s (A1 j) (C1 j) i = if i = c then v else spotCell (gp x.spots j) (A1 j) (C1 j) i) (hm : s.may = (gp x.spots j).may) (hs : s.name.size ≤ 1000) :
 FkAt W0 Rb a n cap f w Sb (X.setCell ⟨b, j * 5 + c, none⟩ v) p ⟨x.foes, x.spots.set j s, x.valves, x.parts, x.seen⟩ d0 d1 d2 d3 k0 k1 k2 k3 := by
 have g := h.tiny.s.2 _ (gp_mem hj)
 refine h.spot hd hj (Only.refl _ X) c hc v s (A1 j) (C1 j) hv (by rw [hm]; exact h.own.spots.may j hj) (by rw [hm]; exact h.own.spots.cap j hj) (fun q hq => ?_) (by rw [hm]; exact ⟨hs, g.2.1, g.2.2⟩)
 rw [hm] at hq
 exact ⟨(h.lo q (Or.inr (Or.inl (Or.inr ⟨j, hj, hq⟩)))).1, fun e => h.own.spots.apart j hj q hq (by rw [hd, e]; exact ⟨by omega, 0, rfl⟩)⟩
/-- A name is put behind what a spot may hold. -/
theorem SkAt.may (h : SkAt W0 Rb a n cap f w Sb x d0 d1 d2 d3 k0 k1 k2 k3 A1 C1 A2 C2 X p) {j b : Nat} (hd : d1 = some ⟨b, 0, none⟩) (hj : j < x.spots.length) {s : ByteArray} {d : Option Addr} {k : Nat} (ap : AppX 9 1 X X' (A1 j) (gp x.spots j).may.length 1 (strF (gp x.spots j).may) (fun _ _ => .string s) d k) (hs : s.size ≤ 1000) :
 FkAt W0 Rb a n cap f w Sb (X'.setCell ⟨b, j * 5 + 4, none⟩ (.slice d ((gp x.spots j).may.length + 1) k)) p ⟨x.foes, x.spots.set j ⟨(gp x.spots j).name, (gp x.spots j).cap, (gp x.spots j).least, (gp x.spots j).most, (gp x.spots j).may ++ [s]⟩, x.valves, x.parts, x.seen⟩ d0 d1 d2 d3 k0 k1 k2 k3 := by
 have g := h.tiny.s.2 _ (gp_mem hj)
 have g' := (h.tiny.spots.2 _ (gp_mem hj)).2.1
 have hlen : ((gp x.spots j).may ++ [s]).length = (gp x.spots j).may.length + 1 := by simp
 have ib : InSlot d1 x.spots.length b := ⟨by omega, 0, hd⟩
 have hb := h.own.spots.row.lt ib
 have hX := h.on.size
 refine h.spot hd hj ap.only 4 (by omega) _ ⟨(gp x.spots j).name, (gp x.spots j).cap, (gp x.spots j).least, (gp x.spots j).most, (gp x.spots j).may ++ [s]⟩ d k (fun i hi => ?_) ?_ (by rw [hlen]; exact ap.le) (fun q hq => ?_) ⟨g.1, by rw [hlen]; omega, fun t ht => ?_⟩
 · match i, hi with
   | 0, _ => rfl
   | 1, _ => rfl
   | 2, _ => rfl
   | 3, _ => rfl
   | 4, _ => show Value.slice d _ k = _; rw [hlen]; rfl
 · show OwnL X' _ 1 d ((gp x.spots j).may ++ [s]).length _
   rw [hlen]
   exact ap.own.congr (fun i hi e he => strF_snoc _ _ _ _ hi)
 · have hq' : InSlot d ((gp x.spots j).may.length + 1) q := hlen ▸ hq
   rcases ap.at_ q hq' with e | e
   · exact ⟨(h.lo q (Or.inr (Or.inl (Or.inr ⟨j, hj, e⟩)))).1, fun e' => h.own.spots.apart j hj q e (by rw [e']; exact ib)⟩
   · omega
 · rcases List.mem_append.1 ht with h' | h'
   · exact g.2.2 t h'
   · rw [List.mem_singleton.1 h']; exact hs
end

end Go.Proofs.YtfmhkicncgccjaaGreat

/- What l5Spoil answers: where its ways meet. -/
namespace Go.Proofs.YtfmhkicncgccjaaGreat
open Go.RowKit Go.Sort
set_option linter.unusedSimpArgs false
set_option linter.unusedVariables false

def foeA : List ByteArray := [{ data := #[97, 108, 101] }, { data := #[119, 97, 116, 101, 114] }, { data := #[] }]
theorem foeA_short : ∀ s ∈ foeA, s.size ≤ 100 := by decide
def foeB : List ByteArray := [{ data := #[97, 108, 101] }, { data := #[122, 122] }]
theorem foeB_short : ∀ s ∈ foeB, s.size ≤ 100 := by decide
def spotNames : List ByteArray := [{ data := #[] }, { data := #[75] }, { data := #[122, 122] }, { data := #[97] }]
theorem spotNames_short : ∀ s ∈ spotNames, s.size ≤ 100 := by decide
def mayNames : List ByteArray := [{ data := #[97, 108, 101] }, { data := #[108, 121, 101] }, { data := #[122, 122] }, { data := #[] }]
theorem mayNames_short : ∀ s ∈ mayNames, s.size ≤ 100 := by decide
theorem foe_row {W : World} {b : Nat} {u : Foe} (h : Row W b 70 [.string u.a, .string u.b]) : RowAt W (some ⟨b, 0, none⟩) 1 2 (foeF [u]) := by
 intro k hk
 have : k = 0 := by omega
 subst this
 refine ⟨b, 0, rfl, h.lt, fun j hj => ?_⟩
 match j, hj with
 | 0, _ => exact h.cell 0 rfl
 | 1, _ => exact h.cell 1 rfl
theorem OwnL.cell {X : World} {t : TypeId} {s b n : Nat} {g : Nat → Nat → Value} (h : OwnL X t s (some ⟨b, 0, none⟩) n g) {k : Nat} (c : Nat) (hk : k < n) (hc : c < s) : X.cell? ⟨b, k * s + c, none⟩ = some (g k c) ∧ X.frozen? ⟨b, k * s + c, none⟩ = false ∧ b < X.heap.size := by
 rcases h with h | ⟨b', l, e, hr, hl, hf⟩
 · omega
 · cases e
   exact ⟨hr.cell _ (hf k hk c hc), hr.frozen _, hr.lt⟩
theorem rowAt_first {W : World} {b : Nat} {p : Part} {A : Nat → Option Addr} {C : Nat → Nat} (h : Row W b 61 [.int .i64 p.want.number, .int .i64 p.want.kind, .slice (A 0) p.want.stuffs.length (C 0), .slice (A 1) p.want.uses.length (C 1), .slice (A 2) p.want.opens.length (C 2), .slice (A 3) p.want.shuts.length (C 3), .bool p.stopped]) : RowAt W (some ⟨b, 0, none⟩) 1 7 (fun _ => partCell p (fun f => A (f - 2)) (fun f => C (f - 2))) := by
 intro q hq
 have : q = 0 := by omega
 subst this
 refine ⟨b, 0, rfl, h.lt, fun j hj => ?_⟩
 match j, hj with
 | 0, _ => exact h.cell 0 rfl
 | 1, _ => exact h.cell 1 rfl
 | 2, _ => exact h.cell 2 rfl
 | 3, _ => exact h.cell 3 rfl
 | 4, _ => exact h.cell 4 rfl
 | 5, _ => exact h.cell 5 rfl
 | 6, _ => exact h.cell 6 rfl
theorem fk_alloc {W0 : World} {Rb : Nat} {a : Option Addr} {n cap : Nat} {f : Nat → Nat} {w : World} {Sb : Nat} {X : World} {p : Int} {x : Book} {d0 d1 d2 d3 : Option Addr} {k0 k1 k2 k3 : Nat} (h : FkAt W0 Rb a n cap f w Sb X p x d0 d1 d2 d3 k0 k1 k2 k3) (b : Obj) : FkAt W0 Rb a n cap f w Sb (X.alloc b) p x d0 d1 d2 d3 k0 k1 k2 k3 :=
 have hb : Below X.heap.size X (X.alloc b) := (Below.refl _ _).alloc (Nat.le_refl _) _
 ⟨h.row.later hb, h.rd.later hb, h.on.trans (Only.of hb), h.dr.later hb, h.small⟩
set_option maxRecDepth 100000 in
/-- Where the ways of l5Spoil meet. -/
abbrev SpR (W0 : World) (Rb : Nat) (a : Option Addr) (n cap : Nat) (f : Nat → Nat) (w : World) (p : Int) (x : Book) (af ap av aq : Option Addr) (cf cp cv cq : Nat) (W1 : World) (Sb : Nat) (v : Int) (a' : Act) (w' : World) : Prop :=
 ∃ u5 u6 u7 u8 u9 u10 u12 u13 u14 u15 u16 u17 u18 u19 u20 u21 u22 u23 u24 u25 u26 u27 u28 u29 u30 u31 u32 u33 u34 u35 u36 u37 u38 u39 u40 u41 u42 u43 u44 u45 u46 u47 u48 u49 u50 u51 u52 u53 u54 u55 u56 u57 u58 u59 u60 u61 u62 u63 u64 u65 u66 u67 u68 u69 u70 u71 u72 u73 u74 u75 u76 u77 u78 u79 u80 u81 u82 u83 u84 u85 u86 u87 u88 u89 u90 u91 u92 u93 u94 u95 u96 u97 u98 u99 u100 u101 u102 u103 u104 u105 u106 u107 u108 u109 u110 u111 u112 u113 u114 u115 u116 u117 u118 u119 u120 u121 u122 u123 u124 u125 u126 u127 u128 u129 u130 u131 u132 u133 u134 u135 u136 u137 u138 u139 u140 u141 u142 u143 u144 u145 u146 u147 u148 u149 u150 u151 u152 u153 u154 u155 u156 u157 u158 u159 u160 u161 u162 u163 u164 u165 : Value, (∃ (x' : Book) (e0 e1 e2 e3 : Option Addr) (g0 g1 g2 g3 : Nat) (p' : Int), u5 = .pointer (some ⟨Sb, 0, none⟩) ∧ FkAt W0 Rb a n cap f W1 Sb w' p' x' e0 e1 e2 e3 g0 g1 g2 g3 ∧ p ≤ p' ∧ p' ≤ p + 20) ∧ a' = ⟨#[.pointer (some ⟨Rb, 0, none⟩), .agg #[.slice af x.foes.length cf, .slice ap x.spots.length cp, .slice av x.valves.length cv, .slice aq x.parts.length cq, .int .i64 x.seen], undef, .pointer (some ⟨w.heap.size, 0, none⟩), .pointer (some ⟨w.heap.size + 1, 0, none⟩), u5, u6, u7, u8, u9, u10, .int .i64 v, u12, u13, u14, u15, u16, u17, u18, u19, u20, u21, u22, u23, u24, u25, u26, u27, u28, u29, u30, u31, u32, u33, u34, u35, u36, u37, u38, u39, u40, u41, u42, u43, u44, u45, u46, u47, u48, u49, u50, u51, u52, u53, u54, u55, u56, u57, u58, u59, u60, u61, u62, u63, u64, u65, u66, u67, u68, u69, u70, u71, u72, u73, u74, u75, u76, u77, u78, u79, u80, u81, u82, u83, u84, u85, u86, u87, u88, u89, u90, u91, u92, u93, u94, u95, u96, u97, u98, u99, u100, u101, u102, u103, u104, u105, u106, u107, u108, u109, u110, u111, u112, u113, u114, u115, u116, u117, u118, u119, u120, u121, u122, u123, u124, u125, u126, u127, u128, u129, u130, u131, u132, u133, u134, u135, u136, u137, u138, u139, u140, u141, u142, u143, u144, u145, u146, u147, u148, u149, u150, u151, u152, u153, u154, u155, u156, u157, u158, u159, u160, u161, u162, u163, u164, u165], []⟩

end Go.Proofs.YtfmhkicncgccjaaGreat

