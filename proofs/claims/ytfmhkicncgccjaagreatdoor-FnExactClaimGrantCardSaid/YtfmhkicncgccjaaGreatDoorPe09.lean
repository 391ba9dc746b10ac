/- Joined: GpE. -/
import Derived.Test.YtfmhkicncgccjaaGreatDoorPe07
import Derived.Test.YtfmhkicncgccjaaGreatDoorPe08
import Derived.Test.YtfmhkicncgccjaaGreatDoorPd12
/- What the specification's ClaimGrant answers. -/
namespace Go.Proofs.YtfmhkicncgccjaaGreatDoor
open Go.RowKit Go.Sort
set_option linter.unusedSimpArgs false
set_option linter.unusedVariables false

set_option maxRecDepth 100000 in
set_option maxHeartbeats 8000000 in
theorem specGrant_own (x : Book) (af ap av aq : Option Addr) (cf cp cv cq : Nat) (y : Want) (a2 a3 a4 a5 : Option Addr) (c2 c3 c4 c5 : Nat) (w : World) (hin : BookIn w x af ap av aq) (fx : BookFit x) (R : BookRoom x) (hiw : WantIn w y a2 a3 a4 a5) (fy : WantFit y) :
    Calls Tryz.prog 13 #[bookV x af ap av aq cf cp cv cq, wantW y a2 a3 a4 a5 c2 c3 c4 c5] w fun e w' => Gives w.heap.size (grantB x y) (codeC x y) e w' ∧ Below w.heap.size w w' := by
  unfold bookV wantW
  obtain ⟨W0, hW0⟩ : ∃ W, W = ((w.alloc (.cells #[.slice af x.foes.length cf, .slice ap x.spots.length cp, .slice av x.valves.length cv, .slice aq x.parts.length cq, .int .i64 x.seen] 38)).alloc (.cells #[.int .i64 y.number, .int .i64 y.kind, .slice a2 y.stuffs.length c2, .slice a3 y.uses.length c3, .slice a4 y.opens.length c4, .slice a5 y.shuts.length c5] 42)).alloc (.cells #[.slice none 0 0, .slice none 0 0, .slice none 0 0, .slice none 0 0, .int .i64 0] 38) := ⟨_, rfl⟩
  have b0 : Below w.heap.size w W0 := by rw [hW0]; exact (((Below.refl _ _).alloc (Nat.le_refl _) _).alloc (by simp) _).alloc (by simp; omega) _
  have i0 : Row W0 w.heap.size 38 [.slice af x.foes.length cf, .slice ap x.spots.length cp, .slice av x.valves.length cv, .slice aq x.parts.length cq, .int .i64 x.seen] := by rw [hW0]; exact ((Row.new _ _ _).alloc _).alloc _
  have n0 : Row W0 (w.heap.size + 1) 42 [.int .i64 y.number, .int .i64 y.kind, .slice a2 y.stuffs.length c2, .slice a3 y.uses.length c3, .slice a4 y.opens.length c4, .slice a5 y.shuts.length c5] := by
    rw [hW0]
    have := (Row.new (w.alloc (.cells #[.slice af x.foes.length cf, .slice ap x.spots.length cp, .slice av x.valves.length cv, .slice aq x.parts.length cq, .int .i64 x.seen] 38)) 42 [.int .i64 y.number, .int .i64 y.kind, .slice a2 y.stuffs.length c2, .slice a3 y.uses.length c3, .slice a4 y.opens.length c4, .slice a5 y.shuts.length c5]).alloc (.cells #[.slice none 0 0, .slice none 0 0, .slice none 0 0, .slice none 0 0, .int .i64 0] 38)
    simpa using this
  have z0 : Row W0 (w.heap.size + 1 + 1) 38 [.slice none 0 0, .slice none 0 0, .slice none 0 0, .slice none 0 0, .int .i64 0] := by
    rw [hW0]
    have := Row.new ((w.alloc (.cells #[.slice af x.foes.length cf, .slice ap x.spots.length cp, .slice av x.valves.length cv, .slice aq x.parts.length cq, .int .i64 x.seen] 38)).alloc (.cells #[.int .i64 y.number, .int .i64 y.kind, .slice a2 y.stuffs.length c2, .slice a3 y.uses.length c3, .slice a4 y.opens.length c4, .slice a5 y.shuts.length c5] 42)) 38 [.slice none 0 0, .slice none 0 0, .slice none 0 0, .slice none 0 0, .int .i64 0]
    simpa using this
  have sz0 : W0.heap.size = w.heap.size + 3 := by rw [hW0]; simp
  have hF : bookB x = false → codeC x y = 1 ∧ grantB x y = bookNil := fun h => ⟨by simp [codeC, h], by simp [grantB, h]⟩
  have hT : bookB x = true → (codeC x y ≠ 1 ∧ ((((2 ≤ codeC x y ∧ codeC x y ≤ 4) ∨ 0 ≤ partI x.parts y.number) ∧ codeC x y ≤ 4) ∨ (¬ ((2 ≤ codeC x y ∧ codeC x y ≤ 4) ∨ 0 ≤ partI x.parts y.number) ∧ ((codeC x y = 0 ∧ wantB y = true ∧ knowsB x y = true) ∨ 5 ≤ codeC x y))) ∧
      (((2 ≤ codeC x y ∧ codeC x y ≤ 4) ∨ 0 ≤ partI x.parts y.number) → grantB x y = x) ∧ (¬ ((2 ≤ codeC x y ∧ codeC x y ≤ 4) ∨ 0 ≤ partI x.parts y.number) → codeC x y = 0 → grantB x y = putAt (seenAt x y.number) y) ∧ (¬ ((2 ≤ codeC x y ∧ codeC x y ≤ 4) ∨ 0 ≤ partI x.parts y.number) → codeC x y ≠ 0 → grantB x y = seenAt x y.number)) := fun hB => by
    obtain ⟨hc1, hc0, hc11, hways⟩ := code_ways (y := y) hB
    refine ⟨hc1, hways, fun h => ?_, fun h h' => ?_, fun h h' => ?_⟩
    · unfold grantB; rw [hB, if_pos rfl, if_pos h]
    · unfold grantB; rw [hB, if_pos rfl, if_neg h, if_pos h']
    · unfold grantB; rw [hB, if_pos rfl, if_neg h, if_neg h']
  have hCode := specCode_any x af ap av aq cf cp cv cq y a2 a3 a4 a5 c2 c3 c4 c5 W0 (hin.later b0) (hiw.later b0) fx fy
  generalize codeC x y = code at hF hT hCode ⊢
  generalize grantB x y = res at hF hT ⊢
  go_enter Tryz.func13, Tryz.ntmps13
  go_wp2_with fail
  rw [← hW0]
  clear hW0
  refine hCode.mono ?_
  rintro e w1 ⟨rfl, hb⟩
  have b1 := b0.trans (hb.mono b0.size)
  have i1 := i0.later hb
  have n1 := n0.later hb
  have z1 := z0.later hb
  have sz1 : w.heap.size + 3 ≤ w1.heap.size := by have := hb.size; omega
  clear b0 i0 n0 z0 hb sz0 hCode
  have g0 := i1.cell 0 rfl
  have g1 := i1.cell 1 rfl
  have g2 := i1.cell 2 rfl
  have g3 := i1.cell 3 rfl
  have g4 := i1.cell 4 rfl
  cases hB : bookB x with
  | false =>
    obtain ⟨rfl, rfl⟩ := hF hB
    clear hF hT
    have r0 := z1.cell 0 rfl
    have r1 := z1.cell 1 rfl
    have r2 := z1.cell 2 rfl
    have r3 := z1.cell 3 rfl
    have r4 := z1.cell 4 rfl
    have l0 := z1.frozen 0
    have l1 := z1.frozen 1
    have l2 := z1.frozen 2
    have l3 := z1.frozen 3
    have l4 := z1.frozen 4
    go_wp2
    refine bodyPost_ret (v := .tuple #[.agg #[.slice none 0 0, .slice none 0 0, .slice none 0 0, .slice none 0 0, .int .i64 0], .int .i64 1])
      (by simp [results, Tryz.results13, go_sem, r0, r1, r2, r3, r4]) rfl ⟨?_, ?_⟩
    · exact ⟨none, none, none, none, 0, 0, 0, 0, _, _, _, _, rfl, ownBook_nil _, fun q hq => absurd hq inBk_nil⟩
    · exact ((((b1.setCell (by simp; omega) _).setCell (by simp; omega) _).setCell (by simp; omega) _).setCell (by simp; omega) _).setCell (by simp; omega) _
  | true =>
    have hc1 := (hT hB).1
    have HG : Hid _ := (hT hB).2
    clear hF hT
    have hne1b : (code == 1) = false := by simp [hc1]
    go_wp2_with fail
    refine (l2Copy_own x af ap av aq cf cp cv cq w1 (hin.later b1) R).mono ?_
    rintro e w2 ⟨⟨f0, f1, f2, f3, k0, k1, k2, k3, A1, C1, A2, C2, rfl, own, cap, hnil, lo⟩, hb⟩
    have b2 := b1.trans (hb.mono b1.size)
    have i2 := i1.later hb
    have n2 := n1.later hb
    have z2 := z1.later hb
    have sz2 : w.heap.size + 3 ≤ w2.heap.size := by have := hb.size; omega
    clear b1 i1 n1 z1 g0 g1 g2 g3 g4
    unfold bookV
    obtain ⟨W3, hW3⟩ : ∃ W, W = w2.alloc (.cells #[.slice f0 x.foes.length k0, .slice f1 x.spots.length k1, .slice f2 x.valves.length k2, .slice f3 x.parts.length k3, .int .i64 x.seen] 38) := ⟨_, rfl⟩
    have hb3 : Below w2.heap.size w2 W3 := by rw [hW3]; exact (Below.refl _ _).alloc (Nat.le_refl _) _
    have rx3 : Row W3 w2.heap.size 38 [.slice f0 x.foes.length k0, .slice f1 x.spots.length k1, .slice f2 x.valves.length k2, .slice f3 x.parts.length k3, .int .i64 x.seen] := by rw [hW3]; exact Row.new _ _ _
    have s3 : W3.heap.size = w2.heap.size + 1 := by rw [hW3]; simp
    have b3 := b2.trans (hb3.mono b2.size)
    have i3 := i2.later hb3
    have n3 := n2.later hb3
    have z3 := z2.later hb3
    have own3 := own.later hb3
    have cap3 := cap.later hb3
    have LO : Hid ((∀ q, InBk x f0 f1 f2 f3 A1 A2 q → w.heap.size + 3 ≤ q ∧ q < w2.heap.size) ∧ ∀ q, InAddr f3 q → q < w2.heap.size) := ⟨fun q hq => ⟨by have := lo q hq; omega, own.lt hq⟩, fun q hq => cap.lt hq⟩
    have LOB : Hid (∀ q, InAddr f3 q → w.heap.size + 3 ≤ q) := fun q hq => by
      by_cases h0 : x.parts.length = 0
      · rw [hnil h0] at hq; obtain ⟨_, h⟩ := hq; cases h
      · exact (LO.out.1 q (Or.inr (Or.inr (Or.inr (Or.inl ⟨h0, hq⟩))))).1
    clear b2 i2 n2 z2 hb hb3 own cap lo
    have g0 := i3.cell 0 rfl
    have g1 := i3.cell 1 rfl
    have g2 := i3.cell 2 rfl
    have g3 := i3.cell 3 rfl
    have g4 := i3.cell 4 rfl
    have m0 := n3.cell 0 rfl
    rw [hW3] at g0 g1 g2 g3 g4 m0
    go_wp2_with fail
    refine (l1In_any code 2 4 _).mono ?_
    rintro e w' ⟨rfl, rfl⟩
    have hne : w2.heap.size ≠ w.heap.size + 1 + 1 := by omega
    cases hI : inB code 2 4 with
    | true =>
      have hA : (2 ≤ code ∧ code ≤ 4) ∨ 0 ≤ partI x.parts y.number := Or.inl (by unfold inB at hI; simpa using hI)
      have HE : Hid (res = x) := HG.out.2.1 hA
      have h0 := rx3.cell 0 rfl
      have h1 := rx3.cell 1 rfl
      have h2 := rx3.cell 2 rfl
      have h3 := rx3.cell 3 rfl
      have h4 := rx3.cell 4 rfl
      have r0 := z3.cell 0 rfl
      have r1 := z3.cell 1 rfl
      have r2 := z3.cell 2 rfl
      have r3 := z3.cell 3 rfl
      have r4 := z3.cell 4 rfl
      have l0 := z3.frozen 0
      have l1 := z3.frozen 1
      have l2 := z3.frozen 2
      have l3 := z3.frozen 3
      have l4 := z3.frozen 4
      rw [hW3] at h0 h1 h2 h3 h4 r0 r1 r2 r3 r4 l0 l1 l2 l3 l4 own3 b3
      go_wp2
      refine bodyPost_ret (v := .tuple #[.agg #[.slice f0 x.foes.length k0, .slice f1 x.spots.length k1, .slice f2 x.valves.length k2, .slice f3 x.parts.length k3, .int .i64 x.seen], .int .i64 code])
        (by simp [results, Tryz.results13, go_sem, r0, r1, r2, r3, r4]) rfl ⟨?_, ?_⟩
      · rw [HE.out]
        have g : ∀ q, InBk x f0 f1 f2 f3 A1 A2 q → ¬ q = w.heap.size + 1 + 1 := fun q hq => by have := LO.out.1 q hq; omega
        exact ⟨f0, f1, f2, f3, k0, k1, k2, k3, A1, C1, A2, C2, rfl, ((((own3.only (Only.cell _ ⟨w.heap.size + 1 + 1, 0, none⟩ _) g).only (Only.cell _ ⟨w.heap.size + 1 + 1, 1, none⟩ _) g).only (Only.cell _ ⟨w.heap.size + 1 + 1, 2, none⟩ _) g).only (Only.cell _ ⟨w.heap.size + 1 + 1, 3, none⟩ _) g).only (Only.cell _ ⟨w.heap.size + 1 + 1, 4, none⟩ _) g, fun q hq => by have := LO.out.1 q hq; omega⟩
      · exact ((((b3.setCell (by simp; omega) _).setCell (by simp; omega) _).setCell (by simp; omega) _).setCell (by simp; omega) _).setCell (by simp; omega) _
    | false =>
      go_wp2_with fail
      rw [← hW3]
      clear hW3 g0 g1 g2 g3 g4 m0
      refine (l2Part_any x af ap av aq cf cp cv cq y.number W3 (hin.later b3).parts fx.parts.len).mono ?_
      rintro e w4 ⟨rfl, hb⟩
      have b4 := b3.trans (hb.mono b3.size)
      have n4 := n3.later hb
      have z4 := z3.later hb
      have rx4 := rx3.later hb
      have own4 := own3.later hb
      have cap4 := cap3.later hb
      have s4 : w2.heap.size < w4.heap.size := rx4.lt
      clear b3 i3 n3 z3 rx3 own3 cap3 hb s3
      rcases partI_cases x.parts y.number with ⟨hp, -⟩ | ⟨j, hj, hp, -⟩
      case inr =>
        have hA : (2 ≤ code ∧ code ≤ 4) ∨ 0 ≤ partI x.parts y.number := Or.inr (by omega)
        have HE : Hid (res = x) := HG.out.2.1 hA
        rw [hp]
        clear hp hA
        have hj0 : (0 : Int) ≤ j := by omega
        have h0 := rx4.cell 0 rfl
        have h1 := rx4.cell 1 rfl
        have h2 := rx4.cell 2 rfl
        have h3 := rx4.cell 3 rfl
        have h4 := rx4.cell 4 rfl
        have r0 := z4.cell 0 rfl
        have r1 := z4.cell 1 rfl
        have r2 := z4.cell 2 rfl
        have r3 := z4.cell 3 rfl
        have r4 := z4.cell 4 rfl
        have l0 := z4.frozen 0
        have l1 := z4.frozen 1
        have l2 := z4.frozen 2
        have l3 := z4.frozen 3
        have l4 := z4.frozen 4
        go_wp2
        refine bodyPost_ret (v := .tuple #[.agg #[.slice f0 x.foes.length k0, .slice f1 x.spots.length k1, .slice f2 x.valves.length k2, .slice f3 x.parts.length k3, .int .i64 x.seen], .int .i64 code])
          (by simp [results, Tryz.results13, go_sem, r0, r1, r2, r3, r4]) rfl ⟨?_, ?_⟩
        · rw [HE.out]
          have g : ∀ q, InBk x f0 f1 f2 f3 A1 A2 q → ¬ q = w.heap.size + 1 + 1 := fun q hq => by have := LO.out.1 q hq; omega
          exact ⟨f0, f1, f2, f3, k0, k1, k2, k3, A1, C1, A2, C2, rfl, ((((own4.only (Only.cell _ ⟨w.heap.size + 1 + 1, 0, none⟩ _) g).only (Only.cell _ ⟨w.heap.size + 1 + 1, 1, none⟩ _) g).only (Only.cell _ ⟨w.heap.size + 1 + 1, 2, none⟩ _) g).only (Only.cell _ ⟨w.heap.size + 1 + 1, 3, none⟩ _) g).only (Only.cell _ ⟨w.heap.size + 1 + 1, 4, none⟩ _) g, fun q hq => by have := LO.out.1 q hq; omega⟩
        · exact ((((b4.setCell (by simp; omega) _).setCell (by simp; omega) _).setCell (by simp; omega) _).setCell (by simp; omega) _).setCell (by simp; omega) _
      case inl =>
        have hnA : ¬ ((2 ≤ code ∧ code ≤ 4) ∨ 0 ≤ partI x.parts y.number) := by
          rintro (h | h)
          · unfold inB at hI; simp at hI; omega
          · omega
        rw [hp]
        clear hp
        have m0 := n4.cell 0 rfl
        have x0 := rx4.cell 0 rfl
        have x1 := rx4.cell 1 rfl
        have x2 := rx4.cell 2 rfl
        have x3 := rx4.cell 3 rfl
        have x4 := rx4.cell 4 rfl
        have m1 := n4.cell 1 rfl
        have m2 := n4.cell 2 rfl
        have m3 := n4.cell 3 rfl
        have m4 := n4.cell 4 rfl
        have m5 := n4.cell 5 rfl
        have x4f := rx4.frozen 4
        have hne1 : w2.heap.size ≠ w.heap.size + 1 := by omega
        have own5 := own4.only (Only.cell w4 ⟨w2.heap.size, 4, none⟩ (.int .i64 y.number)) (fun q hq e => by have := LO.out.1 q hq; simp only at e; omega)
        have cap5 := cap4.only (Only.cell w4 ⟨w2.heap.size, 4, none⟩ (.int .i64 y.number)) (fun q hq e => by have := LO.out.2 q hq; simp only at e; omega)
        have n5 := n4.other (a := ⟨w2.heap.size, 4, none⟩) (fun h => hne1 h.symm) (.int .i64 y.number)
        have z5 := z4.other (a := ⟨w2.heap.size, 4, none⟩) (fun h => hne h.symm) (.int .i64 y.number)
        have rx5 := rx4.set 4 (.int .i64 y.number)
        have b5 := b4.setCell (p := ⟨w2.heap.size, 4, none⟩) (by simp; omega) (.int .i64 y.number)
        have s5 : w2.heap.size < (w4.setCell ⟨w2.heap.size, 4, none⟩ (.int .i64 y.number)).heap.size := rx5.lt
        obtain ⟨w5, hw5⟩ : ∃ W, W = w4.setCell ⟨w2.heap.size, 4, none⟩ (.int .i64 y.number) := ⟨_, rfl⟩
        by_cases hz : code = 0
        · subst hz
          have hwk : wantB y = true ∧ knowsB x y = true := by
            rcases HG.out.1 with ⟨h, -⟩ | ⟨-, h | h⟩
            · exact absurd h hnA
            · exact h.2
            · omega
          have HE : Hid (res = putAt (seenAt x y.number) y) := HG.out.2.2.1 hnA rfl
          have HA : Hid _ := And.intro own5 (And.intro cap5 (And.intro n5 (And.intro z5 (And.intro rx5 (And.intro b5 s5)))))
          clear own5 cap5 n5 z5 rx5 b5 s5 own4 cap4
          go_wp2_with fail
          rw [← hw5]
          obtain ⟨own5, cap5, n5, z5, rx5, b5, s5⟩ := HA.out
          rw [← hw5] at own5 cap5 n5 z5 rx5 b5 s5
          clear HA hw5 x0 x1 x2 x3 x4 x4f m0 m1 m2 m3 m4 m5
          have hsm := bookB_small hB
          have hput := l3Put_own (seenAt x y.number) y f0 f1 f2 f3 k0 k1 k2 k3 A1 C1 A2 C2 a2 a3 a4 a5 c2 c3 c4 c5 (w.heap.size + 3) w5 (OwnBook.seen own5 _) cap5 (fun q hq => (LO.out.1 q hq).1) LOB.out (by omega) hnil w2.heap.size _ _ rx5 (fun h => by have := LO.out.1 _ h; omega) (fun X h => hiw.later (b5.trans (h.mono (by omega)))) hwk.1 hwk.2 (fun j hj => levels_of (x := x) hB j hj) hsm.2.1 hsm.2.2.2
          unfold bookV wantW at hput
          refine hput.mono ?_
          rintro e w6 ⟨⟨f3', k3', A', C', A2', C2', rfl, own6, lo6, rx6⟩, hb6⟩
          have b6 := b5.trans (hb6.mono (by omega))
          have z6 : Row w6 (w.heap.size + 1 + 1) 38 [.slice none 0 0, .slice none 0 0, .slice none 0 0, .slice none 0 0, .int .i64 0] := (hb6.block _ (by omega)).trans z5
          have s6 := rx6.lt
          have x0 := rx6.cell 0 rfl
          have x1 := rx6.cell 1 rfl
          have x2 := rx6.cell 2 rfl
          have x3 := rx6.cell 3 rfl
          have x4 := rx6.cell 4 rfl
          have y0 := rx6.frozen 0
          have y1 := rx6.frozen 1
          have y2 := rx6.frozen 2
          have y3 := rx6.frozen 3
          have y4 := rx6.frozen 4
          have hroom := putAt_room hB R hwk.1
          have OWN6 : Hid _ := And.intro own6 (And.intro lo6 (And.intro z6 (And.intro b6 hroom)))
          clear hput own6 lo6 rx6 hb6 own5 cap5 n5 z5 rx5 b5 s5 b6 z6 hroom
          generalize hbk0 : putAt (seenAt x y.number) y = bk0 at OWN6 HE ⊢
          go_wp2_with fail
          obtain ⟨own6, lo6, z6, b6, hroom⟩ := OWN6.out
          have g6 : ∀ q, InBk bk0 f0 f1 f2 f3' A' A2' q → ¬ q = w2.heap.size := fun q hq => (lo6 q hq).2
          have own7 := ((((own6.only (Only.cell w6 ⟨w2.heap.size, 0, none⟩ (.slice f0 bk0.foes.length k0)) g6).only (Only.cell _ ⟨w2.heap.size, 1, none⟩ (.slice f1 bk0.spots.length k1)) g6).only (Only.cell _ ⟨w2.heap.size, 2, none⟩ (.slice f2 bk0.valves.length k2)) g6).only (Only.cell _ ⟨w2.heap.size, 3, none⟩ (.slice f3' bk0.parts.length k3')) g6).only (Only.cell _ ⟨w2.heap.size, 4, none⟩ (.int .i64 bk0.seen)) g6
          have hr : ∀ i, ¬ w.heap.size + 1 + 1 = (⟨w2.heap.size, i, none⟩ : Addr).block := fun i => by simp; omega
          have z7 := ((((z6.other (hr 0) (.slice f0 bk0.foes.length k0)).other (hr 1) (.slice f1 bk0.spots.length k1)).other (hr 2) (.slice f2 bk0.valves.length k2)).other (hr 3) (.slice f3' bk0.parts.length k3')).other (hr 4) (.int .i64 bk0.seen)
          have b7 := ((((b6.setCell (p := ⟨w2.heap.size, 0, none⟩) (by simp; omega) (.slice f0 bk0.foes.length k0)).setCell (p := ⟨w2.heap.size, 1, none⟩) (by simp; omega) (.slice f1 bk0.spots.length k1)).setCell (p := ⟨w2.heap.size, 2, none⟩) (by simp; omega) (.slice f2 bk0.valves.length k2)).setCell (p := ⟨w2.heap.size, 3, none⟩) (by simp; omega) (.slice f3' bk0.parts.length k3')).setCell (p := ⟨w2.heap.size, 4, none⟩) (by simp; omega) (.int .i64 bk0.seen)
          obtain ⟨w7, hw7⟩ : ∃ W, W = ((((w6.setCell ⟨w2.heap.size, 0, none⟩ (.slice f0 bk0.foes.length k0)).setCell ⟨w2.heap.size, 1, none⟩ (.slice f1 bk0.spots.length k1)).setCell ⟨w2.heap.size, 2, none⟩ (.slice f2 bk0.valves.length k2)).setCell ⟨w2.heap.size, 3, none⟩ (.slice f3' bk0.parts.length k3')).setCell ⟨w2.heap.size, 4, none⟩ (.int .i64 bk0.seen) := ⟨_, rfl⟩
          have s7 : w.heap.size + 3 ≤ w7.heap.size := by rw [hw7]; simp only [Go.Deep.nblk_setCell]; omega
          rw [← hw7] at own7 z7 b7 ⊢
          clear hw7 x0 x1 x2 x3 x4 y0 y1 y2 y3 y4 own6 lo6 z6 b6 g6 OWN6 hbk0
          refine (l2Copy_own bk0 f0 f1 f2 f3' k0 k1 k2 k3' w7 own7.in_ hroom).mono ?_
          clear own7 hroom
          rintro e w8 ⟨⟨g0, g1, g2, g3, j0, j1, j2, j3, G1, J1, G2, J2, rfl, own8, -, -, lo8⟩, hb8⟩
          have b8 := b7.trans (hb8.mono b7.size)
          have z8 := z7.later hb8
          have s8 := hb8.size
          have LO8 : Hid (∀ q, InBk (bk0) g0 g1 g2 g3 G1 G2 q → w.heap.size + 3 ≤ q) := fun q hq => by have := lo8 q hq; omega
          clear hb8 lo8 z7 b7
          unfold bookV
          have r0 := z8.cell 0 rfl
          have r1 := z8.cell 1 rfl
          have r2 := z8.cell 2 rfl
          have r3 := z8.cell 3 rfl
          have r4 := z8.cell 4 rfl
          have l0 := z8.frozen 0
          have l1 := z8.frozen 1
          have l2 := z8.frozen 2
          have l3 := z8.frozen 3
          have l4 := z8.frozen 4
          have OWN : Hid _ := own8
          clear own8
          generalize hbk : (bk0) = bk at OWN LO8 HE ⊢
          clear hbk
          go_wp2
          refine bodyPost_ret (v := .tuple #[.agg #[.slice g0 bk.foes.length j0, .slice g1 bk.spots.length j1, .slice g2 bk.valves.length j2, .slice g3 bk.parts.length j3, .int .i64 bk.seen], .int .i64 0])
            (by simp [results, Tryz.results13, go_sem, r0, r1, r2, r3, r4]) rfl ⟨?_, ?_⟩
          · rw [HE.out]
            have g : ∀ q, InBk bk g0 g1 g2 g3 G1 G2 q → ¬ q = w.heap.size + 1 + 1 := fun q hq => by have := LO8.out q hq; omega
            exact ⟨g0, g1, g2, g3, j0, j1, j2, j3, G1, J1, G2, J2, rfl, ((((OWN.out.only (Only.cell _ ⟨w.heap.size + 1 + 1, 0, none⟩ _) g).only (Only.cell _ ⟨w.heap.size + 1 + 1, 1, none⟩ _) g).only (Only.cell _ ⟨w.heap.size + 1 + 1, 2, none⟩ _) g).only (Only.cell _ ⟨w.heap.size + 1 + 1, 3, none⟩ _) g).only (Only.cell _ ⟨w.heap.size + 1 + 1, 4, none⟩ _) g, fun q hq => by have := LO8.out q hq; omega⟩
          · exact ((((b8.setCell (by simp; omega) _).setCell (by simp; omega) _).setCell (by simp; omega) _).setCell (by simp; omega) _).setCell (by simp; omega) _
        · have hzb : (code == 0) = false := by simp [hz]
          have HE : Hid (res = seenAt x y.number) := HG.out.2.2.2 hnA hz
          have HA : Hid _ := And.intro own5 (And.intro cap5 (And.intro n5 (And.intro z5 (And.intro rx5 (And.intro b5 s5)))))
          clear own5 cap5 n5 z5 rx5 b5 s5 own4 cap4
          go_wp2_with fail
          rw [← hw5]
          obtain ⟨own5, cap5, n5, z7, rx5, b7, s5⟩ := HA.out
          rw [← hw5] at own5 z7 b7 s5
          clear HA hw5 x0 x1 x2 x3 x4 x4f m0 m1 m2 m3 m4 m5 cap5 n5 rx5
          have s7 : w.heap.size + 3 ≤ w5.heap.size := by omega
          refine (l2Copy_own (seenAt x y.number) f0 f1 f2 f3 k0 k1 k2 k3 w5 (OwnBook.seen own5 _).in_ (seenAt_room R _)).mono ?_
          clear own5
          rintro e w8 ⟨⟨g0, g1, g2, g3, j0, j1, j2, j3, G1, J1, G2, J2, rfl, own8, -, -, lo8⟩, hb8⟩
          have b8 := b7.trans (hb8.mono b7.size)
          have z8 := z7.later hb8
          have s8 := hb8.size
          have LO8 : Hid (∀ q, InBk (seenAt x y.number) g0 g1 g2 g3 G1 G2 q → w.heap.size + 3 ≤ q) := fun q hq => by have := lo8 q hq; omega
          clear hb8 lo8 z7 b7
          unfold bookV
          have r0 := z8.cell 0 rfl
          have r1 := z8.cell 1 rfl
          have r2 := z8.cell 2 rfl
          have r3 := z8.cell 3 rfl
          have r4 := z8.cell 4 rfl
          have l0 := z8.frozen 0
          have l1 := z8.frozen 1
          have l2 := z8.frozen 2
          have l3 := z8.frozen 3
          have l4 := z8.frozen 4
          have OWN : Hid _ := own8
          clear own8
          generalize hbk : (seenAt x y.number) = bk at OWN LO8 HE ⊢
          clear hbk
          go_wp2
          refine bodyPost_ret (v := .tuple #[.agg #[.slice g0 bk.foes.length j0, .slice g1 bk.spots.length j1, .slice g2 bk.valves.length j2, .slice g3 bk.parts.length j3, .int .i64 bk.seen], .int .i64 code])
            (by simp [results, Tryz.results13, go_sem, r0, r1, r2, r3, r4]) rfl ⟨?_, ?_⟩
          · rw [HE.out]
            have g : ∀ q, InBk bk g0 g1 g2 g3 G1 G2 q → ¬ q = w.heap.size + 1 + 1 := fun q hq => by have := LO8.out q hq; omega
            exact ⟨g0, g1, g2, g3, j0, j1, j2, j3, G1, J1, G2, J2, rfl, ((((OWN.out.only (Only.cell _ ⟨w.heap.size + 1 + 1, 0, none⟩ _) g).only (Only.cell _ ⟨w.heap.size + 1 + 1, 1, none⟩ _) g).only (Only.cell _ ⟨w.heap.size + 1 + 1, 2, none⟩ _) g).only (Only.cell _ ⟨w.heap.size + 1 + 1, 3, none⟩ _) g).only (Only.cell _ ⟨w.heap.size + 1 + 1, 4, none⟩ _) g, fun q hq => by have := LO8.out q hq; omega⟩
          · exact ((((b8.setCell (by simp; omega) _).setCell (by simp; omega) _).setCell (by simp; omega) _).setCell (by simp; omega) _).setCell (by simp; omega) _

end Go.Proofs.YtfmhkicncgccjaaGreatDoor
