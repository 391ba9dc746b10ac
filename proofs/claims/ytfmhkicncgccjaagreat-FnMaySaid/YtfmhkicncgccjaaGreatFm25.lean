/- Joined: OvC. -/
import Derived.Test.YtfmhkicncgccjaaGreatFm06
import Derived.Test.YtfmhkicncgccjaaGreatFm21
import Derived.Test.YtfmhkicncgccjaaGreatFm22
import Derived.Test.YtfmhkicncgccjaaGreatFm20
import Derived.Test.YtfmhkicncgccjaaGreatFm05
import Derived.Test.YtfmhkicncgccjaaGreatFm23
import Derived.Test.YtfmhkicncgccjaaGreatFm11
import Derived.Test.YtfmhkicncgccjaaGreatFm10
import Derived.Test.YtfmhkicncgccjaaGreatFm24
/- What the specification's ClaimOver answers. -/
namespace Go.Proofs.YtfmhkicncgccjaaGreat
open Go.RowKit Go.Sort
set_option linter.unusedSimpArgs false
set_option linter.unusedVariables false

/-- The parts without one, laid anew: their lists stay where they were. -/
theorem OwnParts.erase {w : World} {a : Option Addr} {ps : List Part} {A : Nat → Nat → Option Addr} {C : Nat → Nat → Nat} (h : OwnParts w a ps A C) {j : Nat} (hj : j < ps.length) {d : Option Addr}
 (o : OwnL w 61 7 d (j + (ps.length - (j + 1))) (behindF j (fun i => partCell (gq ps i) (fun f => A i (f - 2)) (fun f => C i (f - 2))) (fun i => partCell (gq ps (j + 1 + i)) (fun f => A (j + 1 + i) (f - 2)) (fun f => C (j + 1 + i) (f - 2))))) : PartsAt w d (ps.eraseIdx j) := by
 have hl : (ps.eraseIdx j).length = j + (ps.length - (j + 1)) := by rw [erase_length hj]; omega
 refine ⟨fun k f => A (if k < j then k else k + 1) (f - 2), fun k f => C (if k < j then k else k + 1) (f - 2), ?_, fun k hk => ?_⟩
 · rw [hl]
   intro k hk
   obtain ⟨b, o', e, hb, hc⟩ := o.rowAt k hk
   refine ⟨b, o', e, hb, fun c hc' => ?_⟩
   rw [hc c hc']
   dsimp only
   rw [gq_erase]
   by_cases h1 : k < j
   · rw [behindF_lt h1, if_pos h1, if_pos h1]
   · obtain ⟨q, rfl⟩ : ∃ q, k = j + q := ⟨k - j, by omega⟩
     rw [behindF_ge, if_neg h1, if_neg h1, show j + 1 + q = j + q + 1 by omega]
 · rw [hl] at hk
   rw [gq_erase]
   by_cases h1 : k < j
   · simp only [if_pos h1]
     have hk' : k < ps.length := by omega
     exact ⟨(h.list k hk' 0 (by omega)).rowAt, (h.list k hk' 1 (by omega)).rowAt, (h.list k hk' 2 (by omega)).rowAt, (h.list k hk' 3 (by omega)).rowAt⟩
   · simp only [if_neg h1]
     have hk' : k + 1 < ps.length := by omega
     exact ⟨(h.list (k + 1) hk' 0 (by omega)).rowAt, (h.list (k + 1) hk' 1 (by omega)).rowAt, (h.list (k + 1) hk' 2 (by omega)).rowAt, (h.list (k + 1) hk' 3 (by omega)).rowAt⟩
theorem overAt_room {x : Book} (R : BookRoom x) (j : Nat) (moved : Int) (done : Bool) : BookRoom (overAt x j moved done) := by
 refine ⟨R.foes, ?_, fun s hs' => ?_, R.valves, ?_, fun p hp => R.wants p (List.mem_of_mem_eraseIdx hp)⟩
 · show (upTo _ x.spots _ _).length ≤ _
   rw [upTo_length]; exact R.spots
 · obtain ⟨i, hi, rfl⟩ := mem_upTo hs'
   exact upTo_all (f := settleS (gq x.parts j).want.kind moved done) (ss := x.spots) (us := (gq x.parts j).want.uses) (R := fun _ _ s => s.may.length ≤ 1048576) (fun i hi => R.mays _ (gp_mem hi)) (fun _ _ _ _ h => h) (fun k i s hk h => by
    unfold settleS
    dsimp only
    split
    · simp
    · exact h) _ (Nat.le_refl _) i hi
 · show (x.parts.eraseIdx j).length ≤ _
   have := List.length_eraseIdx_le x.parts j
   have := R.parts
   omega

set_option maxRecDepth 100000 in
set_option maxHeartbeats 8000000 in
theorem specOver_own (x : Book) (af ap av aq : Option Addr) (cf cp cv cq : Nat) (n moved : Int) (done : Bool) (w : World) (hin : BookIn w x af ap av aq) (fx : BookFit x) (R : BookRoom x) :
 Calls Tryz.prog 147 #[bookV x af ap av aq cf cp cv cq, .int .i64 n, .int .i64 moved, .bool done] w fun e w' => Gives w.heap.size (overB x n moved done) (overC x n moved) e w' ∧ Below w.heap.size w w' := by
 unfold bookV
 obtain ⟨W0, hW0⟩ : ∃ W, W = (w.alloc (.cells #[.slice af x.foes.length cf, .slice ap x.spots.length cp, .slice av x.valves.length cv, .slice aq x.parts.length cq, .int .i64 x.seen] 28)).alloc (.cells #[.slice none 0 0, .slice none 0 0, .slice none 0 0, .slice none 0 0, .int .i64 0] 28) := ⟨_, rfl⟩
 have b0 : Below w.heap.size w W0 := by rw [hW0]; exact ((Below.refl _ _).alloc (Nat.le_refl _) _).alloc (by simp) _
 have i0 : Row W0 w.heap.size 28 [.slice af x.foes.length cf, .slice ap x.spots.length cp, .slice av x.valves.length cv, .slice aq x.parts.length cq, .int .i64 x.seen] := by rw [hW0]; exact (Row.new _ _ _).alloc _
 have z0 : Row W0 (w.heap.size + 1) 28 [.slice none 0 0, .slice none 0 0, .slice none 0 0, .slice none 0 0, .int .i64 0] := by
  rw [hW0]
  have := Row.new (w.alloc (.cells #[.slice af x.foes.length cf, .slice ap x.spots.length cp, .slice av x.valves.length cv, .slice aq x.parts.length cq, .int .i64 x.seen] 28)) 28 [.slice none 0 0, .slice none 0 0, .slice none 0 0, .slice none 0 0, .int .i64 0]
  simpa using this
 have sz0 : W0.heap.size = w.heap.size + 2 := by rw [hW0]; simp
 go_enter Tryz.func147, Tryz.ntmps147
 go_wp2_with fail
 rw [← hW0]
 clear hW0
 refine (specBookOk_any x af ap av aq cf cp cv cq W0 (hin.later b0) fx).mono ?_
 rintro e w1 ⟨rfl, hb⟩
 have b1 := b0.trans (hb.mono b0.size)
 have i1 := i0.later hb
 have z1 := z0.later hb
 have sz1 : w.heap.size + 2 ≤ w1.heap.size := by have := hb.size; omega
 clear b0 i0 z0 hb sz0
 have g0 := i1.cell 0 rfl
 have g1 := i1.cell 1 rfl
 have g2 := i1.cell 2 rfl
 have g3 := i1.cell 3 rfl
 have g4 := i1.cell 4 rfl
 cases hB : bookB x with
 | false =>
  have eB : overB x n moved done = bookNil := by simp [overB, hB]
  have eC : overC x n moved = 1 := by simp [overC, hB]
  have r0 := z1.cell 0 rfl
  have r1 := z1.cell 1 rfl
  have r2 := z1.cell 2 rfl
  have r3 := z1.cell 3 rfl
  have r4 := z1.cell 4 rfl
  have l0 := z1.frozen 0
  have l1 := z1.frozen 1
  have l2 := z1.frozen 2
  have l3 := z1.frozen 3
  have l4 := z1.frozen 4
  go_wp2
  refine bodyPost_ret (v := .tuple #[.agg #[.slice none 0 0, .slice none 0 0, .slice none 0 0, .slice none 0 0, .int .i64 0], .int .i64 1])
   (by simp [results, Tryz.results147, go_sem, r0, r1, r2, r3, r4]) rfl ⟨?_, ?_⟩
  · rw [eB, eC]
    exact ⟨none, none, none, none, 0, 0, 0, 0, _, _, _, _, rfl, ownBook_nil _, fun q hq => absurd hq inBk_nil⟩
  · exact ((((b1.setCell (by simp) _).setCell (by simp) _).setCell (by simp) _).setCell (by simp) _).setCell (by simp) _
 | true =>
  go_wp2_with fail
  refine (l2Copy_own x af ap av aq cf cp cv cq w1 (hin.later b1) R).mono ?_
  rintro e w2 ⟨⟨f0, f1, f2, f3, k0, k1, k2, k3, A1, C1, A2, C2, rfl, own, cap, -, lo⟩, hb⟩
  have HC3 : Hid (x.parts.length ≤ k3) := cap.le
  have b2 := b1.trans (hb.mono b1.size)
  have i2 := i1.later hb
  have z2 := z1.later hb
  have sz2 : w.heap.size + 2 ≤ w2.heap.size := by have := hb.size; omega
  clear b1 i1 z1 g0 g1 g2 g3 g4
  unfold bookV
  obtain ⟨W3, hW3⟩ : ∃ W, W = w2.alloc (.cells #[.slice f0 x.foes.length k0, .slice f1 x.spots.length k1, .slice f2 x.valves.length k2, .slice f3 x.parts.length k3, .int .i64 x.seen] 28) := ⟨_, rfl⟩
  have hb3 : Below w2.heap.size w2 W3 := by rw [hW3]; exact (Below.refl _ _).alloc (Nat.le_refl _) _
  have rx3 : Row W3 w2.heap.size 28 [.slice f0 x.foes.length k0, .slice f1 x.spots.length k1, .slice f2 x.valves.length k2, .slice f3 x.parts.length k3, .int .i64 x.seen] := by rw [hW3]; exact Row.new _ _ _
  have b3 := b2.trans (hb3.mono b2.size)
  have i3 := i2.later hb3
  have z3 := z2.later hb3
  have own3 := own.later hb3
  have LO : Hid (∀ q, InBk x f0 f1 f2 f3 A1 A2 q → w.heap.size + 2 ≤ q ∧ q < w2.heap.size) := fun q hq => ⟨by have := lo q hq; omega, own.lt hq⟩
  clear b2 i2 z2 hb hb3 own lo
  have g0 := i3.cell 0 rfl
  have g1 := i3.cell 1 rfl
  have g2 := i3.cell 2 rfl
  have g3 := i3.cell 3 rfl
  have g4 := i3.cell 4 rfl
  rw [hW3] at g0 g1 g2 g3 g4
  go_wp2_with fail
  rw [← hW3]
  clear hW3 g0 g1 g2 g3 g4
  refine (l2Part_any x af ap av aq cf cp cv cq n W3 (hin.later b3).parts fx.parts.1).mono ?_
  rintro e w4 ⟨rfl, hb⟩
  have b4 := b3.trans (hb.mono b3.size)
  have i4 := i3.later hb
  have z4 := z3.later hb
  have rx4 := rx3.later hb
  have own4 := own3.later hb
  have s4 := rx4.lt
  clear b3 i3 z3 rx3 own3 hb
  have hne : w2.heap.size ≠ w.heap.size + 1 := by omega
  rcases partI_cases x.parts n with ⟨hp, -⟩ | ⟨j, hj, hp, -⟩
  · have HE : Hid (overB x n moved done = x ∧ overC x n moved = 3) := ⟨by simp [overB, overC, hB, hp], by simp [overC, hB, hp]⟩
    rw [hp]
    clear hp
    have h0 := rx4.cell 0 rfl
    have h1 := rx4.cell 1 rfl
    have h2 := rx4.cell 2 rfl
    have h3 := rx4.cell 3 rfl
    have h4 := rx4.cell 4 rfl
    have r0 := z4.cell 0 rfl
    have r1 := z4.cell 1 rfl
    have r2 := z4.cell 2 rfl
    have r3 := z4.cell 3 rfl
    have r4 := z4.cell 4 rfl
    have l0 := z4.frozen 0
    have l1 := z4.frozen 1
    have l2 := z4.frozen 2
    have l3 := z4.frozen 3
    have l4 := z4.frozen 4
    go_wp2
    refine bodyPost_ret (v := .tuple #[.agg #[.slice f0 x.foes.length k0, .slice f1 x.spots.length k1, .slice f2 x.valves.length k2, .slice f3 x.parts.length k3, .int .i64 x.seen], .int .i64 3])
     (by simp [results, Tryz.results147, go_sem, r0, r1, r2, r3, r4]) rfl ⟨?_, ?_⟩
    · rw [HE.out.1, HE.out.2]
      have g : ∀ q, InBk x f0 f1 f2 f3 A1 A2 q → ¬ q = w.heap.size + 1 := fun q hq => by have := LO.out q hq; omega
      exact ⟨f0, f1, f2, f3, k0, k1, k2, k3, A1, C1, A2, C2, rfl, ((((own4.only (Only.cell _ ⟨w.heap.size + 1, 0, none⟩ _) g).only (Only.cell _ ⟨w.heap.size + 1, 1, none⟩ _) g).only (Only.cell _ ⟨w.heap.size + 1, 2, none⟩ _) g).only (Only.cell _ ⟨w.heap.size + 1, 3, none⟩ _) g).only (Only.cell _ ⟨w.heap.size + 1, 4, none⟩ _) g, fun q hq => by have := LO.out q hq; omega⟩
    · exact ((((b4.setCell (by simp) _).setCell (by simp) _).setCell (by simp) _).setCell (by simp) _).setCell (by simp) _
  · have hC : overC x n moved = if movedB (gq x.parts j).want moved then (if (gq x.parts j).stopped then 0 else 12) else 2 := by unfold overC; rw [hB, if_pos rfl, hp, if_pos (by omega), Int.toNat_natCast]
    have hO : overB x n moved done = if overC x n moved = 0 then overAt x j moved done else x := by unfold overB; rw [hB, if_pos rfl, hp, Int.toNat_natCast]
    rw [hp]
    clear hp
    have hj2 : (j : Int) < x.parts.length := by omega
    have hj0 : (0 : Int) ≤ j := by omega
    have hj1 : ¬ (j : Int) < 0 := by omega
    obtain ⟨M, D, hpr, hpm⟩ := hin.parts
    obtain ⟨bq, oq, haq, hbq, hcq⟩ := (hpr.later b4) j hj
    subst haq
    have t0 := hcq 0 (by omega)
    have t1 := hcq 1 (by omega)
    have t2 := hcq 2 (by omega)
    have t3 := hcq 3 (by omega)
    have t4 := hcq 4 (by omega)
    have t5 := hcq 5 (by omega)
    have t6 := hcq 6 (by omega)
    simp only [partCell, Nat.add_zero] at t0 t1 t2 t3 t4 t5 t6
    have hpj0 := hpm j hj
    have hpj := hpj0.later b4
    clear hcq hpr hpm
    have g3 := i4.cell 3 rfl
    have hmv := l4Moved_any (gq x.parts j).want (M j 2) (M j 3) (M j 4) (M j 5) (D j 2) (D j 3) (D j 4) (D j 5) moved
    obtain ⟨W5, hW5⟩ : ∃ W, W = w4.alloc (.cells #[.int .i64 (gq x.parts j).want.number, .int .i64 (gq x.parts j).want.kind, .slice (M j 2) (gq x.parts j).want.stuffs.length (D j 2), .slice (M j 3) (gq x.parts j).want.uses.length (D j 3), .slice (M j 4) (gq x.parts j).want.opens.length (D j 4), .slice (M j 5) (gq x.parts j).want.shuts.length (D j 5)] 38) := ⟨_, rfl⟩
    have hb5 : Below w4.heap.size w4 W5 := by rw [hW5]; exact (Below.refl _ _).alloc (Nat.le_refl _) _
    have wq5 : Row W5 w4.heap.size 38 [.int .i64 (gq x.parts j).want.number, .int .i64 (gq x.parts j).want.kind, .slice (M j 2) (gq x.parts j).want.stuffs.length (D j 2), .slice (M j 3) (gq x.parts j).want.uses.length (D j 3), .slice (M j 4) (gq x.parts j).want.opens.length (D j 4), .slice (M j 5) (gq x.parts j).want.shuts.length (D j 5)] := by rw [hW5]; exact Row.new _ _ _
    have hmv := hmv W5 (hpj.later hb5).uses (fx.parts.2 _ (gq_mem hj)).usesLen
    unfold wantW at hmv
    go_wp2_with fail
    rw [← hW5]
    clear hW5
    refine hmv.mono ?_
    rintro e w6 ⟨rfl, hb6⟩
    have hb46 := hb5.trans (hb6.mono hb5.size)
    have b6 := b4.trans (hb46.mono b4.size)
    have i6 := i4.later hb46
    have z6 := z4.later hb46
    have rx6 := rx4.later hb46
    have own6 := own4.later hb46
    have wq6 := wq5.later hb6
    have hpj6 := hpj.later hb46
    have t6' := cell_later hb46 t6
    have s6 := wq6.lt
    clear hmv hb5 hb6 wq5 b4 i4 z4 rx4 own4 hpj t0 t1 t2 t3 t4 t5 t6 g3 hbq
    have g3 := i6.cell 3 rfl
    cases hM : movedB (gq x.parts j).want moved with
    | false =>
     have HE : Hid (overB x n moved done = x ∧ overC x n moved = 2) := by
      have e : overC x n moved = 2 := by rw [hC, hM]; rfl
      exact ⟨by rw [hO, e]; rfl, e⟩
     clear hC hO
     have h0 := rx6.cell 0 rfl
     have h1 := rx6.cell 1 rfl
     have h2 := rx6.cell 2 rfl
     have h3 := rx6.cell 3 rfl
     have h4 := rx6.cell 4 rfl
     have r0 := z6.cell 0 rfl
     have r1 := z6.cell 1 rfl
     have r2 := z6.cell 2 rfl
     have r3 := z6.cell 3 rfl
     have r4 := z6.cell 4 rfl
     have l0 := z6.frozen 0
     have l1 := z6.frozen 1
     have l2 := z6.frozen 2
     have l3 := z6.frozen 3
     have l4 := z6.frozen 4
     go_wp2
     refine bodyPost_ret (v := .tuple #[.agg #[.slice f0 x.foes.length k0, .slice f1 x.spots.length k1, .slice f2 x.valves.length k2, .slice f3 x.parts.length k3, .int .i64 x.seen], .int .i64 2])
      (by simp [results, Tryz.results147, go_sem, r0, r1, r2, r3, r4]) rfl ⟨?_, ?_⟩
     · rw [HE.out.1, HE.out.2]
       have g : ∀ q, InBk x f0 f1 f2 f3 A1 A2 q → ¬ q = w.heap.size + 1 := fun q hq => by have := LO.out q hq; omega
       exact ⟨f0, f1, f2, f3, k0, k1, k2, k3, A1, C1, A2, C2, rfl, ((((own6.only (Only.cell _ ⟨w.heap.size + 1, 0, none⟩ _) g).only (Only.cell _ ⟨w.heap.size + 1, 1, none⟩ _) g).only (Only.cell _ ⟨w.heap.size + 1, 2, none⟩ _) g).only (Only.cell _ ⟨w.heap.size + 1, 3, none⟩ _) g).only (Only.cell _ ⟨w.heap.size + 1, 4, none⟩ _) g, fun q hq => by have := LO.out q hq; omega⟩
     · exact ((((b6.setCell (by simp) _).setCell (by simp) _).setCell (by simp) _).setCell (by simp) _).setCell (by simp) _
    | true =>
    cases hSt : (gq x.parts j).stopped with
    | false =>
     have HE : Hid (overB x n moved done = x ∧ overC x n moved = 12) := by
      have e : overC x n moved = 12 := by rw [hC, hM, hSt]; rfl
      exact ⟨by rw [hO, e]; rfl, e⟩
     rw [hSt] at t6'
     clear hC hO
     have h0 := rx6.cell 0 rfl
     have h1 := rx6.cell 1 rfl
     have h2 := rx6.cell 2 rfl
     have h3 := rx6.cell 3 rfl
     have h4 := rx6.cell 4 rfl
     have r0 := z6.cell 0 rfl
     have r1 := z6.cell 1 rfl
     have r2 := z6.cell 2 rfl
     have r3 := z6.cell 3 rfl
     have r4 := z6.cell 4 rfl
     have l0 := z6.frozen 0
     have l1 := z6.frozen 1
     have l2 := z6.frozen 2
     have l3 := z6.frozen 3
     have l4 := z6.frozen 4
     go_wp2
     refine bodyPost_ret (v := .tuple #[.agg #[.slice f0 x.foes.length k0, .slice f1 x.spots.length k1, .slice f2 x.valves.length k2, .slice f3 x.parts.length k3, .int .i64 x.seen], .int .i64 12])
      (by simp [results, Tryz.results147, go_sem, r0, r1, r2, r3, r4]) rfl ⟨?_, ?_⟩
     · rw [HE.out.1, HE.out.2]
       have g : ∀ q, InBk x f0 f1 f2 f3 A1 A2 q → ¬ q = w.heap.size + 1 := fun q hq => by have := LO.out q hq; omega
       exact ⟨f0, f1, f2, f3, k0, k1, k2, k3, A1, C1, A2, C2, rfl, ((((own6.only (Only.cell _ ⟨w.heap.size + 1, 0, none⟩ _) g).only (Only.cell _ ⟨w.heap.size + 1, 1, none⟩ _) g).only (Only.cell _ ⟨w.heap.size + 1, 2, none⟩ _) g).only (Only.cell _ ⟨w.heap.size + 1, 3, none⟩ _) g).only (Only.cell _ ⟨w.heap.size + 1, 4, none⟩ _) g, fun q hq => by have := LO.out q hq; omega⟩
     · exact ((((b6.setCell (by simp) _).setCell (by simp) _).setCell (by simp) _).setCell (by simp) _).setCell (by simp) _
    | true =>
     have HE : Hid (overB x n moved done = overAt x j moved done ∧ overC x n moved = 0) := by
      have e : overC x n moved = 0 := by rw [hC, hM, hSt]; rfl
      exact ⟨by rw [hO, e]; rfl, e⟩
     rw [hSt] at t6'
     clear hC hO
     have q3 := wq6.cell 3 rfl
     go_wp2_with fail
     have hpo : wantB (gq x.parts j).want = true ∧ knowsB x (gq x.parts j).want = true := by
      have hb := hB
      unfold bookB at hb
      simp only [Bool.and_eq_true] at hb
      have h6 := hb.2
      unfold partsOkB at h6
      rw [Bool.and_eq_true] at h6
      have := partAt_ok (allTo_iff.1 h6.2 j hj)
      unfold partOkB at this
      simp only [Bool.and_eq_true] at this
      exact ⟨this.1.1.1, this.1.2⟩
     have hs8 := (bookB_small hB).2.1
     have hu8 := (wantB_small hpo.1).2.1
     have hv0 := movedB_pos hM
     have hlvs := upTo_all (f := settleS (gq x.parts j).want.kind moved done) (ss := x.spots) (us := (gq x.parts j).want.uses) (R := fun k _ s => Lv (1000 + 1000 * k) s) (fun i hi => by simpa using (levels_of hB i hi).1) (fun k _ s _ h => by unfold Lv at h ⊢; omega) (fun k _ s hk h => by
      have := settle_lv (kind := (gq x.parts j).want.kind) (done := done) h hv0 (movedB_at hM hk) (wantB_amount hpo.1 hk).2
      have e : (1000 : Int) + 1000 * k + 1000 = 1000 + 1000 * ((k + 1 : Nat) : Int) := by omega
      rwa [e] at this)
     have HP : Hid _ := And.intro hpo hM
     clear hM t6' g3
     go_loopw [13] (fun i wr => ∃ (k : Nat) (A : Nat → Option Addr) (C : Nat → Nat) (X : World), X = wr ∧ k ≤ (gq x.parts j).want.uses.length ∧ i = .int .i64 k ∧ Below w.heap.size w X ∧ w6.heap.size ≤ X.heap.size ∧ Row X w.heap.size 28 [.slice af x.foes.length cf, .slice ap x.spots.length cp, .slice av x.valves.length cv, .slice (some ⟨bq, oq, none⟩) x.parts.length cq, .int .i64 x.seen] ∧ Row X (w.heap.size + 1) 28 [.slice none 0 0, .slice none 0 0, .slice none 0 0, .slice none 0 0, .int .i64 0] ∧ Row X w2.heap.size 28 [.slice f0 x.foes.length k0, .slice f1 x.spots.length k1, .slice f2 x.valves.length k2, .slice f3 x.parts.length k3, .int .i64 x.seen] ∧ Row X w4.heap.size 38 [.int .i64 (gq x.parts j).want.number, .int .i64 (gq x.parts j).want.kind, .slice (M j 2) (gq x.parts j).want.stuffs.length (D j 2), .slice (M j 3) (gq x.parts j).want.uses.length (D j 3), .slice (M j 4) (gq x.parts j).want.opens.length (D j 4), .slice (M j 5) (gq x.parts j).want.shuts.length (D j 5)] ∧ OwnBook X ⟨x.foes, upTo (settleS (gq x.parts j).want.kind moved done) x.spots (gq x.parts j).want.uses k, x.valves, x.parts, x.seen⟩ f0 f1 f2 f3 A C A2 C2 ∧ (∀ q, InBk ⟨x.foes, upTo (settleS (gq x.parts j).want.kind moved done) x.spots (gq x.parts j).want.uses k, x.valves, x.parts, x.seen⟩ f0 f1 f2 f3 A A2 q → InBk x f0 f1 f2 f3 A1 A2 q)) (fun i _ => (gq x.parts j).want.uses.length - (intOf i).toNat)
     case atStart => exact ⟨0, A1, C1, _, rfl, Nat.zero_le _, rfl, b6, Nat.le_refl _, i6, z6, rx6, wq6, own6, fun q hq => hq⟩
     case round =>
      obtain ⟨k, A, C, X, rfl, hk, rfl, bX, sX, iX, zX, xX, wX, own, sub⟩ := hrel
      clear b6 i6 z6 rx6 wq6 own6 q3
      have q3 := wX.cell 3 rfl
      by_cases hlt : k < (gq x.parts j).want.uses.length
      · obtain ⟨bu, ou, ha, hbu, hc0, hc1, hc2⟩ := ((hpj0.later bX).uses).at hlt
        have hlt2 : (k : Int) < (gq x.parts j).want.uses.length := by omega
        have hk0 : (0 : Int) ≤ k := by omega
        obtain ⟨jj, hjj, hji⟩ := knowsB_spot HP.out.1.2 hlt
        have hul' := upTo_length (settleS (gq x.parts j).want.kind moved done) x.spots (gq x.parts j).want.uses k
        have hlv := hlvs k (by omega) jj hjj
        have HUP : Hid (upTo (settleS (gq x.parts j).want.kind moved done) x.spots (gq x.parts j).want.uses (k + 1) = (upTo (settleS (gq x.parts j).want.kind moved done) x.spots (gq x.parts j).want.uses k).set jj (settleS (gq x.parts j).want.kind moved done (gp (upTo (settleS (gq x.parts j).want.kind moved done) x.spots (gq x.parts j).want.uses k) jj) (gu (gq x.parts j).want.uses k))) := (by
         conv => lhs; unfold upTo
         rw [hji]
         rfl : _ = _)
        have hum := movedB_at HP.out.2 hlt
        have ham := wantB_amount HP.out.1.1 hlt
        generalize upTo (settleS (gq x.parts j).want.kind moved done) x.spots (gq x.parts j).want.uses k = cur at own sub hul' hlv HUP
        obtain ⟨b1, rfl⟩ := own.spots.row.some_of (by dsimp only; omega)
        have hjc : jj < cur.length := by omega
        have hb1 := LO.out b1 (Or.inr (Or.inl (Or.inl ⟨by omega, 0, rfl⟩)))
        have y0 := iX.cell 0 rfl
        have y1 := iX.cell 1 rfl
        have y2 := iX.cell 2 rfl
        have y3 := iX.cell 3 rfl
        have y4 := iX.cell 4 rfl
        rw [ha] at q3 wX
        have HAU : Hid (M j 3 = some ⟨bu, ou, none⟩) := ha
        clear ha
        have hS : ∀ W, Below X.heap.size X W → (W.cell? ⟨w.heap.size, 0, none⟩ = some (.slice af x.foes.length cf) ∧ W.cell? ⟨w.heap.size, 1, none⟩ = some (.slice ap x.spots.length cp) ∧ W.cell? ⟨w.heap.size, 2, none⟩ = some (.slice av x.valves.length cv) ∧ W.cell? ⟨w.heap.size, 3, none⟩ = some (.slice (some ⟨bq, oq, none⟩) x.parts.length cq) ∧ W.cell? ⟨w.heap.size, 4, none⟩ = some (.int .i64 x.seen) ∧ W.cell? ⟨w4.heap.size, 3, none⟩ = some (.slice (some ⟨bu, ou, none⟩) (gq x.parts j).want.uses.length (D j 3)) ∧ W.cell? ⟨bu, ou + k * 3, none⟩ = some (.string (gu (gq x.parts j).want.uses k).name)) := fun W h => ⟨cell_later h y0, cell_later h y1, cell_later h y2, cell_later h y3, cell_later h y4, cell_later h q3, cell_later h hc0⟩
        have hS0 := hS X.drew (Below.drew (Below.refl _ _))
        have hspot : ∀ W, Below X.heap.size X W → Calls Tryz.prog 130 #[.agg #[.slice af x.foes.length cf, .slice ap x.spots.length cp, .slice av x.valves.length cv, .slice (some ⟨bq, oq, none⟩) x.parts.length cq, .int .i64 x.seen], .string (gu (gq x.parts j).want.uses k).name] W fun e w' => e = .returned (.int .i64 jj) ∧ Below W.heap.size W w' := fun W h => by
         have := l2Spot_any x af ap av (some ⟨bq, oq, none⟩) cf cp cv cq (gu (gq x.parts j).want.uses k).name W ((hin.later bX).later h).spots fx.spots.len
         rw [hji] at this
         exact this
        go_wp2_with fail
        refine wp_region_E (fun W => W.cell? ⟨w.heap.size, 0, none⟩ = some (.slice af x.foes.length cf) ∧ W.cell? ⟨w.heap.size, 1, none⟩ = some (.slice ap x.spots.length cp) ∧ W.cell? ⟨w.heap.size, 2, none⟩ = some (.slice av x.valves.length cv) ∧ W.cell? ⟨w.heap.size, 3, none⟩ = some (.slice (some ⟨bq, oq, none⟩) x.parts.length cq) ∧ W.cell? ⟨w.heap.size, 4, none⟩ = some (.int .i64 x.seen) ∧ W.cell? ⟨w4.heap.size, 3, none⟩ = some (.slice (some ⟨bu, ou, none⟩) (gq x.parts j).want.uses.length (D j 3)) ∧ W.cell? ⟨bu, ou + k * 3, none⟩ = some (.string (gu (gq x.parts j).want.uses k).name)) 8 (by kernel_rfl) ?_
        refine tk 0 ?vaa0 rfl (by kernel_rfl) (fun _ _ _ h => h) (by rfl) hS0 ?yaa0 ?raa0
        case yaa0 => intro w' h; (try dsimp only at h); go_simp; (try with_reducible rfl)
        try simp only [Act.put, sA, sB, sC]
        refine tk 1 ?vaa1 rfl (by kernel_rfl) (fun _ _ _ h => h) (by rfl) hS0 ?yaa1 ?raa1
        case yaa1 => intro w' h; (try dsimp only at h); go_simp; (try with_reducible rfl)
        try simp only [Act.put, sA, sB, sC]
        refine tk 2 ?vaa2 rfl (by kernel_rfl) (fun _ _ _ h => h) (by rfl) hS0 ?yaa2 ?raa2
        case yaa2 => intro w' h; (try dsimp only at h); go_simp; (try with_reducible rfl)
        try simp only [Act.put, sA, sB, sC]
        refine tk 3 ?vaa3 rfl (by kernel_rfl) (fun _ _ _ h => h) (by rfl) hS0 ?yaa3 ?raa3
        case yaa3 => intro w' h; (try dsimp only at h); go_simp; (try with_reducible rfl)
        try simp only [Act.put, sA, sB, sC]
        refine tk 4 ?vaa4 rfl (by kernel_rfl) (fun _ _ _ h => h) (by rfl) hS0 ?yaa4 ?raa4
        case yaa4 => intro w' h; (try dsimp only at h); go_simp; (try with_reducible rfl)
        try simp only [Act.put, sA, sB, sC]
        refine tk 5 ?vaa5 rfl (by kernel_rfl) (fun _ _ _ h => h) (by rfl) hS0 ?yaa5 ?raa5
        case yaa5 => intro w' h; (try dsimp only at h); go_simp; (try with_reducible rfl)
        try simp only [Act.put, sA, sB, sC]
        refine tk 6 ?vaa6 rfl (by kernel_rfl) (fun _ _ _ h => h) (by rfl) hS0 ?yaa6 ?raa6
        case yaa6 => intro w' h; (try dsimp only at h); go_simp; (try with_reducible rfl)
        try simp only [Act.put, sA, sB, sC]
        refine wpAnyE_oneC (i := 7) rfl (by kernel_rfl) ?_
        intro K hK
        rw [if_pos (by rfl)]
        go_wp2_with (go_at_call 130; refine (hspot _ (Below.drew (Below.refl _ _))).mono ?_; rintro e X2 ⟨rfl, hb2'⟩)
        have hb2 : Below X.heap.size X X2 := (Below.drew (Below.refl _ _)).trans hb2'
        refine hK.out _ _ (fun _ => hS X2 hb2) ?_
        clear hK K
        try simp only [Act.put, sA, sB, sC]
        refine wpAnyE_oneC (i := 8) rfl (by kernel_rfl) ?_
        intro K hK
        rw [if_pos (by rfl)]
        go_wp2_with fail
        refine hK.out _ _ (fun h => absurd rfl h) ?_
        clear hK K
        try simp only [Act.put, sA, sB, sC]
        refine wpAnyE_done (by kernel_rfl) ?_ _
        have bX2 := bX.trans (hb2.mono bX.size)
        have iX2 := iX.later hb2
        have zX2 := zX.later hb2
        have xX2 := xX.later hb2
        have wX2 := wX.later hb2
        have own2 := own.later hb2
        have p0 := cell_later hb2 hc0
        have p1 := cell_later hb2 hc1
        have p2 := cell_later hb2 hc2
        have s2 := hb2.size
        clear hS hS0 hspot hb2' hb2 iX zX xX wX own hc0 hc1 hc2 y0 y1 y2 y3 y4 q3
        have hj2' : (jj : Int) < x.spots.length := by omega
        have hj0' : (0 : Int) ≤ jj := by omega
        obtain ⟨t0, t0f, -⟩ := own2.spots.row.cellAt hjc (by omega : 0 < 5)
        obtain ⟨t1, t1f, -⟩ := own2.spots.row.cellAt hjc (by omega : 1 < 5)
        obtain ⟨t2, t2f, -⟩ := own2.spots.row.cellAt hjc (by omega : 2 < 5)
        obtain ⟨t3, t3f, -⟩ := own2.spots.row.cellAt hjc (by omega : 3 < 5)
        obtain ⟨t4, t4f, -⟩ := own2.spots.row.cellAt hjc (by omega : 4 < 5)
        have hS : ∀ W, Below X2.heap.size X2 W → (W.cell? ⟨w2.heap.size, 1, none⟩ = some (.slice (some ⟨b1, 0, none⟩) x.spots.length k1) ∧ W.cell? ⟨b1, jj * 5, none⟩ = some (.string (gp cur jj).name) ∧ W.cell? ⟨b1, jj * 5 + 1, none⟩ = some (.int .i64 (gp cur jj).cap) ∧ W.cell? ⟨b1, jj * 5 + 2, none⟩ = some (.int .i64 (gp cur jj).least) ∧ W.cell? ⟨b1, jj * 5 + 3, none⟩ = some (.int .i64 (gp cur jj).most) ∧ W.cell? ⟨b1, jj * 5 + 4, none⟩ = some (.slice (A jj) (gp cur jj).may.length (C jj)) ∧ W.cell? ⟨w4.heap.size, 0, none⟩ = some (.int .i64 (gq x.parts j).want.number) ∧ W.cell? ⟨w4.heap.size, 1, none⟩ = some (.int .i64 (gq x.parts j).want.kind) ∧ W.cell? ⟨w4.heap.size, 2, none⟩ = some (.slice (M j 2) (gq x.parts j).want.stuffs.length (D j 2)) ∧ W.cell? ⟨w4.heap.size, 3, none⟩ = some (.slice (some ⟨bu, ou, none⟩) (gq x.parts j).want.uses.length (D j 3)) ∧ W.cell? ⟨w4.heap.size, 4, none⟩ = some (.slice (M j 4) (gq x.parts j).want.opens.length (D j 4)) ∧ W.cell? ⟨w4.heap.size, 5, none⟩ = some (.slice (M j 5) (gq x.parts j).want.shuts.length (D j 5)) ∧ W.cell? ⟨bu, ou + k * 3, none⟩ = some (.string (gu (gq x.parts j).want.uses k).name) ∧ W.cell? ⟨bu, ou + k * 3 + 1, none⟩ = some (.int .i64 (gu (gq x.parts j).want.uses k).role) ∧ W.cell? ⟨bu, ou + k * 3 + 2, none⟩ = some (.int .i64 (gu (gq x.parts j).want.uses k).amount)) := fun W h =>
         ⟨cell_later h (xX2.cell 1 rfl), cell_later h t0, cell_later h t1, cell_later h t2, cell_later h t3, cell_later h t4, cell_later h (wX2.cell 0 rfl), cell_later h (wX2.cell 1 rfl), cell_later h (wX2.cell 2 rfl), cell_later h (wX2.cell 3 rfl), cell_later h (wX2.cell 4 rfl), cell_later h (wX2.cell 5 rfl), cell_later h p0, cell_later h p1, cell_later h p2⟩
        have hS0 := hS X2.drew (Below.drew (Below.refl _ _))
        have hcl : ∀ W, Below X2.heap.size X2 W → Calls Tryz.prog 163 #[spotV (gp cur jj) (A jj) (C jj), wantW (gq x.parts j).want (M j 2) (some ⟨bu, ou, none⟩) (M j 4) (M j 5) (D j 2) (D j 3) (D j 4) (D j 5), useV (gu (gq x.parts j).want.uses k), .int .i64 moved, .bool done] W fun e w' => (∃ m' c', e = .returned (spotV (settleS (gq x.parts j).want.kind moved done (gp cur jj) (gu (gq x.parts j).want.uses k)) m' c') ∧ OwnL w' 9 1 m' (settleS (gq x.parts j).want.kind moved done (gp cur jj) (gu (gq x.parts j).want.uses k)).may.length (strF (settleS (gq x.parts j).want.kind moved done (gp cur jj) (gu (gq x.parts j).want.uses k)).may) ∧ (settleS (gq x.parts j).want.kind moved done (gp cur jj) (gu (gq x.parts j).want.uses k)).may.length ≤ c' ∧ ∀ q, InSlot m' (settleS (gq x.parts j).want.kind moved done (gp cur jj) (gu (gq x.parts j).want.uses k)).may.length q → InSlot (A jj) (gp cur jj).may.length q) ∧ Below W.heap.size W w' := fun W h =>
         l4Settle_own (gp cur jj) (A jj) (C jj) (gq x.parts j).want _ _ _ _ _ _ _ _ (gu (gq x.parts j).want.uses k) moved done W ((own2.later h).spots.may jj hjc) (own2.spots.cap jj hjc) (by unfold Lv at hlv ⊢; omega) ham hv0 hum
        generalize settleS (gq x.parts j).want.kind moved done (gp cur jj) (gu (gq x.parts j).want.uses k) = gs' at hcl HUP
        unfold spotV wantW useV at hcl
        have RX : Hid _ := And.intro iX2 (And.intro zX2 (And.intro xX2 (And.intro wX2 own2)))
        clear iX2 zX2 xX2 wX2 own2 t0 t1 t2 t3 t4 p0 p1 p2
        go_wp2_with fail
        refine wp_region_E (fun W => W.cell? ⟨w2.heap.size, 1, none⟩ = some (.slice (some ⟨b1, 0, none⟩) x.spots.length k1) ∧ W.cell? ⟨b1, jj * 5, none⟩ = some (.string (gp cur jj).name) ∧ W.cell? ⟨b1, jj * 5 + 1, none⟩ = some (.int .i64 (gp cur jj).cap) ∧ W.cell? ⟨b1, jj * 5 + 2, none⟩ = some (.int .i64 (gp cur jj).least) ∧ W.cell? ⟨b1, jj * 5 + 3, none⟩ = some (.int .i64 (gp cur jj).most) ∧ W.cell? ⟨b1, jj * 5 + 4, none⟩ = some (.slice (A jj) (gp cur jj).may.length (C jj)) ∧ W.cell? ⟨w4.heap.size, 0, none⟩ = some (.int .i64 (gq x.parts j).want.number) ∧ W.cell? ⟨w4.heap.size, 1, none⟩ = some (.int .i64 (gq x.parts j).want.kind) ∧ W.cell? ⟨w4.heap.size, 2, none⟩ = some (.slice (M j 2) (gq x.parts j).want.stuffs.length (D j 2)) ∧ W.cell? ⟨w4.heap.size, 3, none⟩ = some (.slice (some ⟨bu, ou, none⟩) (gq x.parts j).want.uses.length (D j 3)) ∧ W.cell? ⟨w4.heap.size, 4, none⟩ = some (.slice (M j 4) (gq x.parts j).want.opens.length (D j 4)) ∧ W.cell? ⟨w4.heap.size, 5, none⟩ = some (.slice (M j 5) (gq x.parts j).want.shuts.length (D j 5)) ∧ W.cell? ⟨bu, ou + k * 3, none⟩ = some (.string (gu (gq x.parts j).want.uses k).name) ∧ W.cell? ⟨bu, ou + k * 3 + 1, none⟩ = some (.int .i64 (gu (gq x.parts j).want.uses k).role) ∧ W.cell? ⟨bu, ou + k * 3 + 2, none⟩ = some (.int .i64 (gu (gq x.parts j).want.uses k).amount)) 18 (by kernel_rfl) ?_
        refine tk 0 ?vab0 rfl (by kernel_rfl) (fun _ _ _ h => h) (by rfl) hS0 ?yab0 ?rab0
        case yab0 => intro w' h; (try dsimp only at h); go_simp; (try with_reducible rfl)
        try simp only [Act.put, sA, sB, sC]
        refine tk 1 ?vab1 rfl (by kernel_rfl) (fun _ _ _ h => h) (by rfl) hS0 ?yab1 ?rab1
        case yab1 => intro w' h; (try dsimp only at h); go_simp; (try with_reducible rfl)
        try simp only [Act.put, sA, sB, sC]
        refine tk 2 ?vab2 rfl (by kernel_rfl) (fun _ _ _ h => h) (by rfl) hS0 ?yab2 ?rab2
        case yab2 => intro w' h; (try dsimp only at h); go_simp; (try with_reducible rfl)
        try simp only [Act.put, sA, sB, sC]
        refine tk 3 ?vab3 rfl (by kernel_rfl) (fun _ _ _ h => h) (by rfl) hS0 ?yab3 ?rab3
        case yab3 => intro w' h; (try dsimp only at h); go_simp; (try with_reducible rfl)
        try simp only [Act.put, sA, sB, sC]
        refine tk 4 ?vab4 rfl (by kernel_rfl) (fun _ _ _ h => h) (by rfl) hS0 ?yab4 ?rab4
        case yab4 => intro w' h; (try dsimp only at h); go_simp; (try with_reducible rfl)
        try simp only [Act.put, sA, sB, sC]
        refine tk 5 ?vab5 rfl (by kernel_rfl) (fun _ _ _ h => h) (by rfl) hS0 ?yab5 ?rab5
        case yab5 => intro w' h; (try dsimp only at h); go_simp; (try with_reducible rfl)
        try simp only [Act.put, sA, sB, sC]
        refine tk 6 ?vab6 rfl (by kernel_rfl) (fun _ _ _ h => h) (by rfl) hS0 ?yab6 ?rab6
        case yab6 => intro w' h; (try dsimp only at h); go_simp; (try with_reducible rfl)
        try simp only [Act.put, sA, sB, sC]
        refine tk 7 ?vab7 rfl (by kernel_rfl) (fun _ _ _ h => h) (by rfl) hS0 ?yab7 ?rab7
        case yab7 => intro w' h; (try dsimp only at h); go_simp; (try with_reducible rfl)
        try simp only [Act.put, sA, sB, sC]
        refine tk 8 ?vab8 rfl (by kernel_rfl) (fun _ _ _ h => h) (by rfl) hS0 ?yab8 ?rab8
        case yab8 => intro w' h; (try dsimp only at h); go_simp; (try with_reducible rfl)
        try simp only [Act.put, sA, sB, sC]
        refine tk 9 ?vab9 rfl (by kernel_rfl) (fun _ _ _ h => h) (by rfl) hS0 ?yab9 ?rab9
        case yab9 => intro w' h; (try dsimp only at h); go_simp; (try with_reducible rfl)
        try simp only [Act.put, sA, sB, sC]
        refine tk 10 ?vab10 rfl (by kernel_rfl) (fun _ _ _ h => h) (by rfl) hS0 ?yab10 ?rab10
        case yab10 => intro w' h; (try dsimp only at h); go_simp; (try with_reducible rfl)
        try simp only [Act.put, sA, sB, sC]
        refine tk 11 ?vab11 rfl (by kernel_rfl) (fun _ _ _ h => h) (by rfl) hS0 ?yab11 ?rab11
        case yab11 => intro w' h; (try dsimp only at h); go_simp; (try with_reducible rfl)
        try simp only [Act.put, sA, sB, sC]
        refine tk 12 ?vab12 rfl (by kernel_rfl) (fun _ _ _ h => h) (by rfl) hS0 ?yab12 ?rab12
        case yab12 => intro w' h; (try dsimp only at h); go_simp; (try with_reducible rfl)
        try simp only [Act.put, sA, sB, sC]
        refine tk 13 ?vab13 rfl (by kernel_rfl) (fun _ _ _ h => h) (by rfl) hS0 ?yab13 ?rab13
        case yab13 => intro w' h; (try dsimp only at h); go_simp; (try with_reducible rfl)
        try simp only [Act.put, sA, sB, sC]
        refine tk 14 ?vab14 rfl (by kernel_rfl) (fun _ _ _ h => h) (by rfl) hS0 ?yab14 ?rab14
        case yab14 => intro w' h; (try dsimp only at h); go_simp; (try with_reducible rfl)
        try simp only [Act.put, sA, sB, sC]
        refine tk 15 ?vab15 rfl (by kernel_rfl) (fun _ _ _ h => h) (by rfl) hS0 ?yab15 ?rab15
        case yab15 => intro w' h; (try dsimp only at h); go_simp; (try with_reducible rfl)
        try simp only [Act.put, sA, sB, sC]
        refine wpAnyE_oneC (i := 16) rfl (by kernel_rfl) ?_
        intro K hK
        rw [if_pos (by rfl)]
        go_wp2_with (go_at_call 163; refine (hcl _ (Below.drew (Below.refl _ _))).mono ?_; rintro e Y1 ⟨⟨m', c', rfl, oN, hcN, hat⟩, hbN'⟩)
        have hbN : Below X2.heap.size X2 Y1 := (Below.drew (Below.refl _ _)).trans hbN'
        refine hK.out _ _ (fun _ => hS Y1 hbN) ?_
        clear hK K hS0
        have hS1 := hS Y1 hbN
        have own3 := RX.out.2.2.2.2.later hbN
        obtain ⟨t0, t0f', -⟩ := own3.spots.row.cellAt hjc (by omega : 0 < 5)
        obtain ⟨t1, t1f', -⟩ := own3.spots.row.cellAt hjc (by omega : 1 < 5)
        obtain ⟨t2, t2f', -⟩ := own3.spots.row.cellAt hjc (by omega : 2 < 5)
        obtain ⟨t3, t3f', -⟩ := own3.spots.row.cellAt hjc (by omega : 3 < 5)
        obtain ⟨t4, t4f', -⟩ := own3.spots.row.cellAt hjc (by omega : 4 < 5)
        have t0f2 : Y1.frozen? ⟨b1, jj * 5, none⟩ = false := t0f'
        clear own3 t0 t1 t2 t3 t4
        try simp only [Act.put, sA, sB, sC]
        refine wpAnyE_oneC (i := 17) rfl (by kernel_rfl) ?_
        intro K hK
        rw [if_pos (by rfl)]
        go_wp2_with fail
        refine hK.out _ _ (fun _ => hS1) ?_
        clear hK K
        try simp only [Act.put, sA, sB, sC]
        refine wpAnyE_oneC (i := 18) rfl (by kernel_rfl) ?_
        intro K hK
        rw [if_pos (by rfl)]
        go_wp2_with fail
        refine hK.out _ _ (fun h => absurd rfl h) ?_
        clear hK K
        try simp only [Act.put, sA, sB, sC]
        refine wpAnyE_done (by kernel_rfl) ?_ _
        obtain ⟨iX2, zX2, xX2, wX2, own2⟩ := RX.out
        have h5 := (own2.later hbN).spots.setAll hjc (s := gs') (a' := m') (c' := c') oN hcN (fun q hq e => ?n1) (fun i hi hij q hq => ?n2)
        case n1 => exact own2.spots.apart jj hjc q (hat q hq) (by rw [e]; exact ⟨by dsimp only; omega, 0, rfl⟩)
        case n2 => exact own2.spots.each jj i hjc hi (fun e => hij e.symm) q (hat q hq)
        obtain ⟨sp5, on5⟩ := h5
        have hin5 : ∀ q, InSp (some ⟨b1, 0, none⟩) (cur.set jj gs') (fun i => if i = jj then m' else A i) q → InSp (some ⟨b1, 0, none⟩) cur A q := fun q hq => by
         rcases inSp_set hjc hq with h | h
         · exact h
         · exact Or.inr ⟨jj, hjc, hat q h⟩
        have own5 := (own2.later hbN).withSpots (n := x.seen) (by dsimp only; omega) sp5 on5 (N := X2.heap.size) (fun q hq => own2.lt hq) (fun q hq => Or.inl (hin5 q hq))
        have sub5 : ∀ q, InBk ⟨x.foes, cur.set jj gs', x.valves, x.parts, x.seen⟩ f0 (some ⟨b1, 0, none⟩) f2 f3 (fun i => if i = jj then m' else A i) A2 q → InBk x f0 (some ⟨b1, 0, none⟩) f2 f3 A1 A2 q := fun q hq => sub q (hq.imp id (Or.imp (hin5 q) id))
        have iY5 := (iX2.later hbN).only on5 (fun e => by have e' : w.heap.size = b1 := e; omega)
        have zY5 := (zX2.later hbN).only on5 (fun e => by have e' : w.heap.size + 1 = b1 := e; omega)
        have xY5 := (xX2.later hbN).only on5 (fun e => by have e' : w2.heap.size = b1 := e; omega)
        have wY5 := (wX2.later hbN).only on5 (fun e => by have e' : w4.heap.size = b1 := e; omega)
        have bY1 := bX2.trans (hbN.mono bX2.size)
        have bY5 := bY1.trans (on5.below (fun q hq => by have e' : q = b1 := hq; omega) bY1.size)
        have sY5 : w6.heap.size ≤ (((((Y1.setCell ⟨b1, jj * 5, none⟩ (.string gs'.name)).setCell ⟨b1, jj * 5 + 1, none⟩ (.int .i64 gs'.cap)).setCell ⟨b1, jj * 5 + 2, none⟩ (.int .i64 gs'.least)).setCell ⟨b1, jj * 5 + 3, none⟩ (.int .i64 gs'.most)).setCell ⟨b1, jj * 5 + 4, none⟩ (.slice m' gs'.may.length c')).heap.size := by have := on5.size; have := hbN.size; omega
        obtain ⟨Y5, hY5⟩ : ∃ W, W = ((((Y1.setCell ⟨b1, jj * 5, none⟩ (.string gs'.name)).setCell ⟨b1, jj * 5 + 1, none⟩ (.int .i64 gs'.cap)).setCell ⟨b1, jj * 5 + 2, none⟩ (.int .i64 gs'.least)).setCell ⟨b1, jj * 5 + 3, none⟩ (.int .i64 gs'.most)).setCell ⟨b1, jj * 5 + 4, none⟩ (.slice m' gs'.may.length c') := ⟨_, rfl⟩
        rw [← hY5] at own5 iY5 zY5 xY5 wY5 bY5 sY5 ⊢
        have OWN5 : Hid _ := own5
        have SUB5 : Hid _ := sub5
        rw [← HAU.out] at wY5
        clear hY5 own5 sub5 sp5 on5 hS hS1 hcl oN hat hbN hbN' RX iX2 zX2 xX2 wX2 own2 bY1 t0f t1f t2f t3f t4f t0f' t1f' t2f' t3f' t4f' t0f2 hin5
        go_wp2
        go_roundw
        case rel => exact ⟨k + 1, _, _, _, rfl, by omega, by go_num, bY5, sY5, iY5, zY5, xY5, wY5, by rw [HUP.out]; exact OWN5.out, by rw [HUP.out]; exact SUB5.out⟩
        case measure => simp [intOf]; omega
      · have hke : k = (gq x.parts j).want.uses.length := by omega
        have hlt2 : ¬ (k : Int) < (gq x.parts j).want.uses.length := by omega
        have OWN : Hid _ := own
        have SUB : Hid _ := sub
        obtain ⟨b3, hf3⟩ := own.parts.row.some_of (by dsimp only; omega)
        subst hf3
        have x3 := xX.cell 3 rfl
        have hS : ∀ W, Below X.heap.size X W → W.cell? ⟨w2.heap.size, 3, none⟩ = some (.slice (some ⟨b3, 0, none⟩) x.parts.length k3) := fun W h => cell_later h x3
        have hcc3 := HC3.out
        have hp6 := (bookB_small hB).2.2.2
        have bXX := Below.refl X.heap.size X
        clear own sub
        by_cases hce : k3 = j + 1
        · subst hce
          have hkc : (j : Int) ≤ (j + 1) := by omega
          have hkc1 : (j : Int) + 1 ≤ (j + 1) := by omega
          have hTk : ∀ W, Below X.heap.size X W → RowAt W (some ⟨b3, 0, none⟩) j 7 (fun i => partCell (gq x.parts i) (fun f => A2 i (f - 2)) (fun f => C2 i (f - 2))) := fun W h => ((OWN.out.later h).parts.row.rowAt).take (by dsimp only; omega)
          have hDr : ∀ W, Below X.heap.size X W → RowAt W (some ⟨b3, 0, none⟩) 0 7 (fun i => partCell (gq x.parts (j + 1 + i)) (fun f => A2 (j + 1 + i) (f - 2)) (fun f => C2 (j + 1 + i) (f - 2))) := fun W h => by
           intro q hq
           exact absurd hq (by omega)
          have hS0 := hS X.drew (Below.drew (Below.refl _ _))
          have hwI : IntKind.i64.wrap ((j : Int) + 1) = ((j + 1 : Nat) : Int) := by
           have h1 := (bookB_small hB).2.2.2
           rw [IntKind.wrap_i64]; omega
          have HWI : Hid _ := hwI
          have hl1 : ((j + 1 : Nat) : Int) ≤ x.parts.length := by omega
          have hl2 : (0 : Int) ≤ ((j + 1 : Nat) : Int) := by omega
          have hl3 : ((j + 1 : Nat) : Int) ≤ (j + 1) := by omega
          have hl4 : (j : Int) + 1 ≤ x.parts.length := by omega
          have hl5 : (0 : Int) ≤ (j : Int) + 1 := by omega
          clear hwI
          go_wp2_with fail
          refine wp_region_E (fun W => W.cell? ⟨w2.heap.size, 3, none⟩ = some (.slice (some ⟨b3, 0, none⟩) x.parts.length (j + 1))) 13 (by kernel_rfl) ?_
          refine tk 1 ?vax1 rfl (by kernel_rfl) (fun _ _ _ h => h) (by rfl) hS0 ?yax1 ?rax1
          case yax1 => intro w' h; (try dsimp only at h); go_simp; (try with_reducible rfl)
          try simp only [Act.put, sA, sB, sC]
          refine tk 2 ?vax2 rfl (by kernel_rfl) (fun _ _ _ h => h) (by rfl) hS0 ?yax2 ?rax2
          case yax2 => intro w' h; (try dsimp only at h); go_simp; (try with_reducible rfl)
          try simp only [Act.put, sA, sB, sC]
          refine tk 3 ?vax3 rfl (by kernel_rfl) (fun _ _ _ h => h) (by rfl) hS0 ?yax3 ?rax3
          case yax3 => intro w' h; (try dsimp only at h); go_simp; (try with_reducible rfl)
          try simp only [Act.put, sA, sB, sC]
          refine tk 4 ?vax4 rfl (by kernel_rfl) (fun _ _ _ h => h) (by rfl) hS0 ?yax4 ?rax4
          case yax4 => intro w' h; (try dsimp only at h); go_simp; (try with_reducible rfl)
          try simp only [Act.put, sA, sB, sC]
          refine tk 6 ?vax6 rfl (by kernel_rfl) (fun _ _ _ h => h) (by rfl) hS0 ?yax6 ?rax6
          case yax6 => intro w' h; (try dsimp only at h); go_simp; (try with_reducible rfl)
          try simp only [Act.put, sA, sB, sC]
          refine tk 7 ?vax7 rfl (by kernel_rfl) (fun _ _ _ h => h) (by rfl) hS0 ?yax7 ?rax7
          case yax7 => intro w' h; (try dsimp only at h); go_simp; (try with_reducible rfl)
          try simp only [Act.put, sA, sB, sC]
          refine tk 8 ?vax8 rfl (by kernel_rfl) (fun _ _ _ h => h) (by rfl) hS0 ?yax8 ?rax8
          case yax8 => intro w' h; (try dsimp only at h); go_simp; (try with_reducible rfl)
          try simp only [Act.put, sA, sB, sC]
          refine tk 9 ?vax9 rfl (by kernel_rfl) (fun _ _ _ h => h) (by rfl) hS0 ?yax9 ?rax9
          case yax9 => intro w' h; (try dsimp only at h); go_simp; (try with_reducible rfl)
          try simp only [Act.put, sA, sB, sC]
          rw [HWI.out]
          refine tk 10 ?vax10 rfl (by kernel_rfl) (fun _ _ _ h => h) (by rfl) hS0 ?yax10 ?rax10
          case yax10 => intro w' h; (try dsimp only at h); go_simp; (try with_reducible rfl)
          try simp only [Act.put, sA, sB, sC]
          refine wpAnyE_oneC (i := 0) rfl (by kernel_rfl) ?_
          intro K hK
          rw [if_pos (by rfl)]
          go_wp2_with fail
          refine hK.out _ _ (fun _ => hS _ (by (repeat (first | assumption | exact Below.refl _ _ | refine Below.drew ?_ | refine Below.alloc ?_ (by (try simp); (try omega)) _)))) ?_
          clear hK K hS0
          try simp only [Act.put, sA, sB, sC]
          refine wpAnyE_oneC (i := 5) rfl (by kernel_rfl) ?_
          intro K hK
          refine step_append_z (by rfl) _ _ (by rfl) slicePart _ (by rfl) (some ⟨b3, 0, none⟩) j (j + 1) (fun i => partCell (gq x.parts i) (fun f => A2 i (f - 2)) (fun f => C2 i (f - 2))) (by rfl) (hTk _ (by (repeat (first | assumption | exact Below.refl _ _ | refine Below.drew ?_ | refine Below.alloc ?_ (by (try simp); (try omega)) _)))) (fun i c => onePart _ _ _ c) (by omega) ?_
          intro d1 c1 v1 o1 p1 at1 hbA
          have hb1v : Below X.heap.size X v1 := (((Below.refl X.heap.size X).alloc (Nat.le_refl _) _).drew).trans (hbA.mono (by show X.heap.size ≤ (X.alloc _).heap.size; simp))
          have lo1 : ∀ q, InAddr d1 q → X.heap.size ≤ q := fun q hq => by
           rcases at1 q hq with ⟨_, h⟩ | h
           · cases h; exact Nat.le_refl _
           · have h' : q = (X.alloc (.cells #[] 61)).heap.size := h
             simp at h'; omega
          have sv1 := hb1v.size
          refine hK.out _ _ (fun _ => hS v1 hb1v) ?_
          clear hK K hbA at1
          try simp only [Act.put, sA, sB, sC]
          refine wpAnyE_oneC (i := 11) rfl (by kernel_rfl) ?_
          intro K hK
          refine step_append_w (by rfl) _ _ (by rfl) slicePart d1 j c1 _ (by rfl) o1 p1 (some ⟨b3, 0, none⟩) 0 0 (fun i => partCell (gq x.parts (j + 1 + i)) (fun f => A2 (j + 1 + i) (f - 2)) (fun f => C2 (j + 1 + i) (f - 2))) (by rfl) (hDr _ hb1v) (fun i c => onePart _ _ _ c) (by omega) ?_
          intro d2 c2' v2 o2 p2 at2 on2
          have lo2 : ∀ q, InAddr d2 q → X.heap.size ≤ q := fun q hq => (at2 q hq).elim (lo1 q) (fun h => by omega)
          have w2X : w2.heap.size < X.heap.size := xX.lt
          have xv2 := (xX.later hb1v).only on2 (fun h => by have := lo1 _ h; omega)
          have zv2 := (zX.later hb1v).only on2 (fun h => by have := lo1 _ h; omega)
          have bv2 : Below w.heap.size w v2 := (bX.trans (hb1v.mono bX.size)).trans (on2.below (fun q hq => by have := lo1 q hq; have := bX.size; omega) (by have := bX.size; omega))
          have hfar : ∀ q, InBk ⟨x.foes, upTo (settleS (gq x.parts j).want.kind moved done) x.spots (gq x.parts j).want.uses k, x.valves, x.parts, x.seen⟩ f0 f1 f2 (some ⟨b3, 0, none⟩) A A2 q → q < w2.heap.size := fun q hq => (LO.out q (SUB.out q hq)).2
          have ov2 := (OWN.out.later hb1v).only on2 (fun q hq h => by have := hfar q hq; have := lo1 q h; omega)
          have q3v := xv2.cell 3 rfl
          have q3f := xv2.frozen 3
          refine hK.out _ _ (fun _ => q3v) ?_
          clear hK K
          try simp only [Act.put, sA, sB, sC]
          refine wpAnyE_oneC (i := 12) rfl (by kernel_rfl) ?_
          intro K hK
          rw [if_pos (by rfl)]
          go_wp2_with fail
          refine hK.out _ _ (fun _ => q3v) ?_
          clear hK K
          try simp only [Act.put, sA, sB, sC]
          refine wpAnyE_oneC (i := 13) rfl (by kernel_rfl) ?_
          intro K hK
          rw [if_pos (by rfl)]
          go_wp2_with fail
          refine hK.out _ _ (fun h => absurd rfl h) ?_
          clear hK K
          try simp only [Act.put, sA, sB, sC]
          refine wpAnyE_done (by kernel_rfl) ?_ _
          have ov3 := ov2.only (Only.cell v2 ⟨w2.heap.size, 3, none⟩ (.slice d2 j c2')) (fun q hq e => by have := hfar q hq; simp only at e; omega)
          have o3 := o2.only (Only.cell v2 ⟨w2.heap.size, 3, none⟩ (.slice d2 j c2')) (fun q hq e => by have := lo2 q hq.2; simp only at e; omega)
          have xv3 := xv2.set 3 (.slice d2 j c2')
          have zv3 := zv2.other (a := ⟨w2.heap.size, 3, none⟩) (fun h => hne h.symm) (.slice d2 j c2')
          have bv3 := bv2.setCell (p := ⟨w2.heap.size, 3, none⟩) (by simp; omega) (.slice d2 j c2')
          have hlen : (x.parts.eraseIdx j).length = j := by rw [erase_length hj]; omega
          have bin : BookIn (v2.setCell ⟨w2.heap.size, 3, none⟩ (.slice d2 j c2')) (overAt x j moved done) f0 f1 f2 d2 := by
           have hsp := ov3.spots.at_
           dsimp only at hsp
           rw [hke] at hsp
           exact ⟨ov3.foes.rowAt, hsp, ov3.valves.rowAt, ov3.parts.erase hj (by rw [show x.parts.length - (j + 1) = 0 from by omega]; exact o3)⟩
          have hcopy := l2Copy_own (overAt x j moved done) f0 f1 f2 d2 k0 k1 k2 c2' _ bin (overAt_room R j moved done)
          unfold bookV at hcopy
          have e1 : (overAt x j moved done).spots.length = x.spots.length := upTo_length _ _ _ _
          have e2 : (overAt x j moved done).parts.length = j := hlen
          have e3 : (overAt x j moved done).foes.length = x.foes.length ∧ (overAt x j moved done).valves.length = x.valves.length ∧ (overAt x j moved done).seen = x.seen := ⟨rfl, rfl, rfl⟩
          rw [e1, e2, e3.1, e3.2.1, e3.2.2] at hcopy
          obtain ⟨v3, hv3⟩ : ∃ W, W = v2.setCell ⟨w2.heap.size, 3, none⟩ (.slice d2 j c2') := ⟨_, rfl⟩
          rw [← hv3] at hcopy xv3 zv3 bv3 ⊢
          have sv3 : w.heap.size + 2 ≤ v3.heap.size := by have := xv3.lt; omega
          clear hv3 bin ov3 o3 ov2 xv2 zv2 bv2 q3v q3f o1 o2 p1 p2 at2 on2 lo1 lo2 hS hTk hDr hb1v hfar OWN SUB iX zX xX wX e1 e2 e3 hlen
          have y0 := xv3.cell 0 rfl
          have y1 := xv3.cell 1 rfl
          have y2 := xv3.cell 2 rfl
          have y3 := xv3.cell 3 rfl
          have y4 := xv3.cell 4 rfl
          go_wp2_with fail
          refine hcopy.mono ?_
          rintro e w8 ⟨⟨g0, g1, g2, g3, j0, j1, j2, j3, G1, J1, G2, J2, rfl, own8, -, -, lo8⟩, hb8⟩
          have b8 := bv3.trans (hb8.mono bv3.size)
          have z8 := zv3.later hb8
          have s8 := hb8.size
          have LO8 : Hid (∀ q, InBk (overAt x j moved done) g0 g1 g2 g3 G1 G2 q → w.heap.size + 2 ≤ q) := fun q hq => by have := lo8 q hq; omega
          clear hb8 lo8 zv3 bv3 hcopy y0 y1 y2 y3 y4 xv3
          try unfold bookV
          have r0 := z8.cell 0 rfl
          have r1 := z8.cell 1 rfl
          have r2 := z8.cell 2 rfl
          have r3 := z8.cell 3 rfl
          have r4 := z8.cell 4 rfl
          have l0 := z8.frozen 0
          have l1 := z8.frozen 1
          have l2 := z8.frozen 2
          have l3 := z8.frozen 3
          have l4 := z8.frozen 4
          have OWN8 : Hid _ := own8
          clear own8
          go_wp2
          refine bodyPost_ret (v := .tuple #[.agg #[.slice g0 x.foes.length j0, .slice g1 x.spots.length j1, .slice g2 x.valves.length j2, .slice g3 j j3, .int .i64 x.seen], .int .i64 0])
           (by simp [results, Tryz.results147, go_sem, r0, r1, r2, r3, r4]) rfl ⟨?_, ?_⟩
          · rw [HE.out.1, HE.out.2]
            have g : ∀ q, InBk (overAt x j moved done) g0 g1 g2 g3 G1 G2 q → ¬ q = w.heap.size + 1 := fun q hq => by have := LO8.out q hq; omega
            have e1 : (overAt x j moved done).spots.length = x.spots.length := upTo_length _ _ _ _
            have e2 : (overAt x j moved done).parts.length = j := by show (x.parts.eraseIdx j).length = _; rw [erase_length hj]; omega
            exact ⟨g0, g1, g2, g3, j0, j1, j2, j3, G1, J1, G2, J2, by unfold bookV; rw [e1, e2]; rfl, ((((OWN8.out.only (Only.cell _ ⟨w.heap.size + 1, 0, none⟩ _) g).only (Only.cell _ ⟨w.heap.size + 1, 1, none⟩ _) g).only (Only.cell _ ⟨w.heap.size + 1, 2, none⟩ _) g).only (Only.cell _ ⟨w.heap.size + 1, 3, none⟩ _) g).only (Only.cell _ ⟨w.heap.size + 1, 4, none⟩ _) g, fun q hq => by have := LO8.out q hq; omega⟩
          · exact ((((b8.setCell (by simp) _).setCell (by simp) _).setCell (by simp) _).setCell (by simp) _).setCell (by simp) _
        · have hce2 : ¬ k3 = j + 1 := hce
          have hkc : (j : Int) ≤ k3 := by omega
          have hkc1 : (j : Int) + 1 ≤ k3 := by omega
          have hTk : ∀ W, Below X.heap.size X W → RowAt W (some ⟨b3, 0, none⟩) j 7 (fun i => partCell (gq x.parts i) (fun f => A2 i (f - 2)) (fun f => C2 i (f - 2))) := fun W h => ((OWN.out.later h).parts.row.rowAt).take (by dsimp only; omega)
          have hDr : ∀ W, Below X.heap.size X W → RowAt W (some ⟨b3, (j + 1) * 7, none⟩) (x.parts.length - (j + 1)) 7 (fun i => partCell (gq x.parts (j + 1 + i)) (fun f => A2 (j + 1 + i) (f - 2)) (fun f => C2 (j + 1 + i) (f - 2))) := fun W h => by
           have := ((OWN.out.later h).parts.row.rowAt).drop (q := j + 1) (by dsimp only; omega)
           rw [Nat.zero_add] at this
           exact this
          have hS0 := hS X.drew (Below.drew (Below.refl _ _))
          have hwI : IntKind.i64.wrap ((j : Int) + 1) = ((j + 1 : Nat) : Int) := by
           have h1 := (bookB_small hB).2.2.2
           rw [IntKind.wrap_i64]; omega
          have HWI : Hid _ := hwI
          have hl1 : ((j + 1 : Nat) : Int) ≤ x.parts.length := by omega
          have hl2 : (0 : Int) ≤ ((j + 1 : Nat) : Int) := by omega
          have hl3 : ((j + 1 : Nat) : Int) ≤ k3 := by omega
          have hl4 : (j : Int) + 1 ≤ x.parts.length := by omega
          have hl5 : (0 : Int) ≤ (j : Int) + 1 := by omega
          clear hwI
          go_wp2_with fail
          refine wp_region_E (fun W => W.cell? ⟨w2.heap.size, 3, none⟩ = some (.slice (some ⟨b3, 0, none⟩) x.parts.length k3)) 13 (by kernel_rfl) ?_
          refine tk 1 ?vay1 rfl (by kernel_rfl) (fun _ _ _ h => h) (by rfl) hS0 ?yay1 ?ray1
          case yay1 => intro w' h; (try dsimp only at h); go_simp; (try with_reducible rfl)
          try simp only [Act.put, sA, sB, sC]
          refine tk 2 ?vay2 rfl (by kernel_rfl) (fun _ _ _ h => h) (by rfl) hS0 ?yay2 ?ray2
          case yay2 => intro w' h; (try dsimp only at h); go_simp; (try with_reducible rfl)
          try simp only [Act.put, sA, sB, sC]
          refine tk 3 ?vay3 rfl (by kernel_rfl) (fun _ _ _ h => h) (by rfl) hS0 ?yay3 ?ray3
          case yay3 => intro w' h; (try dsimp only at h); go_simp; (try with_reducible rfl)
          try simp only [Act.put, sA, sB, sC]
          refine tk 4 ?vay4 rfl (by kernel_rfl) (fun _ _ _ h => h) (by rfl) hS0 ?yay4 ?ray4
          case yay4 => intro w' h; (try dsimp only at h); go_simp; (try with_reducible rfl)
          try simp only [Act.put, sA, sB, sC]
          refine tk 6 ?vay6 rfl (by kernel_rfl) (fun _ _ _ h => h) (by rfl) hS0 ?yay6 ?ray6
          case yay6 => intro w' h; (try dsimp only at h); go_simp; (try with_reducible rfl)
          try simp only [Act.put, sA, sB, sC]
          refine tk 7 ?vay7 rfl (by kernel_rfl) (fun _ _ _ h => h) (by rfl) hS0 ?yay7 ?ray7
          case yay7 => intro w' h; (try dsimp only at h); go_simp; (try with_reducible rfl)
          try simp only [Act.put, sA, sB, sC]
          refine tk 8 ?vay8 rfl (by kernel_rfl) (fun _ _ _ h => h) (by rfl) hS0 ?yay8 ?ray8
          case yay8 => intro w' h; (try dsimp only at h); go_simp; (try with_reducible rfl)
          try simp only [Act.put, sA, sB, sC]
          refine tk 9 ?vay9 rfl (by kernel_rfl) (fun _ _ _ h => h) (by rfl) hS0 ?yay9 ?ray9
          case yay9 => intro w' h; (try dsimp only at h); go_simp; (try with_reducible rfl)
          try simp only [Act.put, sA, sB, sC]
          rw [HWI.out]
          refine tk 10 ?vay10 rfl (by kernel_rfl) (fun _ _ _ h => h) (by rfl) hS0 ?yay10 ?ray10
          case yay10 => intro w' h; (try dsimp only at h); go_simp; (try with_reducible rfl)
          try simp only [Act.put, sA, sB, sC]
          refine wpAnyE_oneC (i := 0) rfl (by kernel_rfl) ?_
          intro K hK
          rw [if_pos (by rfl)]
          go_wp2_with fail
          refine hK.out _ _ (fun _ => hS _ (by (repeat (first | assumption | exact Below.refl _ _ | refine Below.drew ?_ | refine Below.alloc ?_ (by (try simp); (try omega)) _)))) ?_
          clear hK K hS0
          try simp only [Act.put, sA, sB, sC]
          refine wpAnyE_oneC (i := 5) rfl (by kernel_rfl) ?_
          intro K hK
          refine step_append_z (by rfl) _ _ (by rfl) slicePart _ (by rfl) (some ⟨b3, 0, none⟩) j k3 (fun i => partCell (gq x.parts i) (fun f => A2 i (f - 2)) (fun f => C2 i (f - 2))) (by rfl) (hTk _ (by (repeat (first | assumption | exact Below.refl _ _ | refine Below.drew ?_ | refine Below.alloc ?_ (by (try simp); (try omega)) _)))) (fun i c => onePart _ _ _ c) (by omega) ?_
          intro d1 c1 v1 o1 p1 at1 hbA
          have hb1v : Below X.heap.size X v1 := (((Below.refl X.heap.size X).alloc (Nat.le_refl _) _).drew).trans (hbA.mono (by show X.heap.size ≤ (X.alloc _).heap.size; simp))
          have lo1 : ∀ q, InAddr d1 q → X.heap.size ≤ q := fun q hq => by
           rcases at1 q hq with ⟨_, h⟩ | h
           · cases h; exact Nat.le_refl _
           · have h' : q = (X.alloc (.cells #[] 61)).heap.size := h
             simp at h'; omega
          have sv1 := hb1v.size
          refine hK.out _ _ (fun _ => hS v1 hb1v) ?_
          clear hK K hbA at1
          try simp only [Act.put, sA, sB, sC]
          refine wpAnyE_oneC (i := 11) rfl (by kernel_rfl) ?_
          intro K hK
          refine step_append_w (by rfl) _ _ (by rfl) slicePart d1 j c1 _ (by rfl) o1 p1 (some ⟨b3, (j + 1) * 7, none⟩) (x.parts.length - (j + 1)) (k3 - (j + 1)) (fun i => partCell (gq x.parts (j + 1 + i)) (fun f => A2 (j + 1 + i) (f - 2)) (fun f => C2 (j + 1 + i) (f - 2))) (by rfl) (hDr _ hb1v) (fun i c => onePart _ _ _ c) (by omega) ?_
          intro d2 c2' v2 o2 p2 at2 on2
          have lo2 : ∀ q, InAddr d2 q → X.heap.size ≤ q := fun q hq => (at2 q hq).elim (lo1 q) (fun h => by omega)
          have w2X : w2.heap.size < X.heap.size := xX.lt
          have xv2 := (xX.later hb1v).only on2 (fun h => by have := lo1 _ h; omega)
          have zv2 := (zX.later hb1v).only on2 (fun h => by have := lo1 _ h; omega)
          have bv2 : Below w.heap.size w v2 := (bX.trans (hb1v.mono bX.size)).trans (on2.below (fun q hq => by have := lo1 q hq; have := bX.size; omega) (by have := bX.size; omega))
          have hfar : ∀ q, InBk ⟨x.foes, upTo (settleS (gq x.parts j).want.kind moved done) x.spots (gq x.parts j).want.uses k, x.valves, x.parts, x.seen⟩ f0 f1 f2 (some ⟨b3, 0, none⟩) A A2 q → q < w2.heap.size := fun q hq => (LO.out q (SUB.out q hq)).2
          have ov2 := (OWN.out.later hb1v).only on2 (fun q hq h => by have := hfar q hq; have := lo1 q h; omega)
          have q3v := xv2.cell 3 rfl
          have q3f := xv2.frozen 3
          refine hK.out _ _ (fun _ => q3v) ?_
          clear hK K
          try simp only [Act.put, sA, sB, sC]
          refine wpAnyE_oneC (i := 12) rfl (by kernel_rfl) ?_
          intro K hK
          rw [if_pos (by rfl)]
          go_wp2_with fail
          refine hK.out _ _ (fun _ => q3v) ?_
          clear hK K
          try simp only [Act.put, sA, sB, sC]
          refine wpAnyE_oneC (i := 13) rfl (by kernel_rfl) ?_
          intro K hK
          rw [if_pos (by rfl)]
          go_wp2_with fail
          refine hK.out _ _ (fun h => absurd rfl h) ?_
          clear hK K
          try simp only [Act.put, sA, sB, sC]
          refine wpAnyE_done (by kernel_rfl) ?_ _
          have ov3 := ov2.only (Only.cell v2 ⟨w2.heap.size, 3, none⟩ (.slice d2 (j + (x.parts.length - (j + 1))) c2')) (fun q hq e => by have := hfar q hq; simp only at e; omega)
          have o3 := o2.only (Only.cell v2 ⟨w2.heap.size, 3, none⟩ (.slice d2 (j + (x.parts.length - (j + 1))) c2')) (fun q hq e => by have := lo2 q hq.2; simp only at e; omega)
          have xv3 := xv2.set 3 (.slice d2 (j + (x.parts.length - (j + 1))) c2')
          have zv3 := zv2.other (a := ⟨w2.heap.size, 3, none⟩) (fun h => hne h.symm) (.slice d2 (j + (x.parts.length - (j + 1))) c2')
          have bv3 := bv2.setCell (p := ⟨w2.heap.size, 3, none⟩) (by simp; omega) (.slice d2 (j + (x.parts.length - (j + 1))) c2')
          have hlen : (x.parts.eraseIdx j).length = j + (x.parts.length - (j + 1)) := by rw [erase_length hj]; omega
          have bin : BookIn (v2.setCell ⟨w2.heap.size, 3, none⟩ (.slice d2 (j + (x.parts.length - (j + 1))) c2')) (overAt x j moved done) f0 f1 f2 d2 := by
           have hsp := ov3.spots.at_
           dsimp only at hsp
           rw [hke] at hsp
           exact ⟨ov3.foes.rowAt, hsp, ov3.valves.rowAt, ov3.parts.erase hj o3⟩
          have hcopy := l2Copy_own (overAt x j moved done) f0 f1 f2 d2 k0 k1 k2 c2' _ bin (overAt_room R j moved done)
          unfold bookV at hcopy
          have e1 : (overAt x j moved done).spots.length = x.spots.length := upTo_length _ _ _ _
          have e2 : (overAt x j moved done).parts.length = j + (x.parts.length - (j + 1)) := hlen
          have e3 : (overAt x j moved done).foes.length = x.foes.length ∧ (overAt x j moved done).valves.length = x.valves.length ∧ (overAt x j moved done).seen = x.seen := ⟨rfl, rfl, rfl⟩
          rw [e1, e2, e3.1, e3.2.1, e3.2.2] at hcopy
          obtain ⟨v3, hv3⟩ : ∃ W, W = v2.setCell ⟨w2.heap.size, 3, none⟩ (.slice d2 (j + (x.parts.length - (j + 1))) c2') := ⟨_, rfl⟩
          rw [← hv3] at hcopy xv3 zv3 bv3 ⊢
          have sv3 : w.heap.size + 2 ≤ v3.heap.size := by have := xv3.lt; omega
          clear hv3 bin ov3 o3 ov2 xv2 zv2 bv2 q3v q3f o1 o2 p1 p2 at2 on2 lo1 lo2 hS hTk hDr hb1v hfar OWN SUB iX zX xX wX e1 e2 e3 hlen
          have y0 := xv3.cell 0 rfl
          have y1 := xv3.cell 1 rfl
          have y2 := xv3.cell 2 rfl
          have y3 := xv3.cell 3 rfl
          have y4 := xv3.cell 4 rfl
          go_wp2_with fail
          refine hcopy.mono ?_
          rintro e w8 ⟨⟨g0, g1, g2, g3, j0, j1, j2, j3, G1, J1, G2, J2, rfl, own8, -, -, lo8⟩, hb8⟩
          have b8 := bv3.trans (hb8.mono bv3.size)
          have z8 := zv3.later hb8
          have s8 := hb8.size
          have LO8 : Hid (∀ q, InBk (overAt x j moved done) g0 g1 g2 g3 G1 G2 q → w.heap.size + 2 ≤ q) := fun q hq => by have := lo8 q hq; omega
          clear hb8 lo8 zv3 bv3 hcopy y0 y1 y2 y3 y4 xv3
          try unfold bookV
          have r0 := z8.cell 0 rfl
          have r1 := z8.cell 1 rfl
          have r2 := z8.cell 2 rfl
          have r3 := z8.cell 3 rfl
          have r4 := z8.cell 4 rfl
          have l0 := z8.frozen 0
          have l1 := z8.frozen 1
          have l2 := z8.frozen 2
          have l3 := z8.frozen 3
          have l4 := z8.frozen 4
          have OWN8 : Hid _ := own8
          clear own8
          go_wp2
          refine bodyPost_ret (v := .tuple #[.agg #[.slice g0 x.foes.length j0, .slice g1 x.spots.length j1, .slice g2 x.valves.length j2, .slice g3 (j + (x.parts.length - (j + 1))) j3, .int .i64 x.seen], .int .i64 0])
           (by simp [results, Tryz.results147, go_sem, r0, r1, r2, r3, r4]) rfl ⟨?_, ?_⟩
          · rw [HE.out.1, HE.out.2]
            have g : ∀ q, InBk (overAt x j moved done) g0 g1 g2 g3 G1 G2 q → ¬ q = w.heap.size + 1 := fun q hq => by have := LO8.out q hq; omega
            have e1 : (overAt x j moved done).spots.length = x.spots.length := upTo_length _ _ _ _
            have e2 : (overAt x j moved done).parts.length = j + (x.parts.length - (j + 1)) := by show (x.parts.eraseIdx j).length = _; rw [erase_length hj]; omega
            exact ⟨g0, g1, g2, g3, j0, j1, j2, j3, G1, J1, G2, J2, by unfold bookV; rw [e1, e2]; rfl, ((((OWN8.out.only (Only.cell _ ⟨w.heap.size + 1, 0, none⟩ _) g).only (Only.cell _ ⟨w.heap.size + 1, 1, none⟩ _) g).only (Only.cell _ ⟨w.heap.size + 1, 2, none⟩ _) g).only (Only.cell _ ⟨w.heap.size + 1, 3, none⟩ _) g).only (Only.cell _ ⟨w.heap.size + 1, 4, none⟩ _) g, fun q hq => by have := LO8.out q hq; omega⟩
          · exact ((((b8.setCell (by simp) _).setCell (by simp) _).setCell (by simp) _).setCell (by simp) _).setCell (by simp) _

end Go.Proofs.YtfmhkicncgccjaaGreat

