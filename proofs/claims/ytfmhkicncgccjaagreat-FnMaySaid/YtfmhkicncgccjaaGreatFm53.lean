/- Joined: StD. -/
import Derived.Test.YtfmhkicncgccjaaGreatFm52
import Derived.Test.YtfmhkicncgccjaaGreatFm44
/- What the program's ClaimStop answers. -/
namespace Go.Proofs.YtfmhkicncgccjaaGreat
open Go.RowKit Go.Sort
set_option linter.unusedSimpArgs false
set_option linter.unusedVariables false

set_option maxRecDepth 100000 in
set_option maxHeartbeats 4000000 in
theorem behindStop_own (x : Book) (af ap av aq : Option Addr) (cf cp cv cq : Nat) (n : Int) (nb : Nat) (w : World) (hin : BookIn w x af ap av aq) (fx : BookFit x) (R : BookRoom x) (hn : w.cell? ⟨nb, 0, none⟩ = some (.int .i64 n)) :
 Calls Tryz.prog 31 #[bookV x af ap av aq cf cp cv cq, .int .i64 (stopC x n), .func (.func 33) #[] #[.pointer (some ⟨nb, 0, none⟩)]] w fun e w' => Gives w.heap.size (stopB x n) (stopC x n) e w' ∧ Below w.heap.size w w' := by
 have hnl := block_lt_of_cell hn
 dsimp only at hnl
 unfold bookV
 obtain ⟨W0, hW0⟩ : ∃ W, W = (w.alloc (.cells #[.slice af x.foes.length cf, .slice ap x.spots.length cp, .slice av x.valves.length cv, .slice aq x.parts.length cq, .int .i64 x.seen] 28)).alloc (.cells #[.slice none 0 0, .slice none 0 0, .slice none 0 0, .slice none 0 0, .int .i64 0] 28) := ⟨_, rfl⟩
 have b0 : Below w.heap.size w W0 := by rw [hW0]; exact ((Below.refl _ _).alloc (Nat.le_refl _) _).alloc (by simp) _
 have i0 : Row W0 w.heap.size 28 [.slice af x.foes.length cf, .slice ap x.spots.length cp, .slice av x.valves.length cv, .slice aq x.parts.length cq, .int .i64 x.seen] := by rw [hW0]; exact (Row.new _ _ _).alloc _
 have z0 : Row W0 (w.heap.size + 1) 28 [.slice none 0 0, .slice none 0 0, .slice none 0 0, .slice none 0 0, .int .i64 0] := by
  rw [hW0]
  have := Row.new (w.alloc (.cells #[.slice af x.foes.length cf, .slice ap x.spots.length cp, .slice av x.valves.length cv, .slice aq x.parts.length cq, .int .i64 x.seen] 28)) 28 [.slice none 0 0, .slice none 0 0, .slice none 0 0, .slice none 0 0, .int .i64 0]
  simpa using this
 have sz0 : W0.heap.size = w.heap.size + 2 := by rw [hW0]; simp
 cases hB : bookB x with
 | false =>
  have HE : Hid (stopB x n = bookNil ∧ stopC x n = 1) := ⟨by simp [stopB, hB], by simp [stopC, hB]⟩
  rw [HE.out.1, HE.out.2]
  have r0 := z0.cell 0 rfl
  have r1 := z0.cell 1 rfl
  have r2 := z0.cell 2 rfl
  have r3 := z0.cell 3 rfl
  have r4 := z0.cell 4 rfl
  go_enter Tryz.func31, Tryz.ntmps31
  go_wp2
  refine bodyPost_ret (v := .tuple #[.agg #[.slice none 0 0, .slice none 0 0, .slice none 0 0, .slice none 0 0, .int .i64 0], .int .i64 1]) (by simp [results, Tryz.results31, go_sem]) rfl ⟨?_, ?_⟩
  · exact ⟨none, none, none, none, 0, 0, 0, 0, _, _, _, _, rfl, ownBook_nil _, fun q hq => absurd hq inBk_nil⟩
  · rw [← hW0]
    first | exact b0 | exact ((((b0.setCell (by simp) _).setCell (by simp) _).setCell (by simp) _).setCell (by simp) _).setCell (by simp) _
 | true =>
  have hc1 : ∀ c : Int, stopC x n = c → c ≠ 1 := fun c h => by
   unfold stopC at h
   rw [hB] at h
   simp only [if_true] at h
   split at h <;> omega
  obtain ⟨code, hcode⟩ : ∃ c, stopC x n = c := ⟨_, rfl⟩
  have hne1 := hc1 code hcode
  have hne1b : (code == 1) = false := by simp [hne1]
  have HCode : Hid (stopC x n = code) := hcode
  rw [hcode]
  clear hcode hc1
  go_enter Tryz.func31, Tryz.ntmps31
  go_wp2_with fail
  rw [← hW0]
  clear hW0
  refine (freshBook_own x af ap av aq cf cp cv cq W0 (hin.later b0) R).mono ?_
  rintro e w2 ⟨⟨f0, f1, f2, f3, k0, k1, k2, k3, A1, C1, A2, C2, rfl, own, -, -, lo⟩, hb⟩
  have b2 := b0.trans (hb.mono b0.size)
  have z2 := z0.later hb
  have sz2 : w.heap.size + 2 ≤ w2.heap.size := by have := hb.size; omega
  clear b0 i0 z0 hin
  unfold bookV
  obtain ⟨W3, hW3⟩ : ∃ W, W = w2.alloc (.cells #[.slice f0 x.foes.length k0, .slice f1 x.spots.length k1, .slice f2 x.valves.length k2, .slice f3 x.parts.length k3, .int .i64 x.seen] 28) := ⟨_, rfl⟩
  have hb3 : Below w2.heap.size w2 W3 := by rw [hW3]; exact (Below.refl _ _).alloc (Nat.le_refl _) _
  have c3 : Row W3 w2.heap.size 28 [.slice f0 x.foes.length k0, .slice f1 x.spots.length k1, .slice f2 x.valves.length k2, .slice f3 x.parts.length k3, .int .i64 x.seen] := by rw [hW3]; exact Row.new _ _ _
  have b3 := b2.trans (hb3.mono b2.size)
  have z3 := z2.later hb3
  have own3 := own.later hb3
  have LO : Hid (∀ q, InBk x f0 f1 f2 f3 A1 A2 q → w.heap.size + 2 ≤ q ∧ q < w2.heap.size) := fun q hq => ⟨by have := lo q hq; omega, own.lt hq⟩
  clear b2 z2 hb hb3 own lo
  rcases partI_cases x.parts n with ⟨hp, -⟩ | ⟨j, hj, hp, -⟩
  · have hcd : code = 3 := by rw [← HCode.out]; simp [stopC, hB, hp]
    subst hcd
    have HE : Hid (stopB x n = x) := (by simp [stopB, hB, hp] : stopB x n = x)
    clear hp
    have h0 := c3.cell 0 rfl
    have h1 := c3.cell 1 rfl
    have h2 := c3.cell 2 rfl
    have h3 := c3.cell 3 rfl
    have h4 := c3.cell 4 rfl
    have r0 := z3.cell 0 rfl
    have r1 := z3.cell 1 rfl
    have r2 := z3.cell 2 rfl
    have r3 := z3.cell 3 rfl
    have r4 := z3.cell 4 rfl
    have l0 := z3.frozen 0
    have l1 := z3.frozen 1
    have l2 := z3.frozen 2
    have l3 := z3.frozen 3
    have l4 := z3.frozen 4
    have hne : w2.heap.size ≠ w.heap.size + 1 := by omega
    rw [hW3] at h0 h1 h2 h3 h4 r0 r1 r2 r3 r4 l0 l1 l2 l3 l4 own3 b3
    go_wp2
    refine bodyPost_ret (v := .tuple #[.agg #[.slice f0 x.foes.length k0, .slice f1 x.spots.length k1, .slice f2 x.valves.length k2, .slice f3 x.parts.length k3, .int .i64 x.seen], .int .i64 3])
     (by simp [results, Tryz.results31, go_sem, r0, r1, r2, r3, r4]) rfl ⟨?_, ?_⟩
    · rw [HE.out]
      have g : ∀ y, InBk x f0 f1 f2 f3 A1 A2 y → ¬ y = w.heap.size + 1 := fun y hy => by have := LO.out y hy; omega
      exact ⟨f0, f1, f2, f3, k0, k1, k2, k3, A1, C1, A2, C2, rfl, ((((own3.only (Only.cell _ ⟨w.heap.size + 1, 0, none⟩ _) g).only (Only.cell _ ⟨w.heap.size + 1, 1, none⟩ _) g).only (Only.cell _ ⟨w.heap.size + 1, 2, none⟩ _) g).only (Only.cell _ ⟨w.heap.size + 1, 3, none⟩ _) g).only (Only.cell _ ⟨w.heap.size + 1, 4, none⟩ _) g, fun q hq => by have := LO.out q hq; omega⟩
    · exact ((((b3.setCell (by simp) _).setCell (by simp) _).setCell (by simp) _).setCell (by simp) _).setCell (by simp) _
  · have hcd : code = 0 := by rw [← HCode.out]; simp [stopC, hB, hp]
    subst hcd
    have HE : Hid (stopB x n = ⟨x.foes, x.spots, x.valves, stopAt x.parts j, x.seen⟩) := (by simp [stopB, hB, hp] : stopB x n = ⟨x.foes, x.spots, x.valves, stopAt x.parts j, x.seen⟩)
    obtain ⟨b, rfl⟩ := own3.parts.row.some_of (by omega)
    obtain ⟨c6, fz6, hbl⟩ := own3.parts.row.cellAt hj (by omega : 6 < 7)
    have hbb := LO.out b (Or.inr (Or.inr (Or.inr (Or.inl ⟨by omega, 0, rfl⟩))))
    have hcall := stopChange_any x.parts w2.heap.size nb b k3 j n W3 own3.parts.at_ fx.parts.1 (c3.cell 3 rfl) (cell_later b3 hn) hj hp _ c6 fz6 (by omega) (by omega)
    have HP : Hid (partI x.parts n = (j : Int)) := hp
    clear hp
    go_wp2_with fail
    rw [← hW3]
    clear hW3
    refine hcall.mono ?_
    rintro e w4 ⟨rfl, w1, hb1, rfl⟩
    have own4 := (own3.later hb1).stop hj
    have c4 := (c3.later hb1).other (a := ⟨b, j * 7 + 6, none⟩) (by simp; omega) (.bool true)
    have z4 := (z3.later hb1).other (a := ⟨b, j * 7 + 6, none⟩) (by simp; omega) (.bool true)
    have b4 := (b3.trans (hb1.mono b3.size)).setCell (p := ⟨b, j * 7 + 6, none⟩) (by simp; omega) (.bool true)
    obtain ⟨W4, hW4⟩ : ∃ W, W = w1.setCell ⟨b, j * 7 + 6, none⟩ (.bool true) := ⟨_, rfl⟩
    rw [← hW4] at own4 c4 z4 b4 ⊢
    have OWN : Hid _ := own4
    clear hW4 own4 own3 c3 z3 b3 hcall c6 fz6 hb1
    have h0 := c4.cell 0 rfl
    have h1 := c4.cell 1 rfl
    have h2 := c4.cell 2 rfl
    have h3 := c4.cell 3 rfl
    have h4 := c4.cell 4 rfl
    have r0 := z4.cell 0 rfl
    have r1 := z4.cell 1 rfl
    have r2 := z4.cell 2 rfl
    have r3 := z4.cell 3 rfl
    have r4 := z4.cell 4 rfl
    have l0 := z4.frozen 0
    have l1 := z4.frozen 1
    have l2 := z4.frozen 2
    have l3 := z4.frozen 3
    have l4 := z4.frozen 4
    have hne : w2.heap.size ≠ w.heap.size + 1 := by omega
    go_wp2
    refine bodyPost_ret (v := .tuple #[.agg #[.slice f0 x.foes.length k0, .slice f1 x.spots.length k1, .slice f2 x.valves.length k2, .slice (some ⟨b, 0, none⟩) x.parts.length k3, .int .i64 x.seen], .int .i64 0])
     (by simp [results, Tryz.results31, go_sem, r0, r1, r2, r3, r4]) rfl ⟨?_, ?_⟩
    · rw [HE.out]
      have LO' : ∀ q, InBk ⟨x.foes, x.spots, x.valves, stopAt x.parts j, x.seen⟩ f0 f1 f2 (some ⟨b, 0, none⟩) A1 A2 q → w.heap.size + 2 ≤ q := fun q hq => by
       rcases hq with hq | hq | hq | hq
       · exact (LO.out q (Or.inl hq)).1
       · exact (LO.out q (Or.inr (Or.inl hq))).1
       · exact (LO.out q (Or.inr (Or.inr (Or.inl hq)))).1
       · exact (LO.out q (Or.inr (Or.inr (Or.inr ((inPt_stop hj).1 hq))))).1
      have g : ∀ y, InBk ⟨x.foes, x.spots, x.valves, stopAt x.parts j, x.seen⟩ f0 f1 f2 (some ⟨b, 0, none⟩) A1 A2 y → ¬ y = w.heap.size + 1 := fun y hy => by have := LO' y hy; omega
      exact ⟨f0, f1, f2, _, k0, k1, k2, k3, A1, C1, A2, C2, by unfold bookV; rw [stopAt_length], ((((OWN.out.only (Only.cell _ ⟨w.heap.size + 1, 0, none⟩ _) g).only (Only.cell _ ⟨w.heap.size + 1, 1, none⟩ _) g).only (Only.cell _ ⟨w.heap.size + 1, 2, none⟩ _) g).only (Only.cell _ ⟨w.heap.size + 1, 3, none⟩ _) g).only (Only.cell _ ⟨w.heap.size + 1, 4, none⟩ _) g, fun q hq => by have := LO' q hq; omega⟩
    · exact ((((b4.setCell (by simp) _).setCell (by simp) _).setCell (by simp) _).setCell (by simp) _).setCell (by simp) _

set_option maxRecDepth 100000 in
set_option maxHeartbeats 4000000 in
theorem implStop_own (x : Book) (af ap av aq : Option Addr) (cf cp cv cq : Nat) (n : Int) (w : World) (hin : BookIn w x af ap av aq) (fx : BookFit x) (R : BookRoom x) :
 Calls Tryz.prog 15 #[bookV x af ap av aq cf cp cv cq, .int .i64 n] w fun e w' => Gives w.heap.size (stopB x n) (stopC x n) e w' ∧ Below w.heap.size w w' := by
 unfold bookV
 obtain ⟨W0, hW0⟩ : ∃ W, W = ((w.alloc (.cells #[.slice af x.foes.length cf, .slice ap x.spots.length cp, .slice av x.valves.length cv, .slice aq x.parts.length cq, .int .i64 x.seen] 28)).alloc (.cells #[.int .i64 n] 3)).alloc (.cells #[.slice none 0 0, .slice none 0 0, .slice none 0 0, .slice none 0 0, .int .i64 0] 28) := ⟨_, rfl⟩
 have b0 : Below w.heap.size w W0 := by rw [hW0]; exact (((Below.refl _ _).alloc (Nat.le_refl _) _).alloc (by simp) _).alloc (by simp; omega) _
 have i0 : Row W0 w.heap.size 28 [.slice af x.foes.length cf, .slice ap x.spots.length cp, .slice av x.valves.length cv, .slice aq x.parts.length cq, .int .i64 x.seen] := by rw [hW0]; exact ((Row.new _ _ _).alloc _).alloc _
 have n0 : Row W0 (w.heap.size + 1) 3 [.int .i64 n] := by
  rw [hW0]
  have := (Row.new (w.alloc (.cells #[.slice af x.foes.length cf, .slice ap x.spots.length cp, .slice av x.valves.length cv, .slice aq x.parts.length cq, .int .i64 x.seen] 28)) 3 [.int .i64 n]).alloc (.cells #[.slice none 0 0, .slice none 0 0, .slice none 0 0, .slice none 0 0, .int .i64 0] 28)
  simpa using this
 have z0 : Row W0 (w.heap.size + 1 + 1) 28 [.slice none 0 0, .slice none 0 0, .slice none 0 0, .slice none 0 0, .int .i64 0] := by
  rw [hW0]
  have := Row.new ((w.alloc (.cells #[.slice af x.foes.length cf, .slice ap x.spots.length cp, .slice av x.valves.length cv, .slice aq x.parts.length cq, .int .i64 x.seen] 28)).alloc (.cells #[.int .i64 n] 3)) 28 [.slice none 0 0, .slice none 0 0, .slice none 0 0, .slice none 0 0, .int .i64 0]
  simpa using this
 have sz0 : W0.heap.size = w.heap.size + 3 := by rw [hW0]; simp
 have hS : ∀ w', Below (w.heap.size + 2) W0 w' → (w'.cell? ⟨w.heap.size, 0, none⟩ = some (.slice af x.foes.length cf) ∧ w'.cell? ⟨w.heap.size, 1, none⟩ = some (.slice ap x.spots.length cp) ∧ w'.cell? ⟨w.heap.size, 2, none⟩ = some (.slice av x.valves.length cv) ∧ w'.cell? ⟨w.heap.size, 3, none⟩ = some (.slice aq x.parts.length cq) ∧ w'.cell? ⟨w.heap.size, 4, none⟩ = some (.int .i64 x.seen) ∧ w'.cell? ⟨w.heap.size + 1, 0, none⟩ = some (.int .i64 n) ∧ Below (w.heap.size + 2) W0 w') := fun w' h =>
  ⟨(h.cell (p := ⟨w.heap.size, 0, none⟩) (by simp)).trans (i0.cell 0 rfl), (h.cell (p := ⟨w.heap.size, 1, none⟩) (by simp)).trans (i0.cell 1 rfl), (h.cell (p := ⟨w.heap.size, 2, none⟩) (by simp)).trans (i0.cell 2 rfl), (h.cell (p := ⟨w.heap.size, 3, none⟩) (by simp)).trans (i0.cell 3 rfl), (h.cell (p := ⟨w.heap.size, 4, none⟩) (by simp)).trans (i0.cell 4 rfl), (h.cell (p := ⟨w.heap.size + 1, 0, none⟩) (by simp)).trans (n0.cell 0 rfl), h⟩
 have hCode : ∀ W, Below (w.heap.size + 2) W0 W → Calls Tryz.prog 32 #[bookV x af ap av aq cf cp cv cq, .int .i64 n] W fun e w' => e = .returned (.int .i64 (stopC x n)) ∧ Below W.heap.size W w' := fun W h =>
  stopCode_any x af ap av aq cf cp cv cq n W (hin.later (b0.trans (h.mono (by omega)))) fx
 have hBeh : ∀ W, Below (w.heap.size + 2) W0 W → Calls Tryz.prog 31 #[bookV x af ap av aq cf cp cv cq, .int .i64 (stopC x n), .func (.func 33) #[] #[.pointer (some ⟨w.heap.size + 1, 0, none⟩)]] W fun e w' => Gives W.heap.size (stopB x n) (stopC x n) e w' ∧ Below W.heap.size W w' := fun W h =>
  behindStop_own x af ap av aq cf cp cv cq n (w.heap.size + 1) W (hin.later (b0.trans (h.mono (by omega)))) fx R ((h.cell (p := ⟨w.heap.size + 1, 0, none⟩) (by simp)).trans (n0.cell 0 rfl))
 unfold bookV at hCode hBeh
 have HZ : Hid (Row W0 (w.heap.size + 1 + 1) 28 [.slice none 0 0, .slice none 0 0, .slice none 0 0, .slice none 0 0, .int .i64 0] ∧ W0.heap.size = w.heap.size + 3 ∧ Below w.heap.size w W0) := ⟨z0, sz0, b0⟩
 clear hin fx R i0 n0 z0 sz0 b0
 generalize stopC x n = code at hCode hBeh ⊢
 generalize stopB x n = res at hBeh ⊢
 go_enter Tryz.func15, Tryz.ntmps15
 go_wp2_with fail
 rw [← hW0]
 clear hW0
 go_region_held3 (fun w' => (w'.cell? ⟨w.heap.size, 0, none⟩ = some (.slice af x.foes.length cf) ∧ w'.cell? ⟨w.heap.size, 1, none⟩ = some (.slice ap x.spots.length cp) ∧ w'.cell? ⟨w.heap.size, 2, none⟩ = some (.slice av x.valves.length cv) ∧ w'.cell? ⟨w.heap.size, 3, none⟩ = some (.slice aq x.parts.length cq) ∧ w'.cell? ⟨w.heap.size, 4, none⟩ = some (.int .i64 x.seen) ∧ w'.cell? ⟨w.heap.size + 1, 0, none⟩ = some (.int .i64 n) ∧ Below (w.heap.size + 2) W0 w'))
  ((refine hS _ ?_; (repeat (first | assumption | exact Below.refl _ _ | refine Below.drew ?_ | refine Below.setCell ?_ (by (try simp); (try omega)) _))))
  (first
   | (go_at_call 32; refine (hCode _ (by (repeat (first | assumption | exact Below.refl _ _ | refine Below.drew ?_ | refine Below.setCell ?_ (by (try simp); (try omega)) _)))).mono ?_; rintro e w1 ⟨rfl, hb1⟩; have hb1z : RowKit.Below W0.heap.size W0 w1 := (by refine below_next ?_ hb1; (repeat (first | assumption | exact Below.refl _ _ | refine Below.drew ?_ | refine Below.setCell ?_ (by (try simp); (try omega)) _))); have hb1w : RowKit.Below (w.heap.size + 2) W0 w1 := hb1z.mono (by have := HZ.out.2.1; omega))
   | (go_at_call 31; refine (hBeh _ (by (repeat (first | assumption | exact Below.refl _ _ | refine Below.drew ?_ | refine Below.setCell ?_ (by (try simp); (try omega)) _)))).mono ?_; rintro e w2 ⟨⟨f0, f1, f2, f3, k0, k1, k2, k3, A1, C1, A2, C2, rfl, own, lo⟩, hb2⟩; have hb2z : RowKit.Below W0.heap.size W0 w2 := (by refine below_next ?_ hb2; (repeat (first | assumption | exact Below.refl _ _ | refine Below.drew ?_ | refine Below.setCell ?_ (by (try simp); (try omega)) _))); have hb2w : RowKit.Below (w.heap.size + 2) W0 w2 := hb2z.mono (by have := HZ.out.2.1; omega); have z2 := HZ.out.1.later hb2z; have r0 := z2.cell 0 rfl; have r1 := z2.cell 1 rfl; have r2 := z2.cell 2 rfl; have r3 := z2.cell 3 rfl; have r4 := z2.cell 4 rfl; have l0 := z2.frozen 0; have l1 := z2.frozen 1; have l2 := z2.frozen 2; have l3 := z2.frozen 3; have l4 := z2.frozen 4; unfold bookV))
 all_goals
  have LO : Hid (∀ q, InBk res f0 f1 f2 f3 A1 A2 q → w.heap.size + 3 ≤ q) := fun q hq => by
   have h1 := lo q hq
   have h2 := hb1z.size
   have h3 := HZ.out.2.1
   have h4 : w1.heap.size ≤ q := h1
   omega
  have b2 := HZ.out.2.2.trans (hb2z.mono HZ.out.2.2.size)
  rename_i hHeld
  clear hHeld hS hCode hBeh hb2 hb2w hb2z hb1 hb1w hb1z lo
  go_wp2
  refine bodyPost_ret (v := .tuple #[.agg #[.slice f0 res.foes.length k0, .slice f1 res.spots.length k1, .slice f2 res.valves.length k2, .slice f3 res.parts.length k3, .int .i64 res.seen], .int .i64 code])
   (by simp [results, Tryz.results15, go_sem, r0, r1, r2, r3, r4]) rfl ⟨?_, ?_⟩
  · have g : ∀ y, InBk res f0 f1 f2 f3 A1 A2 y → ¬ y = w.heap.size + 1 + 1 := fun y hy => by have := LO.out y hy; omega
    exact ⟨f0, f1, f2, f3, k0, k1, k2, k3, A1, C1, A2, C2, rfl, ((((own.only (Only.cell _ ⟨w.heap.size + 1 + 1, 0, none⟩ _) g).only (Only.cell _ ⟨w.heap.size + 1 + 1, 1, none⟩ _) g).only (Only.cell _ ⟨w.heap.size + 1 + 1, 2, none⟩ _) g).only (Only.cell _ ⟨w.heap.size + 1 + 1, 3, none⟩ _) g).only (Only.cell _ ⟨w.heap.size + 1 + 1, 4, none⟩ _) g, fun q hq => by have := LO.out q hq; omega⟩
  · exact ((((b2.setCell (by simp; omega) _).setCell (by simp; omega) _).setCell (by simp; omega) _).setCell (by simp; omega) _).setCell (by simp; omega) _

end Go.Proofs.YtfmhkicncgccjaaGreat

