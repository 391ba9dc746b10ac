/- Joined: CdR. -/
import Derived.Test.YtfmhkicncgccjaaGreatDoorPc01
import Derived.RangeFuncNested
import Derived.RangeFuncBound
import Derived.RangeFuncCalls
import Derived.RangeFuncLeaves
import Derived.WalkKit
/- A range over a function that is left at the first value that is not nil: what its caller owes, and what it owes of the iterator. -/
namespace Go.Proofs.YtfmhkicncgccjaaGreatDoor
open Go.RowKit
set_option linter.unusedSimpArgs false
set_option linter.unusedVariables false

/-- What the world keeps behind a round that leaves: all blocks from B on that were there. -/
def KeepsHigh (B : Nat) (W W' : World) : Prop := W.heap.size ≤ W'.heap.size ∧ ∀ k, B ≤ k → k < W.heap.size → W'.heap[k]? = W.heap[k]?
theorem KeepsHigh.mono {B B' : Nat} {W W' : World} (h : KeepsHigh B W W') (hb : B ≤ B') : KeepsHigh B' W W' := ⟨h.1, fun k hk => h.2 k (Nat.le_trans hb hk)⟩

/-- The function value of number gf with what it has bound, ranged over in a world behind w0: it hands nil to yield, some times or never, and then either ends, or hands on the one value v, yield having said that there shall be no more. -/
def FirstC (P : Program) (gf : Nat) (lb : Array Value) (w0 : World) (H : Option Value) : Prop :=
  ∀ (l : Nat) (Jx : World → Prop) (W : World), Below w0.heap.size w0 W → (∀ A A', Jx A → Below W.heap.size A A' → Jx A') →
    (∀ W1, Below W.heap.size W W1 → YieldAt Fence.wide 0 P l #[.nilIface] W1 fun e W' => e = .returned (.bool true) ∧ Below W1.heap.size W1 W') →
    (∀ v, H = some v → ∀ W1, Below W.heap.size W W1 → YieldAt Fence.wide 0 P l #[v] W1 fun e W' => e = .returned (.bool false) ∧ Jx W' ∧ KeepsHigh W.heap.size W1 W') →
    CallsIn Fence.wide 0 P gf (#[.func (.yield l) #[] #[]] ++ lb) W fun e W' => (∃ v, e = .returned v) ∧ ((H = none ∧ Below W.heap.size W W') ∨ (H ≠ none ∧ Jx W'))

theorem below_put (B : Nat) (W : World) (l : Nat) (o : Obj) (h : B ≤ l) : Below B W (W.putObj l o) :=
  ⟨rfl, rfl, rfl, by simp, fun k hk => World.putObj_heap_other (by omega)⟩
/-- A block that is put and put back. -/
theorem below_back {W W' : World} {l : Nat} {o o1 : Obj} (h : W.heap[l]? = some o) (hb : Below W.heap.size (W.putObj l o1) W') : Below W.heap.size W (W'.putObj l o) := by
  refine ⟨hb.os, hb.tape, hb.output, ?_, fun k hk => ?_⟩
  · have := hb.size
    simp at this ⊢
    exact this
  · have hl := (Array.getElem?_eq_some_iff.1 h).1
    have hs := hb.size
    simp at hs
    by_cases e : k = l
    · subst e
      rw [World.putObj_heap_same (by omega), h]
    · rw [World.putObj_heap_other e, hb.block k hk, World.putObj_heap_other e]

theorem wpIn_rangeFirst {P : Program} {g : Operand} {ps : Array Tmp} {assign body : Code} {Q : Exit → Act → World → Prop} {a : Act} {w w0 : World} {gf : Nat} {lb : Array Value} {H : Option Value}
    (hg : a.eval g = .func (.func gf) #[] lb) (eg : ∀ args w, (callFunc gf args).run P w = .ok (.enter gf args) w) (hseq : FirstC P gf lb w0 H) (hb0 : Below w0.heap.size w0 w) (hps : ps.size = 1)
    (Ix : World → Prop) (hIx : ∀ A A', Ix A → Below w.heap.size A A' → Ix A') (a₁ : Value → Act)
    (hassign : ∀ (l : Nat) (v : Value) (W : World) (K : Act → World → Prop), K (a₁ v) W →
      assign.wpIn (Fence.wide.inRound l) 0 P (Exit.then K (fun _ _ _ => False)) { tmps := (ps.zip #[v]).foldl (fun t (p, v) => t.setIfInBounds p v) a.tmps, defers := [] } W)
    (hnil : ∀ (l : Nat) (W : World), Below w.heap.size w W → body.wpIn (Fence.wide.inRound l) 0 P (fun e _ W' => e = .normal ∧ Below W.heap.size W W') (a₁ .nilIface) W)
    (hhit : ∀ v, H = some v → ∀ (l : Nat) (W : World), Below w.heap.size w W → body.wpIn (Fence.wide.inRound l) 0 P (fun e _ W' => e = .ret ∧ KeepsHigh w.heap.size W W' ∧ Ix W') (a₁ v) W)
    (hdone : H = none → ∀ (D : Nat) (W : World), w.heap.size ≤ D → Below w.heap.size w W → W.heap[D]? = some (.deferred (some [])) → Q .normal { a with defers := { target := .collected D, args := #[] } :: a.defers } W)
    (hstop : H ≠ none → ∀ (D : Nat) (W : World), w.heap.size ≤ D → Ix W → W.heap[D]? = some (.deferred (some [])) → Code.ret.wpIn Fence.wide 0 P Q { a with defers := { target := .collected D, args := #[] } :: a.defers } W) :
    (Code.rangeFunc g ps assign body).wpIn Fence.wide 0 P Q a w := by
  refine wpIn_rangeFunc fun fn hfn => ?_
  let rec0 : LoopState → Option Code → Loop := fun st pe => { state := st, pending := pe, fn, tmps := a.tmps, params := ps, assign, body, defers := w.heap.size }
  obtain ⟨W1, hW1⟩ : ∃ W1, (w.alloc (.deferred (some []))).alloc (.loop (rec0 .ready none)) = W1 := ⟨_, rfl⟩
  have hL : W1.heap[w.heap.size + 1]? = some (.loop (rec0 .ready none)) := by
    have := World.alloc_heap_new (w.alloc (.deferred (some []))) (.loop (rec0 .ready none))
    rw [World.size_alloc, hW1] at this
    exact this
  have hK : W1.heap[w.heap.size]? = some (.deferred (some [])) := by
    rw [← hW1]
    exact (Below.heap_alloc _ _ _ (by simp)).trans (World.alloc_heap_new w _)
  have hsz : W1.heap.size = w.heap.size + 2 := by rw [← hW1]; simp
  have hwW : Below w.heap.size w W1 := by
    rw [← hW1]
    exact ((Below.refl _ w).alloc (Nat.le_refl _) _).alloc (by simp) _
  refine ⟨w.heap.size + 1, [{ target := .collected w.heap.size, args := #[] }], W1, { target := .fn (.func gf) lb, args := #[.func (.yield (w.heap.size + 1)) #[] #[]] }, W1, gf,
    #[.func (.yield (w.heap.size + 1)) #[] #[]] ++ lb, W1, ?_, ?_, fun _ _ => trivial, ?_, (fun h => by cases h), ?_⟩
  · rw [← hW1]; exact run_enterLoop_outer _ _ _ _ _
  · simp only [resolve, hg]
    simp [go_sem]
  · simp [invoke, go_sem, eg]
  have look : ∀ {W : World}, Below W1.heap.size W1 W → W.heap[w.heap.size + 1]? = some (.loop (rec0 .ready none)) ∧ W.heap[w.heap.size]? = some (.deferred (some [])) ∧ Below w.heap.size w W := fun {W} hb =>
    ⟨(hb.block _ (by omega)).trans hL, (hb.block _ (by omega)).trans hK, hwW.trans (hb.mono (by omega))⟩
  refine (hseq (w.heap.size + 1) (fun W => Ix W ∧ W.heap[w.heap.size + 1]? = some (.loop (rec0 .done (some .ret))) ∧ W.heap[w.heap.size]? = some (.deferred (some []))) W1
    (hb0.trans (hwW.mono hb0.size)) ?_ ?_ ?_).mono ?_
  · rintro A A' ⟨h1, h2, h3⟩ hb
    have e1 := hb.block (w.heap.size + 1) (by omega)
    have e2 := hb.block w.heap.size (by omega)
    exact ⟨hIx _ _ h1 (hb.mono (by omega)), e1.trans h2, e2.trans h3⟩
  · intro W hb
    obtain ⟨hl, hk, hbw⟩ := look hb
    have hlt := (Array.getElem?_eq_some_iff.1 hl).1
    refine ⟨_, _, _, _, run_yield hl (by simp [rec0, hps]), roundIn_of_wpIn hfn (hassign _ _ W _ ⟨_, run_beginRound hl rfl, ?_⟩)⟩
    refine wpIn_mono (hnil _ _ (hbw.trans (below_put _ _ _ _ (by omega)))) ?_
    rintro e a3 W3 ⟨rfl, hb3⟩
    have hl3 : W3.heap[w.heap.size + 1]? = some (.loop { rec0 .ready none with state := .busy }) := (hb3.block _ (by simp; omega)).trans (World.putObj_heap_same hlt)
    refine ⟨_, _, run_endRound none hl3, rfl, ?_⟩
    have hbk := below_back (o1 := .loop { rec0 .ready none with state := .busy }) (W' := W3) hl (by simpa using hb3)
    exact hbk
  · intro v hv W hb
    obtain ⟨hl, hk, hbw⟩ := look hb
    have hlt := (Array.getElem?_eq_some_iff.1 hl).1
    refine ⟨_, _, _, _, run_yield hl (by simp [rec0, hps]), roundIn_of_wpIn hfn (hassign _ _ W _ ⟨_, run_beginRound hl rfl, ?_⟩)⟩
    refine wpIn_mono (hhit v hv _ _ (hbw.trans (below_put _ _ _ _ (by omega)))) ?_
    rintro e a3 W3 ⟨rfl, ⟨hs3, hk3⟩, hi3⟩
    have hl3 : W3.heap[w.heap.size + 1]? = some (.loop { rec0 .ready none with state := .busy }) := (hk3 _ (by omega) (by simp; omega)).trans (World.putObj_heap_same hlt)
    have hd3 : W3.heap[w.heap.size]? = some (.deferred (some [])) := (hk3 _ (by omega) (by simp; omega)).trans ((World.putObj_heap_other (by omega)).trans hk)
    refine ⟨_, _, run_endRound (some .ret) hl3, rfl, ⟨hIx _ _ hi3 (below_put _ _ _ _ (by omega)), ?_, (World.putObj_heap_other (by omega)).trans hd3⟩, by simpa using hs3, fun k hk1 hk2 => ?_⟩
    · exact World.putObj_heap_same (Array.getElem?_eq_some_iff.1 hl3).1
    · rw [World.putObj_heap_other (by omega), hk3 k (by omega) (by simpa using hk2), World.putObj_heap_other (by omega)]
  · rintro e W ⟨⟨v, rfl⟩, (⟨hn, hb⟩ | ⟨hn, hi, hl, hk⟩)⟩
    · obtain ⟨hl, hk, hbw⟩ := look hb
      exact ⟨none, _, run_endLoop hl (by simp [rec0]), hdone hn _ _ (Nat.le_refl _) (hbw.trans (below_put _ _ _ _ (by omega))) ((World.putObj_heap_other (by omega)).trans hk)⟩
    · exact ⟨some .ret, _, run_endLoop hl (by simp [rec0]), hstop hn _ _ (Nat.le_refl _) (hIx _ _ hi (below_put _ _ _ _ (by omega))) ((World.putObj_heap_other (by omega)).trans hk)⟩

end Go.Proofs.YtfmhkicncgccjaaGreatDoor
