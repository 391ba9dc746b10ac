/- For every want, of whatever size, the law FnExactClaimWantOk returns true, and the want reads behind the call as before. -/
import Derived.Test.YtfmhkicncgccjaaRows
import Derived.Test.YtfmhkicncgccjaaOpen
import Derived.Test.YtfmhkicncgccjaaWantLaw
import Derived.ProofKit
import Derived.OpenShut
namespace Go.Proofs.Ytfmhkicncgccjaa
open Go.RowKit Go.Sort
open Go.ChangeShapes Go.WideShapes Go.ChangeAt

theorem own : ownKnob Try.prog.godebug = none := by kernel_rfl
theorem laidOut : laidOutB Try.prog = true := by kernel_rfl
theorem cellsWant : Try.prog.cellsOf 25 = 6 := by kernel_rfl
theorem cellsInt : Try.prog.cellsOf 3 = 1 := by kernel_rfl
theorem cellsStr : Try.prog.cellsOf 9 = 1 := by kernel_rfl
theorem cellsStrs : Try.prog.cellsOf 22 = 1 := by kernel_rfl
theorem cellsUses : Try.prog.cellsOf 23 = 1 := by kernel_rfl
theorem cellsUse : Try.prog.cellsOf 49 = 3 := by kernel_rfl

section
variable {H : Type} {enc : TypeId × Value → H} {W : World}

theorem open_want {base : Nat} {v : Value} {d : DataW H} {p : List MemPlace} (hv : Value.okWide Try.prog W .any base 25 v) (h : DataW.Trod enc Try.prog W 0 (fun _ => true) true 25 v d p) :
    ∃ (x : Want) (a2 a3 a4 a5 : Option Addr) (c2 c3 c4 c5 : Nat), v = wantW x a2 a3 a4 a5 c2 c3 c4 c5 ∧ WantIn W x a2 a3 a4 a5 ∧ WantFit x := by
  obtain ⟨cs, rfl, hsz⟩ := okWide_struct Try.underlying25 hv
  rw [cellsWant] at hsz
  obtain ⟨cl⟩ := cs
  match cl, hsz with
  | [v0, v1, v2, v3, v4, v5], _ =>
    obtain ⟨fuel, hf⟩ := h
    obtain ⟨xs, n, _, _, _, hxl, hx⟩ := DataW.trod_struct Try.underlying25 hf
    match xs, hxl with
    | [y0, y1, y2, y3, y4, y5], _ =>
      have t0 := hx 0 _ rfl
      have t1 := hx 1 _ rfl
      have t2 := hx 2 _ rfl
      have t3 := hx 3 _ rfl
      have t4 := hx 4 _ rfl
      have t5 := hx 5 _ rfl
      simp [Value.cells, cellsInt, cellsStrs, cellsUses] at t0 t1 t2 t3 t4 t5
      obtain ⟨number, e0, _, _⟩ := DataW.trod_int Try.underlying3 t0
      obtain ⟨kind, e1, _, _⟩ := DataW.trod_int Try.underlying3 t1
      obtain ⟨a2, stuffs, c2, rfl, g2, f2⟩ := open_texts Try.underlying22 Try.underlying9 cellsStr t2
      obtain ⟨a3, uses, c3, rfl, g3, f3, f3'⟩ := open_uses Try.underlying23 Try.underlying49 cellsUse Try.underlying9 Try.underlying3 Try.underlying3 cellsStr cellsInt cellsInt rfl rfl rfl t3
      obtain ⟨a4, opens, c4, rfl, g4, f4⟩ := open_texts Try.underlying22 Try.underlying9 cellsStr t4
      obtain ⟨a5, shuts, c5, rfl, g5, f5⟩ := open_texts Try.underlying22 Try.underlying9 cellsStr t5
      simp at e0 e1
      subst e0 e1
      exact ⟨⟨number, kind, stuffs, uses, opens, shuts⟩, a2, a3, a4, a5, c2, c3, c4, c5, rfl, ⟨g2, g3, g4, g5⟩, ⟨f2, f3, f3', f4, f5⟩⟩
end

set_option maxRecDepth 100000 in
theorem lifted (os : Os) (started : os.Started) (H : Type) (enc : TypeId × Value → H) :
    ReturnsInHanded {} Try.checked os 3 .any (Rows.fnExactClaimWantOkSpec.pre6 enc Try.prog Try.f3 Rows.fnExactClaimWantOkRow.domain false) (Rows.fnExactClaimWantOkSpec.post enc Try.prog Try.f3 false true false false) := by
  refine returnsInHanded_of_change (C := Try.checked) own started (by kernel_rfl) Try.func3
    (ChangeSpec.witness6 (enc := enc) (C := Try.checked) false ⟨#[], #[.agg #[.int .i64 0, .int .i64 0, .slice none 0 0, .slice none 0 0, .slice none 0 0, .slice none 0 0]], []⟩ 8 (by kernel_rfl) (by kernel_rfl) (by kernel_rfl) (by kernel_rfl)) ?_
  intro W base args ds gs before hval0 hW _ _
  have hval : ∀ (j : Nat) t v, Try.f3.params[j]? = some t → args[j]? = some v → Value.okWide Try.prog W .any base t v := hval0
  have hW' := hW
  obtain ⟨p, q, hA0, hV, rfl, hfz, hnd⟩ := hW
  have hA : DataW.TrodAll enc Try.prog W 0 (fun _ => true) true Try.f3.params.toList args.toList ds p := hA0
  rw [Try.params3] at hA hval
  obtain ⟨v0, d0, rfl, rfl, h0⟩ := trodAll_one hA
  obtain ⟨rfl, rfl⟩ := trodVars_none hV
  obtain ⟨x, a2, a3, a4, a5, c2, c3, c4, c5, rfl, hin, hfit⟩ := open_want (hval 0 25 v0 rfl rfl) h0
  clear hA0 hval0
  simp only [List.append_nil] at hW'
  have hlt : ∀ y ∈ p, y.block < W.heap.size := fun y hy => by simpa using hW'.lt y hy
  refine (law_any x a2 a3 a4 a5 c2 c3 c4 c5 W hin hfit).mono fun e W' ⟨he, hb⟩ => ?_
  subst he
  exact ⟨_, rfl, _, _, _, [], p, [], hW', trodAll_mk1 (shut_bool Try.underlying4 _), trodAll_mk1 (Below.trod laidOut (by kernel_rfl) (of_decide_eq_true (by kernel_rfl)) h0 hb hlt), rfl, hb.frame _, fun h => by cases h⟩

theorem proved : Rows.FnExactClaimWantOkSaid :=
  OpenClaim.holds_of_wide 3 Try.f3 rfl rfl rfl rfl rfl rfl rfl ⟨rfl, rfl, rfl, rfl, rfl⟩ rfl rfl rfl rfl rfl (by kernel_rfl) Try.func3 (by kernel_rfl)
    (of_decide_eq_true (by kernel_rfl)) (by unfold Func.isWrapper; first | (rw [if_pos (by decide +kernel)]; kernel_rfl) | (rw [if_neg (by decide +kernel)]; exact ⟨rfl, rfl⟩))
    (fun os started H enc _ => lifted os started H enc)

end Go.Proofs.Ytfmhkicncgccjaa
