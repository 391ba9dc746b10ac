/- Joined: FnMayProof. -/
import Derived.Test.YtfmhkicncgccjaaGreatRows
import Derived.ProofKit
import Derived.OpenShut
import Derived.ChangeMaps5
import Derived.Test.YtfmhkicncgccjaaGreatFm05
import Derived.Test.YtfmhkicncgccjaaGreatFm54
/- For all bytes and all more bytes, of whatever number, the law FnMay returns true, and both read behind the call as before. -/
namespace Go.Proofs.YtfmhkicncgccjaaGreat
open Go.RowKit Go.Sort
open Go.ChangeShapes Go.WideShapes Go.ChangeAt
set_option linter.unusedSimpArgs false
set_option linter.unusedVariables false

theorem own : ownKnob Tryz.prog.godebug = none := by kernel_rfl
theorem laidOut : laidOutB Tryz.prog = true := by kernel_rfl
theorem byte_wf {n : Int} (h : (Lit.int .u8 n).wf = true) : 0 ≤ n ∧ n < 256 := by
 have h' : (decide (IntKind.u8.min ≤ n) && decide (n ≤ IntKind.u8.max)) = true := h
 rw [Bool.and_eq_true, decide_eq_true_eq, decide_eq_true_eq] at h'
 have e1 : IntKind.u8.min = 0 := rfl
 have e2 : IntKind.u8.max = 255 := rfl
 rw [e1, e2] at h'
 omega
theorem cellsByte : Tryz.prog.cellsOf 5 = 1 := by kernel_rfl
section
variable {H : Type} {enc : TypeId × Value → H} {W : World}
set_option maxRecDepth 100000 in
theorem open_bytes {base : Nat} {v : Value} {d : DataW H} {p : List MemPlace} (hv : Value.okWide Tryz.prog W .any base 22 v) (h : DataW.Trod enc Tryz.prog W 0 (fun _ => true) true 22 v d p) :
 ∃ (a : Option Addr) (n cap : Nat) (f : Nat → Nat), v = .slice a n cap ∧ RowAt W a n 1 (fun k _ => .int .u8 (f k)) ∧ (∀ k, f k < 256) ∧ n ≤ cap := by
 obtain ⟨a0, len0, cap0, rfl⟩ := okWide_slice Tryz.underlying22 hv
 obtain ⟨fuel, hf⟩ := h
 rcases open_ints Tryz.underlying22 Tryz.underlying5 cellsByte hf with ⟨hcs, _⟩ | ⟨a, len, cap, zs, hcs, _, hl, hm, hz, _, hcell, hwf⟩
 · have hcs' : [Value.slice a0 len0 cap0] = [.slice none 0 0] := hcs
   cases hcs'
   exact ⟨none, 0, 0, fun _ => 0, rfl, fun k hk => absurd hk (Nat.not_lt_zero _), fun _ => by show 0 < 256; omega, Nat.le_refl _⟩
 · have hcs' : [Value.slice a0 len0 cap0] = [.slice (some a) len cap] := hcs
   cases hcs'
   have hz' : zs.length = cap0 := by simpa using hz
   have bd : ∀ k, 0 ≤ zs.getD k 0 ∧ zs.getD k 0 < 256 := fun k => by
    by_cases hk : k < zs.length
    · have e : zs.getD k 0 = zs[k] := by simp [hk]
      rw [e]
      exact byte_wf (hwf _ (List.getElem_mem hk))
    · have e : zs.getD k 0 = 0 := by simp [hk]
      rw [e]; omega
   refine ⟨some a, len0, cap0, fun k => (zs.getD k 0).toNat, rfl, ?_, fun k => by have := bd k; show (zs.getD k 0).toNat < 256; omega, hl⟩
   refine rowAt_of (by omega) (fun k hk j hj => ?_)
   have hj0 : j = 0 := by omega
   subst hj0
   have e1 : (a.add (k * 1)).add 0 = a.add k := by rw [Nat.mul_one]; simp [Addr.add]
   rw [e1, hcell k (by omega)]
   have := bd k
   have e2 : ((zs.getD k 0).toNat : Int) = zs.getD k 0 := by omega
   rw [e2]
end
set_option maxRecDepth 100000 in
theorem lifted (os : Os) (started : os.Started) (H : Type) (enc : TypeId × Value → H) :
 ReturnsInHanded {} Tryz.checked os 3 .any (Rows.fnMaySpec.pre6 enc Tryz.prog Tryz.f3 Rows.fnMayRow.domain false) (Rows.fnMaySpec.post enc Tryz.prog Tryz.f3 false true false false) := by
 refine returnsInHanded_of_change (C := Tryz.checked) own started (by kernel_rfl) Tryz.func3
  (ChangeSpec.witness6 (enc := enc) (C := Tryz.checked) false ⟨#[], #[.slice none 0 0, .slice none 0 0], []⟩ 8 (by kernel_rfl) (by kernel_rfl) (by kernel_rfl) (by kernel_rfl)) ?_
 intro W base args ds gs before hval0 hW _ _
 have hval : ∀ (j : Nat) t v, Tryz.f3.params[j]? = some t → args[j]? = some v → Value.okWide Tryz.prog W .any base t v := hval0
 have hW' := hW
 obtain ⟨p, q, hA0, hV, rfl, hfz, hnd⟩ := hW
 have hA : DataW.TrodAll enc Tryz.prog W 0 (fun _ => true) true Tryz.f3.params.toList args.toList ds p := hA0
 rw [Tryz.params3] at hA hval
 obtain ⟨v0, v1, d0, d1, p0, p1, rfl, rfl, rfl, h0, h1⟩ := trodAll_two hA
 obtain ⟨rfl, rfl⟩ := trodVars_none hV
 obtain ⟨a1, n1, c1, f1, rfl, hr1, hf1, hc1⟩ := open_bytes (hval 0 22 v0 rfl rfl) h0
 obtain ⟨a2, n2, c2, f2, rfl, hr2, hf2, hc2⟩ := open_bytes (hval 1 22 v1 rfl rfl) h1
 clear hA0 hval0
 simp only [List.append_nil] at hW'
 have hlt : ∀ y ∈ p0 ++ p1, y.block < W.heap.size := fun y hy => by simpa using hW'.lt y hy
 refine (fnMay_any a1 n1 c1 f1 a2 n2 c2 f2 W hr1 hf1 hc1 hr2 hf2 hc2).mono fun e W' ⟨he, hb⟩ => ?_
 subst he
 have k0 := Below.trod laidOut (by kernel_rfl) (of_decide_eq_true (by kernel_rfl)) h0 hb (fun y hy => hlt y (List.mem_append_left _ hy))
 have k1 := Below.trod laidOut (by kernel_rfl) (of_decide_eq_true (by kernel_rfl)) h1 hb (fun y hy => hlt y (List.mem_append_right _ hy))
 exact ⟨_, rfl, _, _, _, [], p0 ++ p1, [], hW', trodAll_mk1 (shut_bool Tryz.underlying4 _), trodAll_mk2 k0 k1, rfl, hb.frame _, fun h => by cases h⟩

theorem proved : Rows.FnMaySaid :=
 OpenClaim.holds_of_wide 3 Tryz.f3 rfl rfl rfl rfl rfl rfl rfl ⟨rfl, rfl, rfl, rfl, rfl⟩ rfl rfl rfl rfl rfl (by kernel_rfl) Tryz.func3 (by kernel_rfl)
  (of_decide_eq_true (by kernel_rfl)) (by unfold Func.isWrapper; first | (rw [if_pos (by decide +kernel)]; kernel_rfl) | (rw [if_neg (by decide +kernel)]; exact ⟨rfl, rfl⟩))
  (fun os started H enc _ => lifted os started H enc)

end Go.Proofs.YtfmhkicncgccjaaGreat

