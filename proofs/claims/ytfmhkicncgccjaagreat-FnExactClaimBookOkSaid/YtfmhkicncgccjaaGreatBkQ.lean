/- The map's answers are what the parts ahead hold. -/
import Derived.Test.YtfmhkicncgccjaaGreatBkM5
import Derived.Test.YtfmhkicncgccjaaGreatBkP
namespace Go.Proofs.YtfmhkicncgccjaaGreat
open Go.RowKit Go.Sort
set_option linter.unusedSimpArgs false
set_option linter.unusedVariables false

theorem toList_is (s : ByteArray) : s.toList = s.data.toList := ByteArray.toList_eq s
theorem eqS_iff {s t : ByteArray} : eqS s t = true ↔ s = t := by
  unfold eqS
  rw [beq_iff_eq, toList_is, toList_is]
  exact ⟨fun h => Go.WideShapes.bytes_inj h, fun h => by rw [h]⟩

theorem hasB_iff {ss : List ByteArray} {s : ByteArray} : hasB ss s = true ↔ ∃ i, i < ss.length ∧ gs ss i = s := by
  unfold hasB
  rw [anyTo_iff]
  simp only [eqS_iff]
theorem shareB_iff {xs ys : List ByteArray} : shareB xs ys = true ↔ ∃ i, i < xs.length ∧ hasB ys (gs xs i) = true := by
  unfold shareB; rw [anyTo_iff]

theorem bumps_pos {f : Int → ByteArray → Nat} {way : Int} {ss : List ByteArray} : ∀ (k : Nat) (y : Int) (m : ByteArray), 0 < bumps f way ss k y m ↔ 0 < f y m ∨ (y = way ∧ ∃ i, i < k ∧ gs ss i = m)
  | 0, y, m => by simp [bumps]
  | k + 1, y, m => by
    have ih := bumps_pos (f := f) (way := way) (ss := ss) k y m
    unfold bumps bump
    constructor
    · intro h
      by_cases e : y = way ∧ m = gs ss k
      · exact Or.inr ⟨e.1, k, by omega, e.2.symm⟩
      · rw [if_neg e] at h
        rcases ih.1 h with h | ⟨h1, i, h2, h3⟩
        · exact Or.inl h
        · exact Or.inr ⟨h1, i, by omega, h3⟩
    · intro h
      by_cases e : y = way ∧ m = gs ss k
      · rw [if_pos e]; omega
      · rw [if_neg e]
        refine ih.2 ?_
        rcases h with h | ⟨h1, i, h2, h3⟩
        · exact Or.inl h
        · refine Or.inr ⟨h1, i, ?_, h3⟩
          have : i ≠ k := fun e1 => e ⟨h1, by rw [← h3, e1]⟩
          omega

theorem countsTo_succ (x : Book) (k : Nat) : countsTo x (k + 1) = bumps (bumps (bumps (countsTo x k) 0 (usesN (gq x.parts k).want) (gq x.parts k).want.uses.length) 1 (gq x.parts k).want.opens (gq x.parts k).want.opens.length) 2 (gq x.parts k).want.shuts (gq x.parts k).want.shuts.length := rfl

theorem counts_pos (x : Book) (m : ByteArray) : ∀ k, (0 < countsTo x k 0 m ↔ ∃ j, j < k ∧ hasB (usesN (gq x.parts j).want) m = true) ∧ (0 < countsTo x k 1 m ↔ ∃ j, j < k ∧ hasB (gq x.parts j).want.opens m = true) ∧ (0 < countsTo x k 2 m ↔ ∃ j, j < k ∧ hasB (gq x.parts j).want.shuts m = true)
  | 0 => by simp [countsTo]
  | k + 1 => by
    obtain ⟨i0, i1, i2⟩ := counts_pos x m k
    have st : ∀ {q : Nat → Prop}, (∃ j, j < k + 1 ∧ q j) ↔ (∃ j, j < k ∧ q j) ∨ q k := fun {q} =>
      ⟨fun ⟨j, hj, h⟩ => if e : j = k then Or.inr (e ▸ h) else Or.inl ⟨j, by omega, h⟩, fun h => h.elim (fun ⟨j, hj, h⟩ => ⟨j, by omega, h⟩) (fun h => ⟨k, by omega, h⟩)⟩
    refine ⟨?_, ?_, ?_⟩
    · rw [st, ← i0, hasB_iff, usesN_len]; rw [countsTo_succ, bumps_pos, bumps_pos, bumps_pos]; simp
    · rw [st, ← i1, hasB_iff]; rw [countsTo_succ, bumps_pos, bumps_pos, bumps_pos]; simp
    · rw [st, ← i2, hasB_iff]; rw [countsTo_succ, bumps_pos, bumps_pos, bumps_pos]; simp

theorem apart_same (x : Book) : allTo x.parts.length (apartAt x) = apartB x := by
  unfold apartB
  congr 1
  funext k
  rw [Bool.eq_iff_iff, allTo_iff]
  unfold apartAt
  rw [Bool.not_eq_true', ← Bool.not_eq_true, Bool.or_eq_true]
  constructor
  · intro h j hj
    rw [Bool.not_eq_true', ← Bool.not_eq_true]
    intro hm
    apply h
    unfold meetB crossB at hm
    simp only [Bool.or_eq_true, shareB_iff] at hm
    unfold usedB crossI
    simp only [Bool.or_eq_true, anyTo_iff, decide_eq_true_eq]
    rcases hm with ⟨i, hi, h1⟩ | ((⟨i, hi, h1⟩ | ⟨i, hi, h1⟩) | ⟨i, hi, h1⟩)
    · rw [usesN_len] at hi
      refine Or.inl ⟨i, hi, (counts_pos x _ k).1.2 ⟨j, hj, ?_⟩⟩
      have e : gs (usesN (gq x.parts k).want) i = (gu (gq x.parts k).want.uses i).name := by unfold gs; rw [List.getD_eq_getElem?_getD, usesN_at hi]; rfl
      rw [← e]; exact h1
    · exact Or.inr (Or.inl ⟨i, hi, Or.inl ((counts_pos x _ k).2.1.2 ⟨j, hj, h1⟩)⟩)
    · exact Or.inr (Or.inl ⟨i, hi, Or.inr ((counts_pos x _ k).2.2.2 ⟨j, hj, h1⟩)⟩)
    · exact Or.inr (Or.inr ⟨i, hi, (counts_pos x _ k).2.1.2 ⟨j, hj, h1⟩⟩)
  · intro h hm
    unfold usedB crossI at hm
    simp only [Bool.or_eq_true, anyTo_iff, decide_eq_true_eq] at hm
    have key : ∀ j, j < k → ¬ (shareB (usesN (gq x.parts k).want) (usesN (gq x.parts j).want) = true ∨ ((shareB (gq x.parts k).want.opens (gq x.parts j).want.opens = true ∨ shareB (gq x.parts k).want.opens (gq x.parts j).want.shuts = true) ∨ shareB (gq x.parts k).want.shuts (gq x.parts j).want.opens = true)) := by
      intro j hj hc
      have := h j hj
      rw [Bool.not_eq_true', ← Bool.not_eq_true] at this
      apply this
      unfold meetB crossB
      simp only [Bool.or_eq_true]
      exact hc
    rcases hm with ⟨i, hi, h1⟩ | (⟨i, hi, h1 | h1⟩ | ⟨i, hi, h1⟩)
    · obtain ⟨j, hj, h2⟩ := (counts_pos x _ k).1.1 h1
      have e : gs (usesN (gq x.parts k).want) i = (gu (gq x.parts k).want.uses i).name := by unfold gs; rw [List.getD_eq_getElem?_getD, usesN_at hi]; rfl
      exact key j hj (Or.inl (shareB_iff.2 ⟨i, by rw [usesN_len]; exact hi, by rw [e]; exact h2⟩))
    · obtain ⟨j, hj, h2⟩ := (counts_pos x _ k).2.1.1 h1
      exact key j hj (Or.inr (Or.inl (Or.inl (shareB_iff.2 ⟨i, hi, h2⟩))))
    · obtain ⟨j, hj, h2⟩ := (counts_pos x _ k).2.2.1 h1
      exact key j hj (Or.inr (Or.inl (Or.inr (shareB_iff.2 ⟨i, hi, h2⟩))))
    · obtain ⟨j, hj, h2⟩ := (counts_pos x _ k).2.1.1 h1
      exact key j hj (Or.inr (Or.inr (shareB_iff.2 ⟨i, hi, h2⟩)))

end Go.Proofs.YtfmhkicncgccjaaGreat
