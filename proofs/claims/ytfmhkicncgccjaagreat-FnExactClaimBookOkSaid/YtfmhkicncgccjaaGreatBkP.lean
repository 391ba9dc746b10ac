/- The program's six looks at a book, taken together, are the specification's one. -/
import Derived.Test.YtfmhkicncgccjaaGreatBkI8
import Derived.Test.YtfmhkicncgccjaaGreatBkI1
import Derived.Test.YtfmhkicncgccjaaGreatBkI4
import Derived.Test.YtfmhkicncgccjaaGreatBkI6
import Derived.Test.YtfmhkicncgccjaaGreatBkSA
namespace Go.Proofs.YtfmhkicncgccjaaGreat
open Go.RowKit Go.Sort
set_option linter.unusedSimpArgs false
set_option linter.unusedVariables false

/-- No part meets one ahead of it. -/
def apartB (x : Book) : Bool := allTo x.parts.length (fun i => allTo i (fun k => !meetB (gq x.parts i).want (gq x.parts k).want))

theorem foeHit_symm (f : Foe) (x y : ByteArray) : foeHit f x y = foeHit f y x := by unfold foeHit; rw [Bool.or_comm]
theorem foesB_symm (fs : List Foe) (x y : ByteArray) : foesB fs x y = foesB fs y x := by
  unfold foesB; congr 1; funext i; exact foeHit_symm _ _ _

theorem foesB_irrefl {fs : List Foe} (h : foesOkB fs = true) (x : ByteArray) : foesB fs x x = false := by
  cases e : foesB fs x x with
  | false => rfl
  | true =>
    obtain ⟨i, hi, hh⟩ := anyTo_iff.1 e
    unfold foesOkB at h
    simp only [Bool.and_eq_true] at h
    have h2 := allTo_iff.1 h.2 i hi
    unfold foeAtS at h2
    simp only [Bool.and_eq_true] at h2
    have h3 := h2.1.2
    unfold foeHit at hh
    rw [Bool.or_self, Bool.and_eq_true] at hh
    have h4 : eqS (gf fs i).a (gf fs i).b = true := by
      have e1 := hh.1
      have e2 := hh.2
      unfold eqS at e1 e2 ⊢
      rw [beq_iff_eq] at e1 e2 ⊢
      rw [e1, e2]
    rw [ltS_of_eqS h4] at h3
    exact absurd h3 (by decide)

theorem pairs_same {fs : List Foe} (h : foesOkB fs = true) (ss : List ByteArray) : pairsB fs ss = allTo ss.length (fun i => !clashB fs (gs ss i) ss) := by
  rw [Bool.eq_iff_iff]
  unfold pairsB clashB
  constructor
  · intro hp
    rw [allTo_iff] at hp ⊢
    intro i hi
    have hi' := hp i hi
    rw [Bool.not_eq_true', ← Bool.not_eq_true]
    intro ha
    obtain ⟨j, hj, hf⟩ := anyTo_iff.1 ha
    by_cases c1 : i < j
    · have := allTo_iff.1 hi' (j - (i + 1)) (by omega)
      rw [show i + 1 + (j - (i + 1)) = j by omega, hf] at this
      exact absurd this (by decide)
    · by_cases c2 : i = j
      · subst c2
        rw [foesB_irrefl h] at hf
        exact absurd hf (by decide)
      · have := allTo_iff.1 (hp j hj) (i - (j + 1)) (by omega)
        rw [show j + 1 + (i - (j + 1)) = i by omega, foesB_symm, hf] at this
        exact absurd this (by decide)
  · intro hp
    rw [allTo_iff] at hp ⊢
    intro i hi
    rw [allTo_iff]
    intro j hj
    have hi' := hp i hi
    cases e : foesB fs (gs ss i) (gs ss (i + 1 + j)) with
    | false => rfl
    | true =>
      have : anyTo ss.length (fun k => foesB fs (gs ss i) (gs ss k)) = true := anyTo_iff.2 ⟨i + 1 + j, by omega, e⟩
      rw [this] at hi'
      exact absurd hi' (by decide)

theorem levels_same (s : Spot) : levelsB s = (inB s.cap 0 1000 && inB s.least 0 s.most && decide (s.most ≤ s.cap)) := by
  unfold levelsB inB; simp only [Bool.and_assoc]

theorem spot_same {fs : List Foe} (h : foesOkB fs = true) (s : Spot) : spotAtI' fs s = spotOkB fs s := by
  unfold spotAtI' spotOkB
  rw [levels_same, pairs_same h]
  simp only [Bool.and_assoc]

theorem spots_same {x : Book} (h : foesOkB x.foes = true) : (allTo x.spots.length (fun k => spotAtI' x.foes (gp x.spots k)) && ascSB x.spots) = allTo x.spots.length (spotAtB x) := by
  rw [Bool.eq_iff_iff, Bool.and_eq_true]
  unfold ascSB spotAtB
  simp only [allTo_iff, Bool.and_eq_true, spot_same h]
  constructor
  · rintro ⟨h1, h2⟩ i hi
    exact ⟨h1 i hi, h2 i hi⟩
  · intro h1
    exact ⟨fun i hi => (h1 i hi).1, fun i hi => (h1 i hi).2⟩

theorem parts_same (x : Book) : ((decide ((x.parts.length : Int) ≤ 6) && allTo x.parts.length (fun k => partAtI x (gq x.parts k)) && ascPB x.parts) && apartB x && placesB x) = partsOkB x := by
  rw [Bool.eq_iff_iff]
  unfold partsOkB partAtB partOkB partAtI apartB placesB placesAt ascPB
  simp only [allTo_iff, Bool.and_eq_true]
  constructor
  · rintro ⟨⟨⟨⟨h1, h2⟩, h3⟩, h4⟩, h5⟩
    exact ⟨h1, fun i hi => ⟨⟨⟨⟨⟨(h2 i hi).1.2, (h2 i hi).1.1⟩, (h2 i hi).2⟩, h5 i hi⟩, h3 i hi⟩, h4 i hi⟩⟩
  · rintro ⟨h1, h2⟩
    exact ⟨⟨⟨⟨h1, fun i hi => ⟨⟨(h2 i hi).1.1.1.1.2, (h2 i hi).1.1.1.1.1⟩, (h2 i hi).1.1.1.2⟩⟩, fun i hi => (h2 i hi).1.2⟩, fun i hi => (h2 i hi).2⟩, fun i hi => (h2 i hi).1.1.2⟩

/-- The program's six looks. -/
def bookI (x : Book) : Bool :=
  foesOkB x.foes && (decide ((x.spots.length : Int) ≤ 8) && allTo x.spots.length (fun k => spotAtI' x.foes (gp x.spots k)) && ascSB x.spots) && (namesB x.valves 12 && inB x.seen 0 1000000) && (decide ((x.parts.length : Int) ≤ 6) && allTo x.parts.length (fun k => partAtI x (gq x.parts k)) && ascPB x.parts) && apartB x && placesB x

theorem book_same (x : Book) : bookI x = bookB x := by
  unfold bookI bookB
  cases h : foesOkB x.foes with
  | false => rfl
  | true =>
    rw [← spots_same h, ← parts_same]
    cases decide ((x.spots.length : Int) ≤ 8) <;> cases namesB x.valves 12 <;> cases inB x.seen 0 1000000 <;> cases allTo x.spots.length (fun k => spotAtI' x.foes (gp x.spots k)) <;> cases ascSB x.spots <;> simp

end Go.Proofs.YtfmhkicncgccjaaGreat
