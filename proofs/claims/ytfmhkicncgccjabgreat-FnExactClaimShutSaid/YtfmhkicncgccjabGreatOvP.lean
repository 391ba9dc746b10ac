/- Plain: under which number a valve may be open, under which it is kept shut. -/
import Derived.Test.YtfmhkicncgccjabGreatBkR
namespace Go.Proofs.YtfmhkicncgccjabGreat
open Go.RowKit Go.Sort
set_option linter.unusedSimpArgs false
set_option linter.unusedVariables false

def mayHit (v : ByteArray) (p : Part) : Bool := !p.stopped && hasB p.want.opens v
def mayFrom (ps : List Part) (v : ByteArray) : Nat → Nat → Int
  | _, 0 => 0
  | k, n + 1 => if mayHit v (gq ps k) = true then (gq ps k).want.number else mayFrom ps v (k + 1) n
/-- The number under which a valve may be open. -/
def mayN (ps : List Part) (v : ByteArray) : Int := mayFrom ps v 0 ps.length
theorem mayFrom_all {ps : List Part} {v : ByteArray} : ∀ (n k : Nat), (∀ i, k ≤ i → i < k + n → mayHit v (gq ps i) = false) → mayFrom ps v k n = 0
  | 0, _, _ => rfl
  | n + 1, k, h => by
    unfold mayFrom
    rw [h k (Nat.le_refl _) (by omega)]
    exact mayFrom_all n (k + 1) (fun i h1 h2 => h i (by omega) (by omega))
theorem mayFrom_hit {ps : List Part} {v : ByteArray} {j : Nat} : ∀ (n k : Nat), k ≤ j → j < k + n → (∀ i, k ≤ i → i < j → mayHit v (gq ps i) = false) → mayHit v (gq ps j) = true → mayFrom ps v k n = (gq ps j).want.number
  | 0, k, h1, h2, _, _ => by omega
  | n + 1, k, h1, h2, h, hj => by
    unfold mayFrom
    by_cases e : k = j
    · subst e; rw [hj]; rfl
    · rw [h k (Nat.le_refl _) (by omega)]
      exact mayFrom_hit n (k + 1) (by omega) (by omega) (fun i a b => h i (by omega) b) hj
theorem mayN_hit {ps : List Part} {v : ByteArray} {j : Nat} (hj : j < ps.length) (h : allTo j (fun i => !mayHit v (gq ps i)) = true) (he : mayHit v (gq ps j) = true) : mayN ps v = (gq ps j).want.number :=
  mayFrom_hit ps.length 0 (Nat.zero_le _) (by omega) (fun i _ hi => by simpa using allTo_iff.1 h i hi) he
theorem mayN_none {ps : List Part} {v : ByteArray} (h : allTo ps.length (fun i => !mayHit v (gq ps i)) = true) : mayN ps v = 0 :=
  mayFrom_all ps.length 0 (fun i _ hi => by simpa using allTo_iff.1 h i (by omega))
/-- What ClaimMay answers. -/
def mayC (x : Book) (v : ByteArray) : Int := if bookB x = true then mayN x.parts v else 0

/-- The numbers under which a valve is kept shut, by the first k parts. -/
def shutTo (ps : List Part) (v : ByteArray) : Nat → List Int
  | 0 => []
  | k + 1 => if hasB (gq ps k).want.shuts v = true then shutTo ps v k ++ [(gq ps k).want.number] else shutTo ps v k
theorem shutTo_hit {ps : List Part} {v : ByteArray} {k : Nat} (h : hasB (gq ps k).want.shuts v = true) : shutTo ps v (k + 1) = shutTo ps v k ++ [(gq ps k).want.number] := by simp [shutTo, h]
theorem shutTo_miss {ps : List Part} {v : ByteArray} {k : Nat} (h : hasB (gq ps k).want.shuts v = false) : shutTo ps v (k + 1) = shutTo ps v k := by simp [shutTo, h]
theorem shutTo_le (ps : List Part) (v : ByteArray) (k : Nat) : (shutTo ps v k).length ≤ k := by
  induction k with
  | zero => simp [shutTo]
  | succ k ih =>
    cases h : hasB (gq ps k).want.shuts v with
    | true => rw [shutTo_hit h]; simp; omega
    | false => rw [shutTo_miss h]; omega
/-- What ClaimShut answers. -/
def shutC (x : Book) (v : ByteArray) : List Int := if bookB x = true then shutTo x.parts v x.parts.length else []

end Go.Proofs.YtfmhkicncgccjabGreat
