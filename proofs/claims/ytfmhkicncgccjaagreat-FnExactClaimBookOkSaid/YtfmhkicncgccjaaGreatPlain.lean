/- Plain facts on lists, bounded tests and names; nothing of the program. -/
import Derived.WalkKit
namespace Go.Proofs.YtfmhkicncgccjaaGreat
open Go.RowKit

def allTo : Nat → (Nat → Bool) → Bool
  | 0, _ => true
  | n + 1, p => allTo n p && p n

theorem allTo_iff {n : Nat} {p : Nat → Bool} : allTo n p = true ↔ ∀ i, i < n → p i = true := by
  induction n with
  | zero => simp [allTo]
  | succ n ih =>
    simp only [allTo, Bool.and_eq_true, ih]
    constructor
    · rintro ⟨h, hn⟩ i hi
      by_cases e : i = n
      · subst e; exact hn
      · exact h i (by omega)
    · exact fun h => ⟨fun i hi => h i (by omega), h n (by omega)⟩

theorem allTo_false {n : Nat} {p : Nat → Bool} (k : Nat) (hk : k < n) (h : p k = false) : allTo n p = false := by
  cases e : allTo n p with
  | false => rfl
  | true => rw [allTo_iff.1 e k hk] at h; exact absurd h (by decide)

theorem allTo_succ {n : Nat} {p : Nat → Bool} (h : allTo n p = true) (hn : p n = true) : allTo (n + 1) p = true := by simp [allTo, h, hn]

def anyTo (n : Nat) (p : Nat → Bool) : Bool := !allTo n (fun i => !p i)

theorem anyTo_iff {n : Nat} {p : Nat → Bool} : anyTo n p = true ↔ ∃ i, i < n ∧ p i = true := by
  unfold anyTo
  cases e : allTo n (fun i => !p i) with
  | true =>
    have := allTo_iff.1 e
    simp
    intro i hi
    simpa using this i hi
  | false =>
    simp
    apply Classical.byContradiction
    intro hn
    have : allTo n (fun i => !p i) = true := allTo_iff.2 fun i hi => by
      cases h : p i with
      | false => rfl
      | true => exact absurd ⟨i, hi, h⟩ hn
    rw [this] at e
    cases e

theorem anyTo_true {n : Nat} {p : Nat → Bool} (k : Nat) (hk : k < n) (h : p k = true) : anyTo n p = true := anyTo_iff.2 ⟨k, hk, h⟩
theorem anyTo_none {n : Nat} {p : Nat → Bool} (h : allTo n (fun i => !p i) = true) : anyTo n p = false := by unfold anyTo; rw [h]; rfl

theorem bool_eq_of_iff {a b : Bool} (h : a = true ↔ b = true) : a = b := by
  cases a <;> cases b <;> simp_all

/-- A text of a list by its place. -/
def gs (ss : List ByteArray) (k : Nat) : ByteArray := ss.getD k .empty

theorem gs_lt {ss : List ByteArray} {k : Nat} (h : k < ss.length) : gs ss k = ss[k] := by simp [gs, h]
theorem gs_mem {ss : List ByteArray} {k : Nat} (h : k < ss.length) : gs ss k ∈ ss := by rw [gs_lt h]; exact List.getElem_mem _


/-- A letter of a name. -/
def letterB (c : Int) : Bool := decide (97 ≤ c) && decide (c ≤ 122) || decide (48 ≤ c) && decide (c ≤ 57) || c == 45

def byteAt (s : ByteArray) (k : Nat) : Int := ((s.data[k]?.getD 0).toNat : Int)

theorem byteAt_lt {s : ByteArray} {k : Nat} (h : k < s.size) : byteAt s k = (s[k].toNat : Int) := by
  have h' : k < s.data.size := h
  unfold byteAt
  rw [Array.getElem?_eq_getElem h']
  rfl

def inB (n lo hi : Int) : Bool := decide (lo ≤ n) && decide (n ≤ hi)

/-- A name. -/
def nameB (s : ByteArray) : Bool := inB s.size 1 8 && allTo s.size (fun k => letterB (byteAt s k))

theorem nameB_size {s : ByteArray} (h : inB s.size 1 8 = false) : nameB s = false := by unfold nameB; rw [h]; rfl
theorem nameB_bad {s : ByteArray} (k : Nat) (hk : k < s.size) (h : letterB (byteAt s k) = false) : nameB s = false := by
  unfold nameB; rw [allTo_false k hk h, Bool.and_false]
theorem nameB_good {s : ByteArray} (h : inB s.size 1 8 = true) (ha : allTo s.size (fun k => letterB (byteAt s k)) = true) : nameB s = true := by
  unfold nameB; rw [h, ha]; rfl

theorem letterB_high {c : Int} (h : 128 ≤ c) : letterB c = false := by
  unfold letterB
  simp
  omega

theorem ret_bool {a b : Bool} (h : a = b) : Ending.returned (.bool a) = .returned (.bool b) := by rw [h]

/-- Two texts are the same, as Go asks. -/
def eqS (s t : ByteArray) : Bool := s.toList == t.toList
theorem eqS_comm (s t : ByteArray) : eqS s t = eqS t s := by unfold eqS; rw [Bool.eq_iff_iff, beq_iff_eq, beq_iff_eq]; exact ⟨Eq.symm, Eq.symm⟩

/-- A text is ahead of another one, as Go asks. -/
def ltS (s t : ByteArray) : Bool := Op.bytesLess s.toList t.toList

def hasB (ss : List ByteArray) (s : ByteArray) : Bool := anyTo ss.length (fun i => eqS (gs ss i) s)

def shareB (xs ys : List ByteArray) : Bool := anyTo xs.length (fun i => hasB ys (gs xs i))

/-- A use. -/
structure Use where
  name : ByteArray
  role : Int
  amount : Int

def useNil : Use := ⟨.empty, 0, 0⟩

def gu (us : List Use) (k : Nat) : Use := us.getD k useNil

theorem gu_lt {us : List Use} {k : Nat} (h : k < us.length) : gu us k = us[k] := by simp [gu, h]
theorem gu_mem {us : List Use} {k : Nat} (h : k < us.length) : gu us k ∈ us := by rw [gu_lt h]; exact List.getElem_mem _

/-- A want. -/
structure Want where
  number : Int
  kind : Int
  stuffs : List ByteArray
  uses : List Use
  opens : List ByteArray
  shuts : List ByteArray

end Go.Proofs.YtfmhkicncgccjaaGreat
