/- Joined: OrdS, GrM1, GrM2, GrM4, GrM6, GrM7, GrM9, GrMA. -/
import Derived.Test.YtfmhkicncgccjaaGreatFm05
import Derived.Lib.SlBytesRow
import Derived.Test.YtfmhkicncgccjaaGreatFm01
import Derived.Deep.RegionHeld3
/- OrdE's take, its side conditions in one; short names for what lays out a state. -/
namespace Go.Proofs.YtfmhkicncgccjaaGreat
set_option linter.unusedSimpArgs false
set_option linter.unusedVariables false

def tkB (md : Region.Mode) (ops : Array Oper) (listed : Array Bool) (i d : Nat) : Bool :=
 Region.noSelect ops && (Region.free md ops listed i && ((Region.ready md ops listed).contains i && ((((ops[d]?).map fun o => o.after.any fun e => Region.binds md e && e.on == i) == some true) && !(i == d))))
theorem tk {P : Program} {md : Region.Mode} {ops : Array Oper} {Q : Exit → Act → World → Prop} {S : World → Prop} {d : Nat} (i : Nat) {fuel : Nat} {t : Tmp} {op : Op} {ty : TypeId} {pos : String} {after : Array Edge} {guard : Option (Nat × Bool)} (v : Value) {listed : Array Bool} {a : Act} {w : World} (hi : ops[i]? = some ⟨some t, op, ty, pos, after, guard⟩)
 (hc : tkB md ops listed i d = true) (hQ : ∀ c a w, Q (.panic c) (a.put (some t) v) w → Q (.panic c) a w) (hg : Region.wanted ⟨some t, op, ty, pos, after, guard⟩ (yielded ops a.tmps) = true) (hS : S w)
 (hy : ∀ w, S w → (execOp a.eval ⟨some t, op, ty, pos, after, guard⟩).run P w = .ok (.value v) w)
 (h : wpAnyE P md ops Q S d fuel (listed.setIfInBounds i true) (a.put (some t) v) w) : wpAnyE P md ops Q S d (fuel + 1) listed a w := by
 unfold tkB at hc
 simp only [Bool.and_eq_true, beq_iff_eq] at hc
 exact wpAnyE_takeC hi hc.1 hc.2.1 hc.2.2.1 hc.2.2.2.1 (by simpa using hc.2.2.2.2) hQ (Or.inl ⟨hg, hy⟩) hS h
theorem sA {α : Type} (l : List α) (i : Nat) (a : α) : l.toArray.setIfInBounds i a = (l.set i a).toArray := List.setIfInBounds_toArray l i a
theorem sB {α : Type} (x : α) (l : List α) (a : α) : (x :: l).set 0 a = a :: l := List.set_cons_zero
theorem sC {α : Type} (x : α) (l : List α) (n : Nat) (a : α) : (x :: l).set (n + 1) a = x :: l.set n a := List.set_cons_succ

end Go.Proofs.YtfmhkicncgccjaaGreat

/- What the laws' markText answers: a text that its number alone tells. -/
namespace Go.Proofs.YtfmhkicncgccjaaGreat
open Go.RowKit Go.Sort
set_option linter.unusedSimpArgs false
set_option linter.unusedVariables false

end Go.Proofs.YtfmhkicncgccjaaGreat

/- Marks written into a list of texts, and held there. -/
namespace Go.Proofs.YtfmhkicncgccjaaGreat
open Go.RowKit Go.Sort
set_option linter.unusedSimpArgs false
set_option linter.unusedVariables false

/-- The world behind w in which only blocks of B, and new ones, may have changed. -/
structure Only (B : Nat → Prop) (w w' : World) : Prop where
 os : w'.os = w.os
 tape : w'.tape = w.tape
 output : w'.output = w.output
 size : w.heap.size ≤ w'.heap.size
 block : ∀ k, k < w.heap.size → ¬ B k → w'.heap[k]? = w.heap[k]?
theorem Only.refl (B : Nat → Prop) (w : World) : Only B w w := ⟨rfl, rfl, rfl, Nat.le_refl _, fun _ _ _ => rfl⟩
theorem Only.trans {B : Nat → Prop} {w w1 w2 : World} (h : Only B w w1) (h' : Only B w1 w2) : Only B w w2 :=
 ⟨h'.os.trans h.os, h'.tape.trans h.tape, h'.output.trans h.output, Nat.le_trans h.size h'.size, fun k hk hB => (h'.block k (Nat.lt_of_lt_of_le hk h.size) hB).trans (h.block k hk hB)⟩
theorem Only.of {B : Nat → Prop} {w w' : World} (h : Below w.heap.size w w') : Only B w w' := ⟨h.os, h.tape, h.output, h.size, fun k hk _ => h.block k hk⟩
theorem Only.mono {B B' : Nat → Prop} {w w' : World} (h : Only B w w') (hB : ∀ k, B k → B' k) : Only B' w w' := ⟨h.os, h.tape, h.output, h.size, fun k hk hn => h.block k hk fun hb => hn (hB k hb)⟩
theorem Only.below {B : Nat → Prop} {n : Nat} {w w' : World} (h : Only B w w') (hB : ∀ k, B k → n ≤ k) (hn : n ≤ w.heap.size) : Below n w w' :=
 ⟨h.os, h.tape, h.output, h.size, fun k hk => h.block k (Nat.lt_of_lt_of_le hk hn) fun hb => by have := hB k hb; omega⟩
theorem Only.set {B : Nat → Prop} {w w' : World} (h : Only B w w') {b : Nat} (hb : B b) (i : Nat) (v : Value) : Only B w (w'.setCell ⟨b, i, none⟩ v) :=
 ⟨h.os, h.tape, h.output, by simpa [World.setCell] using h.size, fun k hk hn => (Go.Deep.blk_setCell_other _ _ _ _ (fun e => hn (by have e' : k = b := e; rw [e']; exact hb))).trans (h.block k hk hn)⟩
theorem Row.only {B : Nat → Prop} {w w' : World} {b : Nat} {t : TypeId} {l : List Value} (h : Row w b t l) (ho : Only B w w') (hb : ¬ B b) : Row w' b t l := (ho.block _ h.lt hb).trans h

end Go.Proofs.YtfmhkicncgccjaaGreat

/- Marks written into lists of foes and of uses. -/
namespace Go.Proofs.YtfmhkicncgccjaaGreat
open Go.RowKit Go.Sort
set_option linter.unusedSimpArgs false
set_option linter.unusedVariables false

end Go.Proofs.YtfmhkicncgccjaaGreat

/- Marks in a list of texts or of uses that may be empty. -/
namespace Go.Proofs.YtfmhkicncgccjaaGreat
open Go.RowKit Go.Sort
set_option linter.unusedSimpArgs false
set_option linter.unusedVariables false

/-- The block of such a list. -/
def InSlot (a : Option Addr) (n : Nat) (x : Nat) : Prop := n ≠ 0 ∧ ∃ o, a = some ⟨x, o, none⟩
end Go.Proofs.YtfmhkicncgccjaaGreat

/- Marks written into a list of spots. -/
namespace Go.Proofs.YtfmhkicncgccjaaGreat
open Go.RowKit Go.Sort
set_option linter.unusedSimpArgs false
set_option linter.unusedVariables false

end Go.Proofs.YtfmhkicncgccjaaGreat

/- Marks written into a list of parts. -/
namespace Go.Proofs.YtfmhkicncgccjaaGreat
open Go.RowKit Go.Sort
set_option linter.unusedSimpArgs false
set_option linter.unusedVariables false

/-- The four lists of a part: their elements' type, cells and marks; the number with which each begins. -/
def tS : Nat → TypeId
 | 1 => 101
 | _ => 9
def sS : Nat → Nat
 | 1 => 3
 | _ => 1
end Go.Proofs.YtfmhkicncgccjaaGreat

/- Marks written into a list of parts: the walk. -/
namespace Go.Proofs.YtfmhkicncgccjaaGreat
open Go.RowKit Go.Sort
set_option linter.unusedSimpArgs false
set_option linter.unusedVariables false

end Go.Proofs.YtfmhkicncgccjaaGreat

