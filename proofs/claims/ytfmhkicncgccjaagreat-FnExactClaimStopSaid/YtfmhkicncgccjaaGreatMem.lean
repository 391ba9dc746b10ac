/- What a slice of texts and a slice of uses hold in memory, read by index, and that it stays so while older memory is left alone. -/
import Derived.Test.YtfmhkicncgccjaaGreatProg
import Derived.Test.YtfmhkicncgccjaaGreatPlain
import Derived.WalkKit
import Derived.WalkSpells
import Derived.WalkLawsBesides
import Derived.BigQuiet
import Derived.Lib.QuietBelow
import Derived.Deep.OwnRows
namespace Go.Proofs.YtfmhkicncgccjaaGreat
open Go.RowKit

/-- The slice at a holds at place k, one after another from there, the cells 'f k 0, f k 1, ..' (size many), for each k below n. -/
def RowAt (w : World) (a : Option Addr) (n size : Nat) (f : Nat → Nat → Value) : Prop :=
  ∀ k, k < n → ∃ b o, a = some ⟨b, o, none⟩ ∧ b < w.heap.size ∧ ∀ j, j < size → w.cell? ⟨b, o + k * size + j, none⟩ = some (f k j)

theorem RowAt.later {w w' : World} {a : Option Addr} {n size : Nat} {f : Nat → Nat → Value} (h : RowAt w a n size f) (hb : Below w.heap.size w w') : RowAt w' a n size f := by
  intro k hk
  obtain ⟨b, o, ha, hl, hc⟩ := h k hk
  exact ⟨b, o, ha, Nat.lt_of_lt_of_le hl hb.size, fun j hj => by rw [hb.cell (p := ⟨b, o + k * size + j, none⟩) hl]; exact hc j hj⟩

theorem RowAt.setOther {w : World} {a : Option Addr} {n size : Nat} {f : Nat → Nat → Value} (h : RowAt w a n size f) {p : Addr} (hne : ∀ b o, a = some ⟨b, o, none⟩ → b ≠ p.block) (v : Value) : RowAt (w.setCell p v) a n size f := by
  intro k hk
  obtain ⟨b, o, ha, hl, hc⟩ := h k hk
  refine ⟨b, o, ha, by simpa [World.setCell] using hl, fun j hj => ?_⟩
  rw [← hc j hj]
  exact World.cell?_of_block (w := w) (Go.Deep.blk_setCell_other _ _ _ _ (hne b o ha))

/-- A slice of texts. -/
def StrsAt (w : World) (a : Option Addr) (ss : List ByteArray) : Prop := RowAt w a ss.length 1 (fun k _ => .string (gs ss k))

theorem StrsAt.later {w w' : World} {a : Option Addr} {ss : List ByteArray} (h : StrsAt w a ss) (hb : Below w.heap.size w w') : StrsAt w' a ss := RowAt.later h hb

theorem StrsAt.at {w : World} {a : Option Addr} {ss : List ByteArray} (h : StrsAt w a ss) {k : Nat} (hk : k < ss.length) :
    ∃ b o, a = some ⟨b, o, none⟩ ∧ b < w.heap.size ∧ w.cell? ⟨b, o + k, none⟩ = some (.string (gs ss k)) := by
  obtain ⟨b, o, ha, hl, hc⟩ := h k hk
  have := hc 0 (by omega)
  simp only [Nat.mul_one, Nat.add_zero] at this
  exact ⟨b, o, ha, hl, this⟩

/-- The three cells of a use. -/
def useCell (u : Use) : Nat → Value
  | 0 => .string u.name
  | 1 => .int .i64 u.role
  | _ => .int .i64 u.amount

/-- A slice of uses. -/
def UsesAt (w : World) (a : Option Addr) (us : List Use) : Prop := RowAt w a us.length 3 (fun k => useCell (gu us k))

theorem UsesAt.later {w w' : World} {a : Option Addr} {us : List Use} (h : UsesAt w a us) (hb : Below w.heap.size w w') : UsesAt w' a us := RowAt.later h hb

theorem UsesAt.at {w : World} {a : Option Addr} {us : List Use} (h : UsesAt w a us) {k : Nat} (hk : k < us.length) :
    ∃ b o, a = some ⟨b, o, none⟩ ∧ b < w.heap.size ∧ w.cell? ⟨b, o + k * 3, none⟩ = some (.string (gu us k).name) ∧ w.cell? ⟨b, o + k * 3 + 1, none⟩ = some (.int .i64 (gu us k).role) ∧
      w.cell? ⟨b, o + k * 3 + 1 + 1, none⟩ = some (.int .i64 (gu us k).amount) := by
  obtain ⟨b, o, ha, hl, hc⟩ := h k hk
  exact ⟨b, o, ha, hl, hc 0 (by omega), hc 1 (by omega), hc 2 (by omega)⟩

/-- Every text of a list is one that can be. -/
def Fit (ss : List ByteArray) : Prop := ss.length ≤ maxLen ∧ ∀ s ∈ ss, s.size ≤ maxLen


/-- A callee that leaves the world as it is, in a region that draws its order. -/
theorem quietSame {P : Program} {f : FuncId} {args : Array Value} {w : World} {n : Nat} {v : Value}
    (h : Calls P f args (w.drewN n) fun e w' => e = .returned v ∧ w.drewN n = w') : Calls P f args (w.drewN n) fun e w'' => e = .returned v ∧ ∃ m, w'' = w.drewN m :=
  h.mono fun _ _ ⟨he, hm⟩ => ⟨he, n, hm.symm⟩


/-- Block b is a row of these cells, none frozen. -/
def Row (w : World) (b : Nat) (t : TypeId) (l : List Value) : Prop := w.heap[b]? = some (.cells l.toArray t (0, 0))

theorem Row.lt {w : World} {b : Nat} {t : TypeId} {l : List Value} (h : Row w b t l) : b < w.heap.size := by
  obtain ⟨hlt, _⟩ := Array.getElem?_eq_some_iff.1 h
  exact hlt
theorem Row.cell {w : World} {b : Nat} {t : TypeId} {l : List Value} (h : Row w b t l) (i : Nat) {v : Value} (hv : l[i]? = some v) : w.cell? ⟨b, i, none⟩ = some v := by
  unfold Row at h
  simp [World.cell?, h, hv]
theorem Row.frozen {w : World} {b : Nat} {t : TypeId} {l : List Value} (h : Row w b t l) (i : Nat) : w.frozen? ⟨b, i, none⟩ = false := by
  unfold Row at h
  simp [World.frozen?, h]
theorem Row.later {w w' : World} {b : Nat} {t : TypeId} {l : List Value} (h : Row w b t l) (hb : Below w.heap.size w w') : Row w' b t l := (hb.block _ h.lt).trans h
theorem Row.new (w : World) (t : TypeId) (l : List Value) : Row (w.alloc (.cells l.toArray t)) w.heap.size t l := Go.Deep.blk_alloc_new _ _
theorem Row.alloc {w : World} {b : Nat} {t : TypeId} {l : List Value} (h : Row w b t l) (o : Obj) : Row (w.alloc o) b t l := (Go.Deep.blk_alloc_lt _ _ _ h.lt).trans h
theorem Row.other {w : World} {b : Nat} {t : TypeId} {l : List Value} (h : Row w b t l) {a : Addr} (ha : b ≠ a.block) (v : Value) : Row (w.setCell a v) b t l := (Go.Deep.blk_setCell_other _ _ _ _ ha).trans h
theorem Row.set {w : World} {b : Nat} {t : TypeId} {l : List Value} (h : Row w b t l) (i : Nat) (v : Value) : Row (w.setCell ⟨b, i, none⟩ v) b t (l.set i v) := by
  unfold Row at h ⊢
  simp [World.setCell, Array.getElem?_modify, h]

/-- What a block of three new cells holds behind a call that leaves older memory alone. -/
theorem box3 {W w1 : World} {x y z : Value} {t : TypeId} (hb : Below (W.alloc (.cells #[x, y, z] t)).heap.size (W.alloc (.cells #[x, y, z] t)) w1) :
    w1.cell? ⟨W.heap.size, 0, none⟩ = some x ∧ w1.cell? ⟨W.heap.size, 1, none⟩ = some y ∧ w1.cell? ⟨W.heap.size, 2, none⟩ = some z ∧ W.heap.size < w1.heap.size := by
  refine ⟨cell_later hb ?_, cell_later hb ?_, cell_later hb ?_, ?_⟩
  · rw [World.cell?_alloc_new]; rfl
  · rw [World.cell?_alloc_new]; rfl
  · rw [World.cell?_alloc_new]; rfl
  · have := hb.size
    simp at this
    omega

/-- What a block of six new cells holds. -/
theorem box6 {W w1 : World} {x0 x1 x2 x3 x4 x5 : Value} {t : TypeId} (hb : Below (W.alloc (.cells #[x0, x1, x2, x3, x4, x5] t)).heap.size (W.alloc (.cells #[x0, x1, x2, x3, x4, x5] t)) w1) :
    w1.cell? ⟨W.heap.size, 0, none⟩ = some x0 ∧ w1.cell? ⟨W.heap.size, 1, none⟩ = some x1 ∧ w1.cell? ⟨W.heap.size, 2, none⟩ = some x2 ∧ w1.cell? ⟨W.heap.size, 3, none⟩ = some x3 ∧
      w1.cell? ⟨W.heap.size, 4, none⟩ = some x4 ∧ w1.cell? ⟨W.heap.size, 5, none⟩ = some x5 ∧ W.heap.size < w1.heap.size := by
  refine ⟨cell_later hb ?_, cell_later hb ?_, cell_later hb ?_, cell_later hb ?_, cell_later hb ?_, cell_later hb ?_, ?_⟩
  · rw [World.cell?_alloc_new]; rfl
  · rw [World.cell?_alloc_new]; rfl
  · rw [World.cell?_alloc_new]; rfl
  · rw [World.cell?_alloc_new]; rfl
  · rw [World.cell?_alloc_new]; rfl
  · rw [World.cell?_alloc_new]; rfl
  · have := hb.size
    simp at this
    omega

/-- What lies below a new block stays, behind a call that leaves older memory alone. -/
theorem below_over {W w1 : World} {o : Obj} (hb : Below (W.alloc o).heap.size (W.alloc o) w1) : Below W.heap.size W w1 :=
  ((Below.refl _ _).alloc (Nat.le_refl _) o).trans (hb.mono (by simp))

end Go.Proofs.YtfmhkicncgccjaaGreat
