/- Joined: OwA, OwN, OwK, OwB, OwC. -/
import Derived.Test.YtfmhkicncgccjaaGreatDoorPe01
import Derived.Test.YtfmhkicncgccjaaGreatDoorPc05
/- Lists, spots, parts and books that own their memory. -/
namespace Go.Proofs.YtfmhkicncgccjaaGreatDoor
open Go.RowKit Go.Sort
set_option linter.unusedSimpArgs false
set_option linter.unusedVariables false

/-- n elements of s cells, as f tells, in a block of their own; nothing is said of an empty list. -/
def OwnL (w : World) (t : TypeId) (s : Nat) (a : Option Addr) (n : Nat) (f : Nat → Nat → Value) : Prop :=
  n = 0 ∨ ∃ b l, a = some ⟨b, 0, none⟩ ∧ Row w b t l ∧ n * s ≤ l.length ∧ ∀ k, k < n → ∀ j, j < s → l[k * s + j]? = some (f k j)
theorem OwnL.rowAt {w : World} {t : TypeId} {s : Nat} {a : Option Addr} {n : Nat} {f : Nat → Nat → Value} (h : OwnL w t s a n f) : RowAt w a n s f := by
  intro k hk
  rcases h with h | ⟨b, l, rfl, hr, hl, hc⟩
  · omega
  · refine ⟨b, 0, rfl, hr.lt, fun j hj => ?_⟩
    rw [Nat.zero_add]
    exact hr.cell _ (hc k hk j hj)
theorem OwnL.slot {w : World} {t : TypeId} {s : Nat} {a : Option Addr} {n : Nat} {f : Nat → Nat → Value} (h : OwnL w t s a n f) : Slot w t s a n := by
  rcases h with h | ⟨b, l, rfl, hr, hl, hc⟩
  · exact Or.inl h
  · exact Or.inr ⟨b, l, rfl, hr, hl⟩
theorem OwnL.only {B : Nat → Prop} {w w' : World} {t : TypeId} {s : Nat} {a : Option Addr} {n : Nat} {f : Nat → Nat → Value} (h : OwnL w t s a n f) (ho : Only B w w') (hB : ∀ x, InSlot a n x → ¬ B x) : OwnL w' t s a n f := by
  rcases h with h | ⟨b, l, rfl, hr, hl, hc⟩
  · exact Or.inl h
  · by_cases hn : n = 0
    · exact Or.inl hn
    · exact Or.inr ⟨b, l, rfl, hr.only ho (hB b ⟨hn, 0, rfl⟩), hl, hc⟩
theorem OwnL.later {w w' : World} {t : TypeId} {s : Nat} {a : Option Addr} {n : Nat} {f : Nat → Nat → Value} (h : OwnL w t s a n f) (hb : Below w.heap.size w w') : OwnL w' t s a n f := h.only (Only.of (B := fun _ => False) hb) (fun _ _ => id)
theorem OwnL.lt {w : World} {t : TypeId} {s : Nat} {a : Option Addr} {n : Nat} {f : Nat → Nat → Value} (h : OwnL w t s a n f) {x : Nat} (hx : InSlot a n x) : x < w.heap.size := by
  obtain ⟨hn, o, rfl⟩ := hx
  rcases h with h | ⟨b, l, e, hr, hl, hc⟩
  · exact absurd h hn
  · cases e
    exact hr.lt
theorem OwnL.of_rowIs {w : World} {b : Nat} {t : TypeId} {s n m : Nat} {g : Nat → Value} {f : Nat → Nat → Value} (h : w.rowIs b t m g) (hm : n * s ≤ m) (hg : ∀ k, k < n → ∀ j, j < s → g (k * s + j) = f k j) : OwnL w t s (some ⟨b, 0, none⟩) n f := by
  obtain ⟨c, hb, hs, hc⟩ := h
  refine Or.inr ⟨b, c.toList, rfl, ?_, by simp [hs, hm], fun k hk j hj => ?_⟩
  · unfold Row
    rw [hb]
  · have hlt : k * s + j < m := by
      have h1 : (k + 1) * s ≤ n * s := Nat.mul_le_mul_right s hk
      rw [Nat.add_mul, Nat.one_mul] at h1
      omega
    rw [Array.getElem?_toList, hc _ hlt, hg k hk j hj]
theorem inSlot_some {b n x : Nat} (h : InSlot (some ⟨b, 0, none⟩) n x) : x = b := by
  obtain ⟨_, o, e⟩ := h
  cases e
  rfl

def strF (ss : List ByteArray) (k : Nat) (_ : Nat) : Value := .string (gs ss k)
def useF (us : List Use) (k : Nat) : Nat → Value := useCell (gu us k)
def foeF (us : List Foe) (k : Nat) : Nat → Value := foeCell (gf us k)

/-- Spots that own their memory: their lists lie where A tells. -/
structure OwnSpots (w : World) (a : Option Addr) (ps : List Spot) (A : Nat → Option Addr) (C : Nat → Nat) : Prop where
  row : OwnL w 99 5 a ps.length (fun k => spotCell (gp ps k) (A k) (C k))
  may : ∀ k, k < ps.length → OwnL w 9 1 (A k) (gp ps k).may.length (strF (gp ps k).may)
  cap : ∀ k, k < ps.length → (gp ps k).may.length ≤ C k
  apart : ∀ k, k < ps.length → ∀ x, InSlot (A k) (gp ps k).may.length x → ¬ InSlot a ps.length x
  each : ∀ i j, i < ps.length → j < ps.length → i ≠ j → ∀ x, InSlot (A i) (gp ps i).may.length x → ¬ InSlot (A j) (gp ps j).may.length x
def InSp (a : Option Addr) (ps : List Spot) (A : Nat → Option Addr) (x : Nat) : Prop := InSlot a ps.length x ∨ ∃ k, k < ps.length ∧ InSlot (A k) (gp ps k).may.length x
theorem OwnSpots.only {B : Nat → Prop} {w w' : World} {a : Option Addr} {ps : List Spot} {A : Nat → Option Addr} {C : Nat → Nat} (h : OwnSpots w a ps A C) (ho : Only B w w') (hB : ∀ x, InSp a ps A x → ¬ B x) : OwnSpots w' a ps A C :=
  ⟨h.row.only ho (fun x hx => hB x (Or.inl hx)), fun k hk => (h.may k hk).only ho (fun x hx => hB x (Or.inr ⟨k, hk, hx⟩)), h.cap, h.apart, h.each⟩
theorem OwnSpots.later {w w' : World} {a : Option Addr} {ps : List Spot} {A : Nat → Option Addr} {C : Nat → Nat} (h : OwnSpots w a ps A C) (hb : Below w.heap.size w w') : OwnSpots w' a ps A C := h.only (Only.of (B := fun _ => False) hb) (fun _ _ => id)
theorem OwnSpots.at_ {w : World} {a : Option Addr} {ps : List Spot} {A : Nat → Option Addr} {C : Nat → Nat} (h : OwnSpots w a ps A C) : SpotsAt w a ps :=
  ⟨A, C, h.row.rowAt, fun k hk => (h.may k hk).rowAt, h.cap⟩
theorem OwnSpots.lt {w : World} {a : Option Addr} {ps : List Spot} {A : Nat → Option Addr} {C : Nat → Nat} (h : OwnSpots w a ps A C) {x : Nat} (hx : InSp a ps A x) : x < w.heap.size := by
  rcases hx with hx | ⟨k, hk, hx⟩
  · exact h.row.lt hx
  · exact (h.may k hk).lt hx

/-- The lists of a part: how long, what they hold. -/
def pL (p : Part) : Nat → Nat
  | 0 => p.want.stuffs.length
  | 1 => p.want.uses.length
  | 2 => p.want.opens.length
  | _ => p.want.shuts.length
def pF (p : Part) : Nat → Nat → Nat → Value
  | 0 => strF p.want.stuffs
  | 1 => useF p.want.uses
  | 2 => strF p.want.opens
  | _ => strF p.want.shuts
/-- Parts that own their memory: list c of part k lies where A tells. -/
structure OwnParts (w : World) (a : Option Addr) (ps : List Part) (A : Nat → Nat → Option Addr) (C : Nat → Nat → Nat) : Prop where
  row : OwnL w 60 7 a ps.length (fun k => partCell (gq ps k) (fun f => A k (f - 2)) (fun f => C k (f - 2)))
  list : ∀ k, k < ps.length → ∀ c, c < 4 → OwnL w (tS c) (sS c) (A k c) (pL (gq ps k) c) (pF (gq ps k) c)
  apart : ∀ k, k < ps.length → ∀ c, c < 4 → ∀ x, InSlot (A k c) (pL (gq ps k) c) x → ¬ InSlot a ps.length x
  each : ∀ i c j d, i < ps.length → c < 4 → j < ps.length → d < 4 → (i ≠ j ∨ c ≠ d) → ∀ x, InSlot (A i c) (pL (gq ps i) c) x → ¬ InSlot (A j d) (pL (gq ps j) d) x
def InPt (a : Option Addr) (ps : List Part) (A : Nat → Nat → Option Addr) (x : Nat) : Prop := InSlot a ps.length x ∨ ∃ k, k < ps.length ∧ ∃ c, c < 4 ∧ InSlot (A k c) (pL (gq ps k) c) x
theorem OwnParts.only {B : Nat → Prop} {w w' : World} {a : Option Addr} {ps : List Part} {A : Nat → Nat → Option Addr} {C : Nat → Nat → Nat} (h : OwnParts w a ps A C) (ho : Only B w w') (hB : ∀ x, InPt a ps A x → ¬ B x) : OwnParts w' a ps A C :=
  ⟨h.row.only ho (fun x hx => hB x (Or.inl hx)), fun k hk c hc => (h.list k hk c hc).only ho (fun x hx => hB x (Or.inr ⟨k, hk, c, hc, hx⟩)), h.apart, h.each⟩
theorem OwnParts.later {w w' : World} {a : Option Addr} {ps : List Part} {A : Nat → Nat → Option Addr} {C : Nat → Nat → Nat} (h : OwnParts w a ps A C) (hb : Below w.heap.size w w') : OwnParts w' a ps A C := h.only (Only.of (B := fun _ => False) hb) (fun _ _ => id)
theorem OwnParts.at_ {w : World} {a : Option Addr} {ps : List Part} {A : Nat → Nat → Option Addr} {C : Nat → Nat → Nat} (h : OwnParts w a ps A C) : PartsAt w a ps :=
  ⟨fun k f => A k (f - 2), fun k f => C k (f - 2), h.row.rowAt, fun k hk => ⟨(h.list k hk 0 (by omega)).rowAt, (h.list k hk 1 (by omega)).rowAt, (h.list k hk 2 (by omega)).rowAt, (h.list k hk 3 (by omega)).rowAt⟩⟩
theorem OwnParts.lt {w : World} {a : Option Addr} {ps : List Part} {A : Nat → Nat → Option Addr} {C : Nat → Nat → Nat} (h : OwnParts w a ps A C) {x : Nat} (hx : InPt a ps A x) : x < w.heap.size := by
  rcases hx with hx | ⟨k, hk, c, hc, hx⟩
  · exact h.row.lt hx
  · exact (h.list k hk c hc).lt hx

/-- A book that owns its memory. -/
structure OwnBook (w : World) (x : Book) (af ap av aq : Option Addr) (A1 : Nat → Option Addr) (C1 : Nat → Nat) (A2 : Nat → Nat → Option Addr) (C2 : Nat → Nat → Nat) : Prop where
  foes : OwnL w 105 2 af x.foes.length (foeF x.foes)
  spots : OwnSpots w ap x.spots A1 C1
  valves : OwnL w 9 1 av x.valves.length (strF x.valves)
  parts : OwnParts w aq x.parts A2 C2
  d01 : ∀ y, InSlot af x.foes.length y → ¬ InSp ap x.spots A1 y
  d02 : ∀ y, InSlot af x.foes.length y → ¬ InSlot av x.valves.length y
  d03 : ∀ y, InSlot af x.foes.length y → ¬ InPt aq x.parts A2 y
  d12 : ∀ y, InSp ap x.spots A1 y → ¬ InSlot av x.valves.length y
  d13 : ∀ y, InSp ap x.spots A1 y → ¬ InPt aq x.parts A2 y
  d23 : ∀ y, InSlot av x.valves.length y → ¬ InPt aq x.parts A2 y
/-- The blocks of such a book. -/
def InBk (x : Book) (af ap av aq : Option Addr) (A1 : Nat → Option Addr) (A2 : Nat → Nat → Option Addr) (y : Nat) : Prop :=
  InSlot af x.foes.length y ∨ InSp ap x.spots A1 y ∨ InSlot av x.valves.length y ∨ InPt aq x.parts A2 y
theorem OwnBook.only {B : Nat → Prop} {w w' : World} {x : Book} {af ap av aq : Option Addr} {A1 : Nat → Option Addr} {C1 : Nat → Nat} {A2 : Nat → Nat → Option Addr} {C2 : Nat → Nat → Nat} (h : OwnBook w x af ap av aq A1 C1 A2 C2) (ho : Only B w w') (hB : ∀ y, InBk x af ap av aq A1 A2 y → ¬ B y) : OwnBook w' x af ap av aq A1 C1 A2 C2 :=
  ⟨h.foes.only ho (fun y hy => hB y (Or.inl hy)), h.spots.only ho (fun y hy => hB y (Or.inr (Or.inl hy))), h.valves.only ho (fun y hy => hB y (Or.inr (Or.inr (Or.inl hy)))), h.parts.only ho (fun y hy => hB y (Or.inr (Or.inr (Or.inr hy)))), h.d01, h.d02, h.d03, h.d12, h.d13, h.d23⟩
theorem OwnBook.later {w w' : World} {x : Book} {af ap av aq : Option Addr} {A1 : Nat → Option Addr} {C1 : Nat → Nat} {A2 : Nat → Nat → Option Addr} {C2 : Nat → Nat → Nat} (h : OwnBook w x af ap av aq A1 C1 A2 C2) (hb : Below w.heap.size w w') : OwnBook w' x af ap av aq A1 C1 A2 C2 := h.only (Only.of (B := fun _ => False) hb) (fun _ _ => id)
theorem OwnBook.in_ {w : World} {x : Book} {af ap av aq : Option Addr} {A1 : Nat → Option Addr} {C1 : Nat → Nat} {A2 : Nat → Nat → Option Addr} {C2 : Nat → Nat → Nat} (h : OwnBook w x af ap av aq A1 C1 A2 C2) : BookIn w x af ap av aq := ⟨h.foes.rowAt, h.spots.at_, h.valves.rowAt, h.parts.at_⟩
theorem OwnBook.lt {w : World} {x : Book} {af ap av aq : Option Addr} {A1 : Nat → Option Addr} {C1 : Nat → Nat} {A2 : Nat → Nat → Option Addr} {C2 : Nat → Nat → Nat} (h : OwnBook w x af ap av aq A1 C1 A2 C2) {y : Nat} (hy : InBk x af ap av aq A1 A2 y) : y < w.heap.size := by
  rcases hy with hy | hy | hy | hy
  · exact h.foes.lt hy
  · exact h.spots.lt hy
  · exact h.valves.lt hy
  · exact h.parts.lt hy

/-- What the marks want of spots and parts that own their memory. -/
theorem OwnSpots.own {w : World} {a : Option Addr} {ps : List Spot} {A : Nat → Option Addr} {C : Nat → Nat} (h : OwnSpots w a ps A C) (hn : ps.length ≠ 0) : ∃ b l, a = some ⟨b, 0, none⟩ ∧ SpotsOwn w b l ps.length A (fun k => (gp ps k).may.length) C := by
  rcases h.row with e | ⟨b, l, rfl, hr, hl, hc⟩
  · exact absurd e hn
  · exact ⟨b, l, rfl, hr, hl, fun i hi => hc i hi 4 (by omega), fun i hi => (h.may i hi).slot, fun i hi hx => h.apart i hi b hx ⟨hn, 0, rfl⟩, h.each⟩
theorem OwnParts.own {w : World} {a : Option Addr} {ps : List Part} {A : Nat → Nat → Option Addr} {C : Nat → Nat → Nat} (h : OwnParts w a ps A C) (hn : ps.length ≠ 0) : ∃ b l, a = some ⟨b, 0, none⟩ ∧ PartsOwn w b l ps.length A (fun k => pL (gq ps k)) C := by
  rcases h.row with e | ⟨b, l, rfl, hr, hl, hc⟩
  · exact absurd e hn
  · refine ⟨b, l, rfl, hr, hl, fun i hi c hc4 => ?_, fun i hi c hc4 => (h.list i hi c hc4).slot, fun i hi c hc4 hx => h.apart i hi c hc4 b hx ⟨hn, 0, rfl⟩, h.each⟩
    match c, hc4 with
    | 0, _ => exact hc i hi 2 (by omega)
    | 1, _ => exact hc i hi 3 (by omega)
    | 2, _ => exact hc i hi 4 (by omega)
    | 3, _ => exact hc i hi 5 (by omega)

end Go.Proofs.YtfmhkicncgccjaaGreatDoor

/- Lists that own their memory, out of rows that have grown. -/
namespace Go.Proofs.YtfmhkicncgccjaaGreatDoor
open Go.RowKit Go.Sort
set_option linter.unusedSimpArgs false
set_option linter.unusedVariables false

def intF (l : List Int) (k : Nat) (_ : Nat) : Value := .int .i64 (l.getD k 0)
theorem Row.grown {w w' : World} {b : Nat} {t : TypeId} {l : List Value} {g : Option Nat} (h : Row w b t l) (hg : w.grownBy w' g) (hn : some b ≠ g) : Row w' b t l := (hg.block b h.lt hn).trans h

/-- The cells of n elements of s cells, one behind the other. -/
def flat (n s : Nat) (f : Nat → Nat → Value) : List Value := (List.range (n * s)).map fun q => f (q / s) (q % s)
theorem flat_length (n s : Nat) (f : Nat → Nat → Value) : (flat n s f).length = n * s := by simp [flat]
theorem flat_at {n s : Nat} (f : Nat → Nat → Value) {k j : Nat} (hk : k < n) (hj : j < s) : (flat n s f)[k * s + j]? = some (f k j) := by
  have h : k * s + j < n * s := by
    have h1 : (k + 1) * s ≤ n * s := Nat.mul_le_mul_right s hk
    rw [Nat.add_mul, Nat.one_mul] at h1
    omega
  have e1 : (k * s + j) / s = k := by
    rw [Nat.mul_comm, Nat.mul_add_div (by omega), Nat.div_eq_of_lt hj, Nat.add_zero]
  have e2 : (k * s + j) % s = j := by
    rw [Nat.mul_comm, Nat.mul_add_mod, Nat.mod_eq_of_lt hj]
  simp [flat, h, e1, e2]
theorem flat_news {w : World} {ad : Addr} {n s : Nat} {f : Nat → Nat → Value} (h : RowAt w (some ad) n s f) : ∀ j u, (flat n s f)[j]? = some u → w.cell? (ad.add j) = some u := by
  intro j u hu
  obtain ⟨hj, hu'⟩ := List.getElem?_eq_some_iff.1 hu
  rw [flat_length] at hj
  have hs : 0 < s := by
    rcases Nat.eq_zero_or_pos s with h0 | h0
    · subst h0; simp at hj
    · exact h0
  have hk : j / s < n := (Nat.div_lt_iff_lt_mul hs).2 hj
  obtain ⟨b, o, ha, hb, hc⟩ := h (j / s) hk
  cases ha
  have := hc (j % s) (Nat.mod_lt _ hs)
  rw [Nat.add_assoc, Nat.mul_comm, Nat.div_add_mod] at this
  rw [Addr.add_lit, this, ← hu']
  simp [flat]
theorem flat_one {n s : Nat} {f : Nat → Nat → Value} (hf : ∀ k j, (f k j).oneCell' = true) : ∀ u ∈ flat n s f, u.oneCell' = true := by
  intro u hu
  simp only [flat, List.mem_map] at hu
  obtain ⟨q, _, rfl⟩ := hu
  exact hf _ _
theorem OwnL.of_owns {w : World} {base : Nat} {e : TypeId} {s : Nat} {v : Value} {n : Nat} {f : Nat → Nat → Value} (h : w.ownsRow base e s v n (flat n s f)) : ∃ a c, v = .slice a n c ∧ OwnL w e s a n f ∧ (∀ x, InSlot a n x → base ≤ x) ∧ n ≤ c := by
  obtain ⟨_, h⟩ := h
  rcases h with ⟨rfl, rfl⟩ | ⟨g, cap, cur, rfl, hb, hcell, hn, _, hsz, htk⟩
  · exact ⟨none, 0, rfl, Or.inl rfl, fun x hx => absurd rfl hx.1, Nat.le_refl _⟩
  · refine ⟨some ⟨g, 0, none⟩, cap, rfl, Or.inr ⟨g, cur.toList, rfl, ?_, ?_, fun k hk j hj => ?_⟩, fun x hx => ?_, hn⟩
    · unfold Row
      rw [hcell]
    · simp only [Array.length_toList, hsz]
      exact Nat.mul_le_mul_right s hn
    · rw [← flat_at f hk hj, ← htk]
      rw [List.getElem?_take_of_lt]
      have h1 : (k + 1) * s ≤ n * s := Nat.mul_le_mul_right s hk
      rw [Nat.add_mul, Nat.one_mul] at h1
      omega
    · have := inSlot_some hx
      omega

end Go.Proofs.YtfmhkicncgccjaaGreatDoor

/- Lists whose room is known: what an append may lean on. -/
namespace Go.Proofs.YtfmhkicncgccjaaGreatDoor
open Go.RowKit Go.Sort
set_option linter.unusedSimpArgs false
set_option linter.unusedVariables false

theorem Row.same {w : World} {b : Nat} {t t' : TypeId} {l l' : List Value} (h : Row w b t l) (h' : Row w b t' l') : l = l' := by
  unfold Row at h h'
  rw [h] at h'
  simp only [Option.some.injEq, Obj.cells.injEq] at h'
  have := congrArg Array.toList h'.1
  simpa using this
/-- The room of a list: c elements of s cells, all of its block. -/
def CapOf (w : World) (t : TypeId) (s : Nat) (a : Option Addr) (n c : Nat) : Prop :=
  (n = 0 ∧ a = none ∧ c = 0) ∨ ∃ b l, a = some ⟨b, 0, none⟩ ∧ Row w b t l ∧ l.length = c * s ∧ n ≤ c ∧ c ≤ maxLen
/-- The block of a list, whether it is empty or not. -/
def InAddr (a : Option Addr) (y : Nat) : Prop := ∃ o, a = some ⟨y, o, none⟩
theorem InAddr.of {a : Option Addr} {n y : Nat} (h : InSlot a n y) : InAddr a y := h.2
theorem CapOf.only {B : Nat → Prop} {w w' : World} {t : TypeId} {s : Nat} {a : Option Addr} {n c : Nat} (h : CapOf w t s a n c) (ho : Only B w w') (hB : ∀ y, InAddr a y → ¬ B y) : CapOf w' t s a n c := by
  rcases h with h | ⟨b, l, rfl, hr, hl, hn, hm⟩
  · exact Or.inl h
  · exact Or.inr ⟨b, l, rfl, hr.only ho (hB b ⟨0, rfl⟩), hl, hn, hm⟩
theorem CapOf.later {w w' : World} {t : TypeId} {s : Nat} {a : Option Addr} {n c : Nat} (h : CapOf w t s a n c) (hb : Below w.heap.size w w') : CapOf w' t s a n c := h.only (Only.of (B := fun _ => False) hb) (fun _ _ => id)
theorem CapOf.lt {w : World} {t : TypeId} {s : Nat} {a : Option Addr} {n c : Nat} (h : CapOf w t s a n c) {y : Nat} (hy : InAddr a y) : y < w.heap.size := by
  obtain ⟨o, rfl⟩ := hy
  rcases h with ⟨_, h, _⟩ | ⟨b, l, e, hr, hl, hn, hm⟩
  · cases h
  · cases e
    exact hr.lt
theorem CapOf.le {w : World} {t : TypeId} {s : Nat} {a : Option Addr} {n c : Nat} (h : CapOf w t s a n c) : n ≤ c := by
  rcases h with ⟨h, _, h'⟩ | ⟨b, l, e, hr, hl, hn, hm⟩
  · omega
  · exact hn
/-- A block of a list that has changed its cells keeps its room. -/
theorem CapOf.cells {w w' : World} {t : TypeId} {s : Nat} {b n c : Nat} {l l' : List Value} (h : CapOf w t s (some ⟨b, 0, none⟩) n c) (hr : Row w b t l) (hr' : Row w' b t l') (hl : l'.length = l.length) : CapOf w' t s (some ⟨b, 0, none⟩) n c := by
  rcases h with ⟨_, h, _⟩ | ⟨b', l0, e, hr0, hl0, hn, hm⟩
  · cases h
  · cases e
    exact Or.inr ⟨b, l', rfl, hr', by rw [hl, ← hl0, hr0.same hr], hn, hm⟩
theorem CapOf.take {w : World} {t : TypeId} {s : Nat} {a : Option Addr} {n c : Nat} (h : CapOf w t s a n c) {m : Nat} (hm : m ≤ n) : CapOf w t s a m c := by
  rcases h with ⟨h1, h2, h3⟩ | ⟨b, l, e, hr, hl, hn, hM⟩
  · exact Or.inl ⟨by omega, h2, h3⟩
  · exact Or.inr ⟨b, l, e, hr, hl, by omega, hM⟩
theorem OwnL.take {w : World} {t : TypeId} {s : Nat} {a : Option Addr} {n : Nat} {f : Nat → Nat → Value} (h : OwnL w t s a n f) {m : Nat} (hm : m ≤ n) : OwnL w t s a m f := by
  rcases h with h | ⟨b, l, e, hr, hl, hc⟩
  · exact Or.inl (by omega)
  · exact Or.inr ⟨b, l, e, hr, Nat.le_trans (Nat.mul_le_mul_right s hm) hl, fun k hk => hc k (by omega)⟩
theorem OwnL.congr {w : World} {t : TypeId} {s : Nat} {a : Option Addr} {n : Nat} {f g : Nat → Nat → Value} (h : OwnL w t s a n f) (hg : ∀ k, k < n → ∀ j, j < s → f k j = g k j) : OwnL w t s a n g := by
  rcases h with h | ⟨b, l, e, hr, hl, hc⟩
  · exact Or.inl h
  · exact Or.inr ⟨b, l, e, hr, hl, fun k hk j hj => by rw [hc k hk j hj, hg k hk j hj]⟩

/-- A list that owns its memory, its room known, is a row that an append may grow. -/
theorem OwnL.owns {w : World} {t : TypeId} {s : Nat} {a : Option Addr} {n c : Nat} {f : Nat → Nat → Value} {base : Nat} (h : OwnL w t s a n f) (hc : CapOf w t s a n c) (hb : ∀ y, InAddr a y → base ≤ y) : w.ownsRow base t s (.slice a n c) n (flat n s f) := by
  refine ⟨flat_length _ _ _, ?_⟩
  rcases hc with ⟨rfl, rfl, rfl⟩ | ⟨b, l, rfl, hr, hl, hn, hm⟩
  · exact Or.inl ⟨rfl, rfl⟩
  · refine Or.inr ⟨b, c, l.toArray, rfl, hb b ⟨0, rfl⟩, hr, hn, hm, by simpa using hl, ?_⟩
    apply List.ext_getElem?
    intro q
    by_cases hq : q < n * s
    · have hs : 0 < s := by
        rcases Nat.eq_zero_or_pos s with h0 | h0
        · subst h0; simp at hq
        · exact h0
      have hk : q / s < n := (Nat.div_lt_iff_lt_mul hs).2 hq
      rcases h with h | ⟨b', l', e, hr', hl', hc'⟩
      · subst h; exact absurd hk (Nat.not_lt_zero _)
      · cases e
        have e1 := hc' (q / s) hk (q % s) (Nat.mod_lt _ hs)
        have e2 := flat_at f hk (Nat.mod_lt q hs)
        have e3 : q / s * s + q % s = q := by rw [Nat.mul_comm]; exact Nat.div_add_mod q s
        rw [e3] at e1 e2
        rw [List.getElem?_take_of_lt hq, e2, hr.same hr', e1]
    · rw [List.getElem?_eq_none (by simp; omega), List.getElem?_eq_none (by rw [flat_length]; omega)]

/-- What a grown row gives. -/
theorem OwnL.of_owns2 {w : World} {base : Nat} {e : TypeId} {s : Nat} {v : Value} {n : Nat} {f : Nat → Nat → Value} (h : w.ownsRow base e s v n (flat n s f)) : ∃ a c, v = .slice a n c ∧ OwnL w e s a n f ∧ CapOf w e s a n c ∧ ∀ y, InAddr a y → base ≤ y := by
  obtain ⟨_, h⟩ := h
  rcases h with ⟨rfl, rfl⟩ | ⟨g, cap, cur, rfl, hb, hcell, hn, hm, hsz, htk⟩
  · exact ⟨none, 0, rfl, Or.inl rfl, Or.inl ⟨rfl, rfl, rfl⟩, fun y hy => by obtain ⟨o, h⟩ := hy; cases h⟩
  · have hrow : Row w g e cur.toList := by unfold Row; rw [hcell]
    refine ⟨some ⟨g, 0, none⟩, cap, rfl, Or.inr ⟨g, cur.toList, rfl, hrow, ?_, fun k hk j hj => ?_⟩, Or.inr ⟨g, cur.toList, rfl, hrow, by simpa using hsz, hn, hm⟩, fun y hy => ?_⟩
    · simp only [Array.length_toList, hsz]
      exact Nat.mul_le_mul_right s hn
    · rw [← flat_at f hk hj, ← htk]
      rw [List.getElem?_take_of_lt]
      have h1 : (k + 1) * s ≤ n * s := Nat.mul_le_mul_right s hk
      rw [Nat.add_mul, Nat.one_mul] at h1
      omega
    · obtain ⟨o, h⟩ := hy
      cases h
      exact hb
/-- The cells of one list behind those of another. -/
theorem flat_append {n m s : Nat} {f g h : Nat → Nat → Value} (hf : ∀ k, k < n → ∀ j, j < s → h k j = f k j) (hg : ∀ k, k < m → ∀ j, j < s → h (n + k) j = g k j) : flat n s f ++ flat m s g = flat (n + m) s h := by
  apply List.ext_getElem?
  intro q
  rcases Nat.eq_zero_or_pos s with h0 | hs
  · subst h0; simp [flat]
  have hm := Nat.mod_lt q hs
  have e3 : q / s * s + q % s = q := by rw [Nat.mul_comm]; exact Nat.div_add_mod q s
  by_cases h1 : q < n * s
  · have hk : q / s < n := (Nat.div_lt_iff_lt_mul hs).2 h1
    rw [List.getElem?_append_left (by rw [flat_length]; exact h1)]
    have a1 := flat_at f hk hm
    have a2 := flat_at h (n := n + m) (k := q / s) (by omega) hm
    rw [e3] at a1 a2
    rw [a1, a2, hf _ hk _ hm]
  · rw [List.getElem?_append_right (by rw [flat_length]; omega), flat_length]
    by_cases h2 : q < (n + m) * s
    · have hkq : q / s < n + m := (Nat.div_lt_iff_lt_mul hs).2 h2
      have hnk : n ≤ q / s := (Nat.le_div_iff_mul_le hs).2 (by omega)
      have e4 : q - n * s = (q / s - n) * s + q % s := by
        rw [Nat.sub_mul]
        have := Nat.mul_le_mul_right s hnk
        omega
      have a1 := flat_at g (n := m) (k := q / s - n) (by omega) hm
      have a2 := flat_at h (n := n + m) (k := q / s) hkq hm
      rw [e3] at a2
      rw [e4, a1, a2, ← hg _ (by omega) _ hm]
      rw [show n + (q / s - n) = q / s by omega]
    · rw [List.getElem?_eq_none (by rw [flat_length, Nat.le_sub_iff_add_le (by omega)]; rw [Nat.add_mul] at h2; omega), List.getElem?_eq_none (by rw [flat_length]; omega)]

end Go.Proofs.YtfmhkicncgccjaaGreatDoor

/- Copies that own their memory: lists and spots. -/
namespace Go.Proofs.YtfmhkicncgccjaaGreatDoor
open Go.RowKit Go.Sort
set_option linter.unusedSimpArgs false
set_option linter.unusedVariables false

theorem Only.cell (w : World) (p : Addr) (v : Value) : Only (fun y => y = p.block) w (w.setCell p v) :=
  ⟨rfl, rfl, rfl, by simp [World.setCell], fun k hk hn => Go.Deep.blk_setCell_other _ _ _ _ hn⟩
theorem OwnL.setOther {w : World} {t : TypeId} {s : Nat} {a : Option Addr} {n : Nat} {f : Nat → Nat → Value} (h : OwnL w t s a n f) {p : Addr} (hne : ∀ b o, a = some ⟨b, o, none⟩ → b ≠ p.block) (v : Value) : OwnL (w.setCell p v) t s a n f :=
  h.only (Only.cell w p v) (fun x hx e => by obtain ⟨_, o, ha⟩ := hx; exact hne x o ha e)
theorem OwnL.sets7 {w : World} {t : TypeId} {d n size : Nat} {f : Nat → Nat → Value} (h : OwnL w t size (some ⟨d, 0, none⟩) n f) {b1 b2 : Nat} (h1 : d ≠ b1) (h2 : d ≠ b2) (v v0 v1 v2 v3 v4 v5 : Value) :
    OwnL (((((((w.setCell ⟨b2, 5, none⟩ v).setCell ⟨b1, 0, none⟩ v0).setCell ⟨b1, 1, none⟩ v1).setCell ⟨b1, 2, none⟩ v2).setCell ⟨b1, 3, none⟩ v3).setCell ⟨b1, 4, none⟩ v4).setCell ⟨b1, 5, none⟩ v5) t size (some ⟨d, 0, none⟩) n f :=
  have g : ∀ b o, (some ⟨d, 0, none⟩ : Option Addr) = some ⟨b, o, none⟩ → b ≠ b1 := fun b o e => by cases e; exact h1
  have g2 : ∀ b o, (some ⟨d, 0, none⟩ : Option Addr) = some ⟨b, o, none⟩ → b ≠ b2 := fun b o e => by cases e; exact h2
  ((((((h.setOther g2 v).setOther g v0).setOther g v1).setOther g v2).setOther g v3).setOther g v4).setOther g v5

theorem OwnL.sets14 {w : World} {t : TypeId} {d n size : Nat} {f : Nat → Nat → Value} (h : OwnL w t size (some ⟨d, 0, none⟩) n f) {b1 b2 : Nat} (h1 : d ≠ b1) (h2 : d ≠ b2) (v0 v1 v2 v3 v4 v5 v6 v7 v8 v9 v10 v11 v12 v13 : Value) :
    OwnL ((((((((((((((w.setCell ⟨b2, 0, none⟩ v0).setCell ⟨b2, 1, none⟩ v1).setCell ⟨b2, 2, none⟩ v2).setCell ⟨b2, 3, none⟩ v3).setCell ⟨b2, 4, none⟩ v4).setCell ⟨b2, 5, none⟩ v5).setCell ⟨b2, 6, none⟩ v6).setCell ⟨b1, 0, none⟩ v7).setCell ⟨b1, 1, none⟩ v8).setCell ⟨b1, 2, none⟩ v9).setCell ⟨b1, 3, none⟩ v10).setCell ⟨b1, 4, none⟩ v11).setCell ⟨b1, 5, none⟩ v12).setCell ⟨b1, 6, none⟩ v13) t size (some ⟨d, 0, none⟩) n f :=
  have g : ∀ b o, (some ⟨d, 0, none⟩ : Option Addr) = some ⟨b, o, none⟩ → b ≠ b1 := fun b o e => by cases e; exact h1
  have g2 : ∀ b o, (some ⟨d, 0, none⟩ : Option Addr) = some ⟨b, o, none⟩ → b ≠ b2 := fun b o e => by cases e; exact h2
  (((((((((((((h.setOther g2 v0).setOther g2 v1).setOther g2 v2).setOther g2 v3).setOther g2 v4).setOther g2 v5).setOther g2 v6).setOther g v7).setOther g v8).setOther g v9).setOther g v10).setOther g v11).setOther g v12).setOther g v13

theorem OwnL.sets7k {w : World} {t : TypeId} {d n size : Nat} {f : Nat → Nat → Value} (h : OwnL w t size (some ⟨d, 0, none⟩) n f) {b1 : Nat} (h1 : d ≠ b1) (o0 o1 o2 o3 o4 o5 o6 : Nat) (v0 v1 v2 v3 v4 v5 v6 : Value) :
    OwnL (((((((w.setCell ⟨b1, o0, none⟩ v0).setCell ⟨b1, o1, none⟩ v1).setCell ⟨b1, o2, none⟩ v2).setCell ⟨b1, o3, none⟩ v3).setCell ⟨b1, o4, none⟩ v4).setCell ⟨b1, o5, none⟩ v5).setCell ⟨b1, o6, none⟩ v6) t size (some ⟨d, 0, none⟩) n f :=
  have g : ∀ b o, (some ⟨d, 0, none⟩ : Option Addr) = some ⟨b, o, none⟩ → b ≠ b1 := fun b o e => by cases e; exact h1
  ((((((h.setOther g v0).setOther g v1).setOther g v2).setOther g v3).setOther g v4).setOther g v5).setOther g v6

set_option maxHeartbeats 400000 in
theorem toStringS_own (a : Option Addr) (cap : Nat) (ss : List ByteArray) (w : World) (hm : StrsAt w a ss) (hroom : ss.length ≤ 1048576) :
    Calls Tryz.prog 35 #[.slice a ss.length cap] w fun e w' => (∃ b, e = .returned (.slice (some ⟨b, 0, none⟩) ss.length ss.length) ∧ w.heap.size ≤ b ∧ b < w'.heap.size ∧ OwnL w' 9 1 (some ⟨b, 0, none⟩) ss.length (strF ss)) ∧ Below w.heap.size w w' := by
  have hmk := run_make_row' (P := Tryz.prog) 24 9 (.string .empty) 16 Tryz.underlying24 info9 rfl .i64 .i64 ss.length (by omega) (by omega)
  go_enter Tryz.func35, Tryz.ntmps35
  go_wp2
  go_loopw [4] (fun i wr => ∃ (k : Nat), k ≤ ss.length ∧ i = .int .i64 k ∧ wr.rowIs w.heap.size 9 ss.length (fun j => if j < k then .string (gs ss j) else .string .empty) ∧ Below w.heap.size w wr) (fun i _ => ss.length - (intOf i).toNat)
  case atStart =>
    exact ⟨0, Nat.zero_le _, rfl, (World.rowIs_made w _ _ _).congr (fun i _ => by simp), (Below.refl _ _).alloc (Nat.le_refl _) _⟩
  case round =>
    obtain ⟨k, hk, rfl, hrow, hbel⟩ := hrel
    clear hmk
    by_cases hlt : k < ss.length
    · obtain ⟨b, o, ha, hb, hc⟩ := (hm.later hbel).at hlt
      have hc1 := hrow.cell hlt
      have hfz := hrow.frozen k
      subst ha
      go_wp2
      go_roundw
      case rel =>
        refine ⟨k + 1, by omega, by go_num, (hrow.set k _).congr (fun i _ => ?_), hbel.setCell (Nat.le_refl _) _⟩
        by_cases e : i = k
        · subst e; simp
        · simp only [e, if_false]
          by_cases h : i < k
          · rw [if_pos h, if_pos (by omega)]
          · rw [if_neg h, if_neg (by omega)]
      case measure => simp [intOf]; omega
    · have : k = ss.length := by omega
      subst this
      go_wp2
      go_ret
      refine ⟨⟨w.heap.size, rfl, Nat.le_refl _, hrow.lt, OwnL.of_rowIs hrow (by omega) (fun k hk j hj => ?_)⟩, hbel⟩
      have hj0 : j = 0 := by omega
      subst hj0
      simp only [Nat.mul_one, Nat.add_zero]
      rw [if_pos hk]
      rfl

set_option maxHeartbeats 400000 in
theorem toClaimUseS_own (a : Option Addr) (cap : Nat) (us : List Use) (w : World) (hm : UsesAt w a us) (hroom : us.length ≤ 1048576) :
    Calls Tryz.prog 37 #[.slice a us.length cap] w fun e w' => (∃ b, e = .returned (.slice (some ⟨b, 0, none⟩) us.length us.length) ∧ w.heap.size ≤ b ∧ b < w'.heap.size ∧ OwnL w' 101 3 (some ⟨b, 0, none⟩) us.length (useF us)) ∧ Below w.heap.size w w' := by
  have hmk := make_uses us.length hroom
  go_enter Tryz.func37, Tryz.ntmps37
  go_wp2
  go_loopw [4] (fun i wr => ∃ (k : Nat) (g : Nat → Value), k ≤ us.length ∧ i = .int .i64 k ∧ wr.rowIs w.heap.size 101 (us.length * 3) g ∧ (∀ j, j < k → ∀ c, c < 3 → g (j * 3 + c) = useCell (gu us j) c) ∧ Below w.heap.size w wr) (fun i _ => us.length - (intOf i).toNat)
  case atStart =>
    exact ⟨0, _, Nat.zero_le _, rfl, rowIs_made3 w _ _ _ _ _, fun j hj => absurd hj (Nat.not_lt_zero _), (Below.refl _ _).alloc (Nat.le_refl _) _⟩
  case round =>
    obtain ⟨k, g, hk, rfl, hrow, hg, hbel⟩ := hrel
    clear hmk
    by_cases hlt : k < us.length
    · obtain ⟨b, o, ha, hb, hc0, hc1, hc2⟩ := (hm.later hbel).at hlt
      subst ha
      go_wp2_with fail
      refine (toClaimUse_any (gu us k) _).mono ?_
      rintro e w1 ⟨rfl, hb1⟩
      have hrow1 : w1.rowIs w.heap.size 101 (us.length * 3) g := hrow.of_block (hb1.block _ hrow.lt)
      have hq0 := hrow1.cell (i := k * 3) (by omega)
      have hq1 := hrow1.cell (i := k * 3 + 1) (by omega)
      have hq2 := hrow1.cell (i := k * 3 + 1 + 1) (by omega)
      have hf0 := hrow1.frozen (k * 3)
      have hf1 := hrow1.frozen (k * 3 + 1)
      have hf2 := hrow1.frozen (k * 3 + 1 + 1)
      unfold useV
      clear hc0 hc1 hc2
      go_wp2
      have hbel1 : Below w.heap.size w w1 := hbel.trans (hb1.mono hbel.size)
      go_roundw
      case rel =>
        refine ⟨k + 1, _, by omega, by go_num, ((hrow1.set (k * 3) _).set (k * 3 + 1) _).set (k * 3 + 2) _, ?_, ((hbel1.setCell (Nat.le_refl _) _).setCell (Nat.le_refl _) _).setCell (Nat.le_refl _) _⟩
        intro j hj c hc
        by_cases e : j = k
        · subst e
          match c, hc with
          | 0, _ => simp [useCell]
          | 1, _ => simp [useCell]
          | 2, _ => simp [useCell]
        · have := hg j (by omega) c hc
          rw [← this]
          rw [if_neg (by omega), if_neg (by omega), if_neg (by omega)]
      case measure => simp [intOf]; omega
    · have : k = us.length := by omega
      subst this
      go_wp2
      go_ret
      exact ⟨⟨w.heap.size, rfl, Nat.le_refl _, hrow.lt, OwnL.of_rowIs hrow (Nat.le_refl _) (fun k hk j hj => hg k hk j hj)⟩, hbel⟩

set_option maxHeartbeats 400000 in
theorem toClaimFoeS_own (a : Option Addr) (cap : Nat) (us : List Foe) (w : World) (hm : FoesAt w a us) (hroom : us.length ≤ 1048576) :
    Calls Tryz.prog 33 #[.slice a us.length cap] w fun e w' => (∃ b, e = .returned (.slice (some ⟨b, 0, none⟩) us.length us.length) ∧ w.heap.size ≤ b ∧ b < w'.heap.size ∧ OwnL w' 105 2 (some ⟨b, 0, none⟩) us.length (foeF us)) ∧ Below w.heap.size w w' := by
  have hmk := make_of (P := Tryz.prog) Tryz.underlying34 infoFoe us.length (by omega) (by omega)
  simp only [Value.cells] at hmk
  go_enter Tryz.func33, Tryz.ntmps33
  go_wp2
  go_loopw [4] (fun i wr => ∃ (k : Nat) (g : Nat → Value), k ≤ us.length ∧ i = .int .i64 k ∧ wr.rowIs w.heap.size 105 (us.length * 2) g ∧ (∀ j, j < k → ∀ c, c < 2 → g (j * 2 + c) = foeCell (gf us j) c) ∧ Below w.heap.size w wr) (fun i _ => us.length - (intOf i).toNat)
  case atStart =>
    exact ⟨0, _, Nat.zero_le _, rfl, rowIs_madeN w _ _ _, fun j hj => absurd hj (Nat.not_lt_zero _), (Below.refl _ _).alloc (Nat.le_refl _) _⟩
  case round =>
    obtain ⟨k, g, hk, rfl, hrow, hg, hbel⟩ := hrel
    clear hmk
    by_cases hlt : k < us.length
    · obtain ⟨b, o, ha, hb, hc0, hc1⟩ := (hm.later hbel).at hlt
      subst ha
      go_wp2_with fail
      refine (toClaimFoe_any (gf us k) _).mono ?_
      rintro e w1 ⟨rfl, hb1⟩
      have hrow1 : w1.rowIs w.heap.size 105 (us.length * 2) g := hrow.of_block (hb1.block _ hrow.lt)
      have hq0 := hrow1.cell (i := k * 2) (by omega)
      have hq1 := hrow1.cell (i := k * 2 + 1) (by omega)
      have hf0 := hrow1.frozen (k * 2)
      have hf1 := hrow1.frozen (k * 2 + 1)
      unfold foeV
      clear hc0 hc1
      go_wp2
      have hbel1 : Below w.heap.size w w1 := hbel.trans (hb1.mono hbel.size)
      go_roundw
      case rel =>
        refine ⟨k + 1, _, by omega, by go_num, (hrow1.set (k * 2) _).set (k * 2 + 1) _, ?_, (hbel1.setCell (Nat.le_refl _) _).setCell (Nat.le_refl _) _⟩
        intro j hj c hc
        by_cases e : j = k
        · subst e
          match c, hc with
          | 0, _ => simp [foeCell]
          | 1, _ => simp [foeCell]
        · have := hg j (by omega) c hc
          rw [← this]
          rw [if_neg (by omega), if_neg (by omega)]
      case measure => simp [intOf]; omega
    · have : k = us.length := by omega
      subst this
      go_wp2
      go_ret
      exact ⟨⟨w.heap.size, rfl, Nat.le_refl _, hrow.lt, OwnL.of_rowIs hrow (Nat.le_refl _) (fun k hk j hj => hg k hk j hj)⟩, hbel⟩

set_option maxHeartbeats 1000000 in
theorem toClaimSpot_own (s : Spot) (m : Option Addr) (c : Nat) (w : World) (hm : StrsAt w m s.may) (hroom : s.may.length ≤ 1048576) :
    Calls Tryz.prog 75 #[spotV s m c] w fun e w' => (∃ d, e = .returned (spotV s (some ⟨d, 0, none⟩) s.may.length) ∧ w.heap.size < d ∧ d < w'.heap.size ∧ OwnL w' 9 1 (some ⟨d, 0, none⟩) s.may.length (strF s.may)) ∧ Below w.heap.size w w' := by
  unfold spotV
  go_enter Tryz.func75, Tryz.ntmps75
  go_wp2_with fail
  have b0 : Below w.heap.size w (((w.alloc (.cells #[.string s.name, .int .i64 s.cap, .int .i64 s.least, .int .i64 s.most, .slice m s.may.length c] 90)).alloc (.cells #[.string .empty, .int .i64 0, .int .i64 0, .int .i64 0, .slice none 0 0] 99)).alloc (.cells #[.string s.name, .int .i64 s.cap, .int .i64 s.least, .int .i64 s.most, .slice none 0 0] 99)) :=
    (((Below.refl _ _).alloc (Nat.le_refl _) _).alloc (by simp) _).alloc (by simp; omega) _
  have z0 : Row (((w.alloc (.cells #[.string s.name, .int .i64 s.cap, .int .i64 s.least, .int .i64 s.most, .slice m s.may.length c] 90)).alloc (.cells #[.string .empty, .int .i64 0, .int .i64 0, .int .i64 0, .slice none 0 0] 99)).alloc (.cells #[.string s.name, .int .i64 s.cap, .int .i64 s.least, .int .i64 s.most, .slice none 0 0] 99)) (w.heap.size + 1) 99 [.string .empty, .int .i64 0, .int .i64 0, .int .i64 0, .slice none 0 0] := by
    have := (Row.new (w.alloc (.cells #[.string s.name, .int .i64 s.cap, .int .i64 s.least, .int .i64 s.most, .slice m s.may.length c] 90)) 99 [.string .empty, .int .i64 0, .int .i64 0, .int .i64 0, .slice none 0 0]).alloc (.cells #[.string s.name, .int .i64 s.cap, .int .i64 s.least, .int .i64 s.most, .slice none 0 0] 99)
    simpa using this
  have o0 : Row (((w.alloc (.cells #[.string s.name, .int .i64 s.cap, .int .i64 s.least, .int .i64 s.most, .slice m s.may.length c] 90)).alloc (.cells #[.string .empty, .int .i64 0, .int .i64 0, .int .i64 0, .slice none 0 0] 99)).alloc (.cells #[.string s.name, .int .i64 s.cap, .int .i64 s.least, .int .i64 s.most, .slice none 0 0] 99)) (w.heap.size + 1 + 1) 99 [.string s.name, .int .i64 s.cap, .int .i64 s.least, .int .i64 s.most, .slice none 0 0] := by
    have := Row.new ((w.alloc (.cells #[.string s.name, .int .i64 s.cap, .int .i64 s.least, .int .i64 s.most, .slice m s.may.length c] 90)).alloc (.cells #[.string .empty, .int .i64 0, .int .i64 0, .int .i64 0, .slice none 0 0] 99)) 99 [.string s.name, .int .i64 s.cap, .int .i64 s.least, .int .i64 s.most, .slice none 0 0]
    simpa using this
  refine (toStringS_own m c s.may _ (hm.later b0) hroom).mono ?_
  rintro e w1 ⟨⟨d, rfl, hd, hdx, st⟩, hb⟩
  have hd' : w.heap.size + 1 + 1 < d := by simp at hd; omega
  have b1 := b0.trans (hb.mono b0.size)
  have z1 := z0.later hb
  have o1 := o0.later hb
  clear b0 z0 o0 hb hd
  have g0 := o1.cell 0 rfl
  have g1 := o1.cell 1 rfl
  have g2 := o1.cell 2 rfl
  have g3 := o1.cell 3 rfl
  have g4 := o1.cell 4 rfl
  have f4 := o1.frozen 4
  have r0 := z1.cell 0 rfl
  have r1 := z1.cell 1 rfl
  have r2 := z1.cell 2 rfl
  have r3 := z1.cell 3 rfl
  have r4 := z1.cell 4 rfl
  have k0 := z1.frozen 0
  have k1 := z1.frozen 1
  have k2 := z1.frozen 2
  have k3 := z1.frozen 3
  have k4 := z1.frozen 4
  have hne2 : w.heap.size + 1 ≠ w.heap.size + 1 + 1 := by omega
  go_wp2
  refine bodyPost_ret (v := .agg #[.string s.name, .int .i64 s.cap, .int .i64 s.least, .int .i64 s.most, .slice (some ⟨d, 0, none⟩) s.may.length s.may.length])
    (by simp [results, Tryz.results75, go_sem, r0, r1, r2, r3, r4]) rfl ⟨⟨d, rfl, by omega, by simp only [Go.Deep.nblk_setCell]; exact hdx, ?_⟩, ?_⟩
  · have e1 : ∀ b o, (some ⟨d, 0, none⟩ : Option Addr) = some ⟨b, o, none⟩ → b ≠ w.heap.size + 1 := fun b o h => by cases h; omega
    have e2 : ∀ b o, (some ⟨d, 0, none⟩ : Option Addr) = some ⟨b, o, none⟩ → b ≠ w.heap.size + 1 + 1 := fun b o h => by cases h; omega
    exact (((((OwnL.setOther st e2 _).setOther e1 _).setOther e1 _).setOther e1 _).setOther e1 _).setOther e1 _
  · exact (((((b1.setCell (by simp; omega) _).setCell (by simp) _).setCell (by simp) _).setCell (by simp) _).setCell (by simp) _).setCell (by simp) _

set_option maxHeartbeats 1000000 in
theorem toClaimSpotS_own (a : Option Addr) (cap : Nat) (us : List Spot) (w : World) (hm : SpotsAt w a us) (hroom : us.length ≤ 1048576) (hrooms : ∀ s ∈ us, s.may.length ≤ 1048576) :
    Calls Tryz.prog 34 #[.slice a us.length cap] w fun e w' => (∃ b A C, e = .returned (.slice (some ⟨b, 0, none⟩) us.length us.length) ∧ w.heap.size ≤ b ∧ OwnSpots w' (some ⟨b, 0, none⟩) us A C ∧ ∀ x, InSp (some ⟨b, 0, none⟩) us A x → w.heap.size ≤ x) ∧ Below w.heap.size w w' := by
  have hmk := make_of (P := Tryz.prog) Tryz.underlying35 infoSpot us.length (by omega) (by omega)
  simp only [Value.cells] at hmk
  go_enter Tryz.func34, Tryz.ntmps34
  go_wp2
  go_loopw [4] (fun i wr => ∃ (k : Nat) (g : Nat → Value) (D : Nat → Nat), k ≤ us.length ∧ i = .int .i64 k ∧ wr.rowIs w.heap.size 99 (us.length * 5) g ∧ (∀ j, j < k → ∀ c, c < 5 → g (j * 5 + c) = spotCell (gp us j) (some ⟨D j, 0, none⟩) (gp us j).may.length c) ∧
    (∀ j, j < k → (w.heap.size < D j ∧ D j < wr.heap.size) ∧ OwnL wr 9 1 (some ⟨D j, 0, none⟩) (gp us j).may.length (strF (gp us j).may)) ∧ (∀ i j, i < j → j < k → D i < D j) ∧ Below w.heap.size w wr) (fun i _ => us.length - (intOf i).toNat)
  case atStart =>
    exact ⟨0, _, fun _ => 0, Nat.zero_le _, rfl, rowIs_madeN w _ _ _, fun j hj => absurd hj (Nat.not_lt_zero _), fun j hj => absurd hj (Nat.not_lt_zero _), fun i j _ hj => absurd hj (Nat.not_lt_zero _), (Below.refl _ _).alloc (Nat.le_refl _) _⟩
  case round wr =>
    obtain ⟨k, g, D, hk, rfl, hrow, hg, hD, hO, hbel⟩ := hrel
    have HO : Hid (∀ i j, i < j → j < k → D i < D j) := hO
    have HD : Hid (∀ j, j < k → (w.heap.size < D j ∧ D j < wr.heap.size) ∧ OwnL wr 9 1 (some ⟨D j, 0, none⟩) (gp us j).may.length (strF (gp us j).may)) := hD
    clear hO hD
    have HG : Hid (∀ j, j < k → ∀ c, c < 5 → g (j * 5 + c) = spotCell (gp us j) (some ⟨D j, 0, none⟩) (gp us j).may.length c) := hg
    clear hmk hg
    by_cases hlt : k < us.length
    · obtain ⟨b, o, m, c, ha, hb, hc0, hc1, hc2, hc3, hc4, hst⟩ := (hm.later hbel).at hlt
      subst ha
      go_wp2_with fail
      refine (toClaimSpot_own (gp us k) m c _ hst (hrooms _ (gp_mem hlt))).mono ?_
      rintro e w1 ⟨⟨d, rfl, hd, hdx, st⟩, hb1⟩
      have hrow1 : w1.rowIs w.heap.size 99 (us.length * 5) g := hrow.of_block (hb1.block _ hrow.lt)
      have hq0 := hrow1.cell (i := k * 5) (by omega)
      have hq1 := hrow1.cell (i := k * 5 + 1) (by omega)
      have hq2 := hrow1.cell (i := k * 5 + 2) (by omega)
      have hq3 := hrow1.cell (i := k * 5 + 3) (by omega)
      have hq4 := hrow1.cell (i := k * 5 + 4) (by omega)
      have hf0 := hrow1.frozen (k * 5)
      have hf1 := hrow1.frozen (k * 5 + 1)
      have hf2 := hrow1.frozen (k * 5 + 2)
      have hf3 := hrow1.frozen (k * 5 + 3)
      have hf4 := hrow1.frozen (k * 5 + 4)
      have hdw : w.heap.size < d := Nat.lt_of_le_of_lt hbel.size hd
      unfold spotV
      clear hc0 hc1 hc2 hc3 hc4
      go_wp2
      have hbel1 : Below w.heap.size w w1 := hbel.trans (hb1.mono hbel.size)
      go_roundw
      case rel =>
        refine ⟨k + 1, _, fun j => if j = k then d else D j, by omega, by go_num, ((((hrow1.set (k * 5) _).set (k * 5 + 1) _).set (k * 5 + 2) _).set (k * 5 + 3) _).set (k * 5 + 4) _, ?_, ?_, ?_,
          ((((hbel1.setCell (Nat.le_refl _) _).setCell (Nat.le_refl _) _).setCell (Nat.le_refl _) _).setCell (Nat.le_refl _) _).setCell (Nat.le_refl _) _⟩
        · intro j hj c hc
          by_cases e : j = k
          · subst e
            match c, hc with
            | 0, _ => simp [spotCell]
            | 1, _ => simp [spotCell]
            | 2, _ => simp [spotCell]
            | 3, _ => simp [spotCell]
            | 4, _ => simp [spotCell]
          · have := HG.out j (by omega) c hc
            dsimp only
            rw [if_neg e, ← this]
            rw [if_neg (by omega), if_neg (by omega), if_neg (by omega), if_neg (by omega), if_neg (by omega)]
        · intro j hj
          by_cases e : j = k
          · subst e
            dsimp only
            rw [if_pos rfl]
            have e1 : ∀ b o, (some ⟨d, 0, none⟩ : Option Addr) = some ⟨b, o, none⟩ → b ≠ w.heap.size := fun b o h => by cases h; omega
            exact ⟨⟨hdw, by simp only [Go.Deep.nblk_setCell]; exact hdx⟩, ((((OwnL.setOther st e1 _).setOther e1 _).setOther e1 _).setOther e1 _).setOther e1 _⟩
          · dsimp only
            rw [if_neg e]
            obtain ⟨⟨h1, h1x⟩, h2⟩ := HD.out j (by omega)
            have e1 : ∀ b o, (some ⟨D j, 0, none⟩ : Option Addr) = some ⟨b, o, none⟩ → b ≠ w.heap.size := fun b o h => by cases h; omega
            exact ⟨⟨h1, by simp only [Go.Deep.nblk_setCell]; exact Nat.lt_of_lt_of_le h1x hb1.size⟩, ((((OwnL.setOther (h2.later hb1) e1 _).setOther e1 _).setOther e1 _).setOther e1 _).setOther e1 _⟩
        · intro i j hij hj
          dsimp only
          by_cases e : j = k
          · subst e
            rw [if_pos rfl, if_neg (by omega)]
            exact Nat.lt_trans (HD.out i hij).1.2 hd
          · rw [if_neg e, if_neg (by omega)]
            exact HO.out i j hij (by omega)
      case measure => simp [intOf]; omega
    · have : k = us.length := by omega
      subst this
      go_wp2
      go_ret
      have HD' := HD.out
      have HO' := HO.out
      refine ⟨⟨w.heap.size, fun j => some ⟨D j, 0, none⟩, fun j => (gp us j).may.length, rfl, Nat.le_refl _, ⟨OwnL.of_rowIs hrow (Nat.le_refl _) (fun k hk j hj => HG.out k hk j hj), fun k hk => (HD' k hk).2, fun k hk => Nat.le_refl _, fun k hk x hx hx' => ?_, fun i j hi hj hij x hx hx' => ?_⟩, fun x hx => ?_⟩, hbel⟩
      · have e1 := inSlot_some hx
        have e2 := inSlot_some hx'
        have := (HD' k hk).1.1
        omega
      · have e1 := inSlot_some hx
        have e2 := inSlot_some hx'
        rcases Nat.lt_or_gt_of_ne hij with h | h
        · have := HO' i j h hj; omega
        · have := HO' j i h hi; omega
      · rcases hx with hx | ⟨k, hk, hx⟩
        · have := inSlot_some hx; omega
        · have := inSlot_some hx
          have := (HD' k hk).1.1
          omega

end Go.Proofs.YtfmhkicncgccjaaGreatDoor

/- Copies that own their memory: wants and parts. -/
namespace Go.Proofs.YtfmhkicncgccjaaGreatDoor
open Go.RowKit Go.Sort
set_option linter.unusedSimpArgs false
set_option linter.unusedVariables false

/-- A want's lists, each in a block of its own. -/
structure OwnW (w : World) (x : Want) (b2 b3 b4 b5 : Nat) : Prop where
  stuffs : OwnL w 9 1 (some ⟨b2, 0, none⟩) x.stuffs.length (strF x.stuffs)
  uses : OwnL w 101 3 (some ⟨b3, 0, none⟩) x.uses.length (useF x.uses)
  opens : OwnL w 9 1 (some ⟨b4, 0, none⟩) x.opens.length (strF x.opens)
  shuts : OwnL w 9 1 (some ⟨b5, 0, none⟩) x.shuts.length (strF x.shuts)
theorem OwnW.later {w w' : World} {x : Want} {b2 b3 b4 b5 : Nat} (h : OwnW w x b2 b3 b4 b5) (hb : Below w.heap.size w w') : OwnW w' x b2 b3 b4 b5 := ⟨h.stuffs.later hb, h.uses.later hb, h.opens.later hb, h.shuts.later hb⟩
theorem OwnW.in_ {w : World} {x : Want} {b2 b3 b4 b5 : Nat} (h : OwnW w x b2 b3 b4 b5) : WantIn w x (some ⟨b2, 0, none⟩) (some ⟨b3, 0, none⟩) (some ⟨b4, 0, none⟩) (some ⟨b5, 0, none⟩) := ⟨h.stuffs.rowAt, h.uses.rowAt, h.opens.rowAt, h.shuts.rowAt⟩
theorem OwnW.sets7k {w : World} {x : Want} {d2 d3 d4 d5 : Nat} (h : OwnW w x d2 d3 d4 d5) {b1 : Nat} (h2 : d2 ≠ b1) (h3 : d3 ≠ b1) (h4 : d4 ≠ b1) (h5 : d5 ≠ b1) (o0 o1 o2 o3 o4 o5 o6 : Nat) (v0 v1 v2 v3 v4 v5 v6 : Value) :
    OwnW (((((((w.setCell ⟨b1, o0, none⟩ v0).setCell ⟨b1, o1, none⟩ v1).setCell ⟨b1, o2, none⟩ v2).setCell ⟨b1, o3, none⟩ v3).setCell ⟨b1, o4, none⟩ v4).setCell ⟨b1, o5, none⟩ v5).setCell ⟨b1, o6, none⟩ v6) x d2 d3 d4 d5 :=
  ⟨OwnL.sets7k h.stuffs h2 _ _ _ _ _ _ _ _ _ _ _ _ _ _, OwnL.sets7k h.uses h3 _ _ _ _ _ _ _ _ _ _ _ _ _ _, OwnL.sets7k h.opens h4 _ _ _ _ _ _ _ _ _ _ _ _ _ _, OwnL.sets7k h.shuts h5 _ _ _ _ _ _ _ _ _ _ _ _ _ _⟩
theorem four_le (D : Nat → Nat) (c : Nat) (h1 : 2 ≤ c) (h2 : c ≤ 5) (a : D 2 < D 3) (b : D 3 < D 4) (d : D 4 < D 5) : D 2 ≤ D c ∧ D c ≤ D 5 := by
  match c, h1, h2 with
  | 2, _, _ => omega
  | 3, _, _ => omega
  | 4, _, _ => omega
  | 5, _, _ => omega
theorem four_ne (D : Nat → Nat) {c d : Nat} (h1 : c < 4) (h2 : d < 4) (h : c ≠ d) (a : D 2 < D 3) (b : D 3 < D 4) (e : D 4 < D 5) : D (c + 2) ≠ D (d + 2) := by
  match c, h1, d, h2 with
  | 0, _, 0, _ => exact absurd rfl h
  | 0, _, 1, _ => simp only [Nat.reduceAdd]; omega
  | 0, _, 2, _ => simp only [Nat.reduceAdd]; omega
  | 0, _, 3, _ => simp only [Nat.reduceAdd]; omega
  | 1, _, 0, _ => simp only [Nat.reduceAdd]; omega
  | 1, _, 1, _ => exact absurd rfl h
  | 1, _, 2, _ => simp only [Nat.reduceAdd]; omega
  | 1, _, 3, _ => simp only [Nat.reduceAdd]; omega
  | 2, _, 0, _ => simp only [Nat.reduceAdd]; omega
  | 2, _, 1, _ => simp only [Nat.reduceAdd]; omega
  | 2, _, 2, _ => exact absurd rfl h
  | 2, _, 3, _ => simp only [Nat.reduceAdd]; omega
  | 3, _, 0, _ => simp only [Nat.reduceAdd]; omega
  | 3, _, 1, _ => simp only [Nat.reduceAdd]; omega
  | 3, _, 2, _ => simp only [Nat.reduceAdd]; omega
  | 3, _, 3, _ => exact absurd rfl h

set_option maxHeartbeats 2000000 in
theorem toClaimWant_own (x : Want) (a2 a3 a4 a5 : Option Addr) (c2 c3 c4 c5 : Nat) (w : World) (hin : WantIn w x a2 a3 a4 a5) (hr : WantRoom x) :
    Calls Tryz.prog 9 #[wantW x a2 a3 a4 a5 c2 c3 c4 c5] w fun e w' => (∃ b2 b3 b4 b5, e = .returned (wantW x (some ⟨b2, 0, none⟩) (some ⟨b3, 0, none⟩) (some ⟨b4, 0, none⟩) (some ⟨b5, 0, none⟩) x.stuffs.length x.uses.length x.opens.length x.shuts.length) ∧
      (w.heap.size < b2 ∧ b2 < b3 ∧ b3 < b4 ∧ b4 < b5 ∧ b5 < w'.heap.size) ∧ OwnW w' x b2 b3 b4 b5) ∧ Below w.heap.size w w' := by
  unfold wantW
  go_enter Tryz.func9, Tryz.ntmps9
  go_wp2_with fail
  have b0 : Below w.heap.size w (((w.alloc (.cells #[.int .i64 x.number, .int .i64 x.kind, .slice a2 x.stuffs.length c2, .slice a3 x.uses.length c3, .slice a4 x.opens.length c4, .slice a5 x.shuts.length c5] 30)).alloc (.cells #[.int .i64 0, .int .i64 0, .slice none 0 0, .slice none 0 0, .slice none 0 0, .slice none 0 0] 42)).alloc (.cells #[.int .i64 x.number, .int .i64 x.kind, .slice none 0 0, .slice none 0 0, .slice none 0 0, .slice none 0 0] 42)) :=
    (((Below.refl _ _).alloc (Nat.le_refl _) _).alloc (by simp) _).alloc (by simp; omega) _
  have i0 : Row (((w.alloc (.cells #[.int .i64 x.number, .int .i64 x.kind, .slice a2 x.stuffs.length c2, .slice a3 x.uses.length c3, .slice a4 x.opens.length c4, .slice a5 x.shuts.length c5] 30)).alloc (.cells #[.int .i64 0, .int .i64 0, .slice none 0 0, .slice none 0 0, .slice none 0 0, .slice none 0 0] 42)).alloc (.cells #[.int .i64 x.number, .int .i64 x.kind, .slice none 0 0, .slice none 0 0, .slice none 0 0, .slice none 0 0] 42)) w.heap.size 30 [.int .i64 x.number, .int .i64 x.kind, .slice a2 x.stuffs.length c2, .slice a3 x.uses.length c3, .slice a4 x.opens.length c4, .slice a5 x.shuts.length c5] := ((Row.new _ _ _).alloc _).alloc _
  have z0 : Row (((w.alloc (.cells #[.int .i64 x.number, .int .i64 x.kind, .slice a2 x.stuffs.length c2, .slice a3 x.uses.length c3, .slice a4 x.opens.length c4, .slice a5 x.shuts.length c5] 30)).alloc (.cells #[.int .i64 0, .int .i64 0, .slice none 0 0, .slice none 0 0, .slice none 0 0, .slice none 0 0] 42)).alloc (.cells #[.int .i64 x.number, .int .i64 x.kind, .slice none 0 0, .slice none 0 0, .slice none 0 0, .slice none 0 0] 42)) (w.heap.size + 1) 42 [.int .i64 0, .int .i64 0, .slice none 0 0, .slice none 0 0, .slice none 0 0, .slice none 0 0] := by
    have := (Row.new (w.alloc (.cells #[.int .i64 x.number, .int .i64 x.kind, .slice a2 x.stuffs.length c2, .slice a3 x.uses.length c3, .slice a4 x.opens.length c4, .slice a5 x.shuts.length c5] 30)) 42 [.int .i64 0, .int .i64 0, .slice none 0 0, .slice none 0 0, .slice none 0 0, .slice none 0 0]).alloc (.cells #[.int .i64 x.number, .int .i64 x.kind, .slice none 0 0, .slice none 0 0, .slice none 0 0, .slice none 0 0] 42)
    simpa using this
  have o0 : Row (((w.alloc (.cells #[.int .i64 x.number, .int .i64 x.kind, .slice a2 x.stuffs.length c2, .slice a3 x.uses.length c3, .slice a4 x.opens.length c4, .slice a5 x.shuts.length c5] 30)).alloc (.cells #[.int .i64 0, .int .i64 0, .slice none 0 0, .slice none 0 0, .slice none 0 0, .slice none 0 0] 42)).alloc (.cells #[.int .i64 x.number, .int .i64 x.kind, .slice none 0 0, .slice none 0 0, .slice none 0 0, .slice none 0 0] 42)) (w.heap.size + 1 + 1) 42 [.int .i64 x.number, .int .i64 x.kind, .slice none 0 0, .slice none 0 0, .slice none 0 0, .slice none 0 0] := by
    have := Row.new ((w.alloc (.cells #[.int .i64 x.number, .int .i64 x.kind, .slice a2 x.stuffs.length c2, .slice a3 x.uses.length c3, .slice a4 x.opens.length c4, .slice a5 x.shuts.length c5] 30)).alloc (.cells #[.int .i64 0, .int .i64 0, .slice none 0 0, .slice none 0 0, .slice none 0 0, .slice none 0 0] 42)) 42 [.int .i64 x.number, .int .i64 x.kind, .slice none 0 0, .slice none 0 0, .slice none 0 0, .slice none 0 0]
    simpa using this
  refine (toStringS_own a2 c2 x.stuffs _ (hin.later b0).stuffs hr.stuffs).mono ?_
  rintro e w1 ⟨⟨d2, rfl, hd2, hx2, s2⟩, hb⟩
  have b1 := b0.trans (hb.mono b0.size)
  have i1 := i0.later hb
  have z1 := z0.later hb
  have o1 := o0.later hb
  clear b0 i0 z0 o0 hb
  have hne : w.heap.size ≠ w.heap.size + 1 + 1 := by omega
  have hd2' : w.heap.size + 1 + 1 < d2 := by simp at hd2; omega
  have q3 := i1.cell 3 rfl
  have f2 := o1.frozen 2
  have g2 := o1.cell 2 rfl
  go_wp2_with fail
  have b1' := b1.setCell (p := ⟨w.heap.size + 1 + 1, 2, none⟩) (by simp; omega) (.slice (some ⟨d2, 0, none⟩) x.stuffs.length x.stuffs.length)
  have i1' := i1.other (a := ⟨w.heap.size + 1 + 1, 2, none⟩) hne (.slice (some ⟨d2, 0, none⟩) x.stuffs.length x.stuffs.length)
  have z1' := z1.other (a := ⟨w.heap.size + 1 + 1, 2, none⟩) (by simp) (.slice (some ⟨d2, 0, none⟩) x.stuffs.length x.stuffs.length)
  have o1' := o1.set 2 (.slice (some ⟨d2, 0, none⟩) x.stuffs.length x.stuffs.length)
  have s2' := OwnL.setOther s2 (p := ⟨w.heap.size + 1 + 1, 2, none⟩) (fun b o h => by cases h; exact Nat.ne_of_gt hd2') (.slice (some ⟨d2, 0, none⟩) x.stuffs.length x.stuffs.length)
  refine (toClaimUseS_own a3 c3 x.uses _ (hin.later b1').uses hr.uses).mono ?_
  clear q3 f2 g2
  rintro e w2 ⟨⟨d3, rfl, hd3, hx3, s3⟩, hb⟩
  have h23 : d2 < d3 := by rw [Go.Deep.nblk_setCell] at hd3; omega
  have hd3' : w.heap.size + 1 + 1 < d3 := by have := o1'.lt; omega
  have b2 := b1'.trans (hb.mono b1'.size)
  have i2 := i1'.later hb
  have z2 := z1'.later hb
  have o2 := o1'.later hb
  have s2 := OwnL.later s2' hb
  clear b1 i1 z1 o1 b1' i1' z1' o1' hb s2'
  have q4 := i2.cell 4 rfl
  have f3 := o2.frozen 3
  have g3 := o2.cell 3 rfl
  go_wp2_with fail
  have b2' := b2.setCell (p := ⟨w.heap.size + 1 + 1, 3, none⟩) (by simp; omega) (.slice (some ⟨d3, 0, none⟩) x.uses.length x.uses.length)
  have i2' := i2.other (a := ⟨w.heap.size + 1 + 1, 3, none⟩) hne (.slice (some ⟨d3, 0, none⟩) x.uses.length x.uses.length)
  have z2' := z2.other (a := ⟨w.heap.size + 1 + 1, 3, none⟩) (by simp) (.slice (some ⟨d3, 0, none⟩) x.uses.length x.uses.length)
  have o2' := o2.set 3 (.slice (some ⟨d3, 0, none⟩) x.uses.length x.uses.length)
  have s2' := OwnL.setOther s2 (p := ⟨w.heap.size + 1 + 1, 3, none⟩) (fun b o h => by cases h; exact Nat.ne_of_gt hd2') (.slice (some ⟨d3, 0, none⟩) x.uses.length x.uses.length)
  have s3' := OwnL.setOther s3 (p := ⟨w.heap.size + 1 + 1, 3, none⟩) (fun b o h => by cases h; exact Nat.ne_of_gt hd3') (.slice (some ⟨d3, 0, none⟩) x.uses.length x.uses.length)
  refine (toStringS_own a4 c4 x.opens _ (hin.later b2').opens hr.opens).mono ?_
  clear q4 f3 g3
  rintro e w3 ⟨⟨d4, rfl, hd4, hx4, s4⟩, hb⟩
  have h34 : d3 < d4 := by rw [Go.Deep.nblk_setCell] at hd4; omega
  have hd4' : w.heap.size + 1 + 1 < d4 := by have := o2'.lt; omega
  have b3 := b2'.trans (hb.mono b2'.size)
  have i3 := i2'.later hb
  have z3 := z2'.later hb
  have o3 := o2'.later hb
  have s2 := OwnL.later s2' hb
  have s3 := OwnL.later s3' hb
  clear b2 i2 z2 o2 b2' i2' z2' o2' hb s2' s3'
  have q5 := i3.cell 5 rfl
  have f4 := o3.frozen 4
  have g4 := o3.cell 4 rfl
  go_wp2_with fail
  have b3' := b3.setCell (p := ⟨w.heap.size + 1 + 1, 4, none⟩) (by simp; omega) (.slice (some ⟨d4, 0, none⟩) x.opens.length x.opens.length)
  have i3' := i3.other (a := ⟨w.heap.size + 1 + 1, 4, none⟩) hne (.slice (some ⟨d4, 0, none⟩) x.opens.length x.opens.length)
  have z3' := z3.other (a := ⟨w.heap.size + 1 + 1, 4, none⟩) (by simp) (.slice (some ⟨d4, 0, none⟩) x.opens.length x.opens.length)
  have o3' := o3.set 4 (.slice (some ⟨d4, 0, none⟩) x.opens.length x.opens.length)
  have s2' := OwnL.setOther s2 (p := ⟨w.heap.size + 1 + 1, 4, none⟩) (fun b o h => by cases h; exact Nat.ne_of_gt hd2') (.slice (some ⟨d4, 0, none⟩) x.opens.length x.opens.length)
  have s3' := OwnL.setOther s3 (p := ⟨w.heap.size + 1 + 1, 4, none⟩) (fun b o h => by cases h; exact Nat.ne_of_gt hd3') (.slice (some ⟨d4, 0, none⟩) x.opens.length x.opens.length)
  have s4' := OwnL.setOther s4 (p := ⟨w.heap.size + 1 + 1, 4, none⟩) (fun b o h => by cases h; exact Nat.ne_of_gt hd4') (.slice (some ⟨d4, 0, none⟩) x.opens.length x.opens.length)
  refine (toStringS_own a5 c5 x.shuts _ (hin.later b3').shuts hr.shuts).mono ?_
  clear q5 f4 g4
  rintro e w4 ⟨⟨d5, rfl, hd5, hx5, s5⟩, hb⟩
  have h45 : d4 < d5 := by rw [Go.Deep.nblk_setCell] at hd5; omega
  have hd5' : w.heap.size + 1 + 1 < d5 := by have := o3'.lt; omega
  have b4 := b3'.trans (hb.mono b3'.size)
  have i4 := i3'.later hb
  have z4 := z3'.later hb
  have o4 := o3'.later hb
  have s2 := OwnL.later s2' hb
  have s3 := OwnL.later s3' hb
  have s4 := OwnL.later s4' hb
  clear b3 i3 z3 o3 b3' i3' z3' o3' hb s2' s3' s4'
  have f5 := o4.frozen 5
  have g5 := o4.cell 5 rfl
  have g0 := o4.cell 0 rfl
  have g1 := o4.cell 1 rfl
  have g2 := o4.cell 2 rfl
  have g3 := o4.cell 3 rfl
  have g4 := o4.cell 4 rfl
  have r0 := z4.cell 0 rfl
  have r1 := z4.cell 1 rfl
  have r2 := z4.cell 2 rfl
  have r3 := z4.cell 3 rfl
  have r4 := z4.cell 4 rfl
  have r5 := z4.cell 5 rfl
  have k0 := z4.frozen 0
  have k1 := z4.frozen 1
  have k2 := z4.frozen 2
  have k3 := z4.frozen 3
  have k4 := z4.frozen 4
  have k5 := z4.frozen 5
  have hne2 : w.heap.size + 1 ≠ w.heap.size + 1 + 1 := by omega
  go_wp2
  refine bodyPost_ret (v := .agg #[.int .i64 x.number, .int .i64 x.kind, .slice (some ⟨d2, 0, none⟩) x.stuffs.length x.stuffs.length, .slice (some ⟨d3, 0, none⟩) x.uses.length x.uses.length, .slice (some ⟨d4, 0, none⟩) x.opens.length x.opens.length, .slice (some ⟨d5, 0, none⟩) x.shuts.length x.shuts.length])
    (by simp [results, Tryz.results9, go_sem, r0, r1, r2, r3, r4, r5]) rfl ⟨⟨d2, d3, d4, d5, rfl, ⟨by omega, by omega, by omega, by omega, by simp only [Go.Deep.nblk_setCell]; exact hx5⟩, ⟨?_, ?_, ?_, ?_⟩⟩, ?_⟩
  · exact OwnL.sets7 s2 (by omega) (by omega) _ _ _ _ _ _ _
  · exact OwnL.sets7 s3 (by omega) (by omega) _ _ _ _ _ _ _
  · exact OwnL.sets7 s4 (by omega) (by omega) _ _ _ _ _ _ _
  · exact OwnL.sets7 s5 (by omega) (by omega) _ _ _ _ _ _ _
  · exact ((((((b4.setCell (by simp; omega) _).setCell (by simp) _).setCell (by simp) _).setCell (by simp) _).setCell (by simp) _).setCell (by simp) _).setCell (by simp) _

set_option maxHeartbeats 1000000 in
theorem toClaimPart_own (p : Part) (a2 a3 a4 a5 : Option Addr) (c2 c3 c4 c5 : Nat) (w : World) (hin : WantIn w p.want a2 a3 a4 a5) (hr : WantRoom p.want) :
    Calls Tryz.prog 76 #[partV p a2 a3 a4 a5 c2 c3 c4 c5] w fun e w' => (∃ b2 b3 b4 b5, e = .returned (partV p (some ⟨b2, 0, none⟩) (some ⟨b3, 0, none⟩) (some ⟨b4, 0, none⟩) (some ⟨b5, 0, none⟩) p.want.stuffs.length p.want.uses.length p.want.opens.length p.want.shuts.length) ∧
      (w.heap.size < b2 ∧ b2 < b3 ∧ b3 < b4 ∧ b4 < b5 ∧ b5 < w'.heap.size) ∧ OwnW w' p.want b2 b3 b4 b5) ∧ Below w.heap.size w w' := by
  unfold partV
  go_enter Tryz.func76, Tryz.ntmps76
  go_wp2_with fail
  have b0 : Below w.heap.size w (((w.alloc (.cells #[.int .i64 p.want.number, .int .i64 p.want.kind, .slice a2 p.want.stuffs.length c2, .slice a3 p.want.uses.length c3, .slice a4 p.want.opens.length c4, .slice a5 p.want.shuts.length c5, .bool p.stopped] 93)).alloc (.cells #[.int .i64 0, .int .i64 0, .slice none 0 0, .slice none 0 0, .slice none 0 0, .slice none 0 0, .bool false] 60)).alloc (.cells #[.int .i64 0, .int .i64 0, .slice none 0 0, .slice none 0 0, .slice none 0 0, .slice none 0 0, .bool false] 60)) :=
    (((Below.refl _ _).alloc (Nat.le_refl _) _).alloc (by simp) _).alloc (by simp; omega) _
  have i0 : Row (((w.alloc (.cells #[.int .i64 p.want.number, .int .i64 p.want.kind, .slice a2 p.want.stuffs.length c2, .slice a3 p.want.uses.length c3, .slice a4 p.want.opens.length c4, .slice a5 p.want.shuts.length c5, .bool p.stopped] 93)).alloc (.cells #[.int .i64 0, .int .i64 0, .slice none 0 0, .slice none 0 0, .slice none 0 0, .slice none 0 0, .bool false] 60)).alloc (.cells #[.int .i64 0, .int .i64 0, .slice none 0 0, .slice none 0 0, .slice none 0 0, .slice none 0 0, .bool false] 60)) w.heap.size 93 [.int .i64 p.want.number, .int .i64 p.want.kind, .slice a2 p.want.stuffs.length c2, .slice a3 p.want.uses.length c3, .slice a4 p.want.opens.length c4, .slice a5 p.want.shuts.length c5, .bool p.stopped] := ((Row.new _ _ _).alloc _).alloc _
  have z0 : Row (((w.alloc (.cells #[.int .i64 p.want.number, .int .i64 p.want.kind, .slice a2 p.want.stuffs.length c2, .slice a3 p.want.uses.length c3, .slice a4 p.want.opens.length c4, .slice a5 p.want.shuts.length c5, .bool p.stopped] 93)).alloc (.cells #[.int .i64 0, .int .i64 0, .slice none 0 0, .slice none 0 0, .slice none 0 0, .slice none 0 0, .bool false] 60)).alloc (.cells #[.int .i64 0, .int .i64 0, .slice none 0 0, .slice none 0 0, .slice none 0 0, .slice none 0 0, .bool false] 60)) (w.heap.size + 1) 60 [.int .i64 0, .int .i64 0, .slice none 0 0, .slice none 0 0, .slice none 0 0, .slice none 0 0, .bool false] := by
    have := (Row.new (w.alloc (.cells #[.int .i64 p.want.number, .int .i64 p.want.kind, .slice a2 p.want.stuffs.length c2, .slice a3 p.want.uses.length c3, .slice a4 p.want.opens.length c4, .slice a5 p.want.shuts.length c5, .bool p.stopped] 93)) 60 [.int .i64 0, .int .i64 0, .slice none 0 0, .slice none 0 0, .slice none 0 0, .slice none 0 0, .bool false]).alloc (.cells #[.int .i64 0, .int .i64 0, .slice none 0 0, .slice none 0 0, .slice none 0 0, .slice none 0 0, .bool false] 60)
    simpa using this
  have o0 : Row (((w.alloc (.cells #[.int .i64 p.want.number, .int .i64 p.want.kind, .slice a2 p.want.stuffs.length c2, .slice a3 p.want.uses.length c3, .slice a4 p.want.opens.length c4, .slice a5 p.want.shuts.length c5, .bool p.stopped] 93)).alloc (.cells #[.int .i64 0, .int .i64 0, .slice none 0 0, .slice none 0 0, .slice none 0 0, .slice none 0 0, .bool false] 60)).alloc (.cells #[.int .i64 0, .int .i64 0, .slice none 0 0, .slice none 0 0, .slice none 0 0, .slice none 0 0, .bool false] 60)) (w.heap.size + 1 + 1) 60 [.int .i64 0, .int .i64 0, .slice none 0 0, .slice none 0 0, .slice none 0 0, .slice none 0 0, .bool false] := by
    have := Row.new ((w.alloc (.cells #[.int .i64 p.want.number, .int .i64 p.want.kind, .slice a2 p.want.stuffs.length c2, .slice a3 p.want.uses.length c3, .slice a4 p.want.opens.length c4, .slice a5 p.want.shuts.length c5, .bool p.stopped] 93)).alloc (.cells #[.int .i64 0, .int .i64 0, .slice none 0 0, .slice none 0 0, .slice none 0 0, .slice none 0 0, .bool false] 60)) 60 [.int .i64 0, .int .i64 0, .slice none 0 0, .slice none 0 0, .slice none 0 0, .slice none 0 0, .bool false]
    simpa using this
  have hsz : (((w.alloc (.cells #[.int .i64 p.want.number, .int .i64 p.want.kind, .slice a2 p.want.stuffs.length c2, .slice a3 p.want.uses.length c3, .slice a4 p.want.opens.length c4, .slice a5 p.want.shuts.length c5, .bool p.stopped] 93)).alloc (.cells #[.int .i64 0, .int .i64 0, .slice none 0 0, .slice none 0 0, .slice none 0 0, .slice none 0 0, .bool false] 60)).alloc (.cells #[.int .i64 0, .int .i64 0, .slice none 0 0, .slice none 0 0, .slice none 0 0, .slice none 0 0, .bool false] 60)).heap.size = w.heap.size + 3 := by simp
  refine (toClaimWant_own p.want a2 a3 a4 a5 c2 c3 c4 c5 _ (hin.later b0) hr).mono ?_
  rintro e w1 ⟨⟨d2, d3, d4, d5, rfl, ⟨hd2, hd3, hd4, hd5, hx5⟩, in1⟩, hb⟩
  rw [hsz] at hd2
  have b1 := b0.trans (hb.mono b0.size)
  have i1 := i0.later hb
  have z1 := z0.later hb
  have o1 := o0.later hb
  clear b0 i0 z0 o0 hb hsz
  have y6 := i1.cell 6 rfl
  have g0 := o1.cell 0 rfl
  have f0 := o1.frozen 0
  have r0 := z1.cell 0 rfl
  have k0 := z1.frozen 0
  have g1 := o1.cell 1 rfl
  have f1 := o1.frozen 1
  have r1 := z1.cell 1 rfl
  have k1 := z1.frozen 1
  have g2 := o1.cell 2 rfl
  have f2 := o1.frozen 2
  have r2 := z1.cell 2 rfl
  have k2 := z1.frozen 2
  have g3 := o1.cell 3 rfl
  have f3 := o1.frozen 3
  have r3 := z1.cell 3 rfl
  have k3 := z1.frozen 3
  have g4 := o1.cell 4 rfl
  have f4 := o1.frozen 4
  have r4 := z1.cell 4 rfl
  have k4 := z1.frozen 4
  have g5 := o1.cell 5 rfl
  have f5 := o1.frozen 5
  have r5 := z1.cell 5 rfl
  have k5 := z1.frozen 5
  have g6 := o1.cell 6 rfl
  have f6 := o1.frozen 6
  have r6 := z1.cell 6 rfl
  have k6 := z1.frozen 6
  have hne1 : w.heap.size ≠ w.heap.size + 1 + 1 := by omega
  have hne2 : w.heap.size + 1 ≠ w.heap.size + 1 + 1 := by omega
  unfold wantW
  go_wp2
  refine bodyPost_ret (v := .agg #[.int .i64 p.want.number, .int .i64 p.want.kind, .slice (some ⟨d2, 0, none⟩) p.want.stuffs.length p.want.stuffs.length, .slice (some ⟨d3, 0, none⟩) p.want.uses.length p.want.uses.length, .slice (some ⟨d4, 0, none⟩) p.want.opens.length p.want.opens.length, .slice (some ⟨d5, 0, none⟩) p.want.shuts.length p.want.shuts.length, .bool p.stopped])
    (by simp [results, Tryz.results76, go_sem, r0, r1, r2, r3, r4, r5, r6]) rfl ⟨⟨d2, d3, d4, d5, rfl, ⟨by omega, by omega, by omega, by omega, by simp only [Go.Deep.nblk_setCell]; exact hx5⟩, ⟨?_, ?_, ?_, ?_⟩⟩, ?_⟩
  · exact OwnL.sets14 in1.stuffs (by omega) (by omega) _ _ _ _ _ _ _ _ _ _ _ _ _ _
  · exact OwnL.sets14 in1.uses (by omega) (by omega) _ _ _ _ _ _ _ _ _ _ _ _ _ _
  · exact OwnL.sets14 in1.opens (by omega) (by omega) _ _ _ _ _ _ _ _ _ _ _ _ _ _
  · exact OwnL.sets14 in1.shuts (by omega) (by omega) _ _ _ _ _ _ _ _ _ _ _ _ _ _
  · exact below_sets14 b1 (by omega) (by omega) _ _ _ _ _ _ _ _ _ _ _ _ _ _

set_option maxHeartbeats 1000000 in
theorem toClaimPartS_own (a : Option Addr) (cap : Nat) (us : List Part) (w : World) (hm : PartsAt w a us) (hroom : us.length ≤ 1048576) (hrooms : ∀ s ∈ us, WantRoom s.want) :
    Calls Tryz.prog 36 #[.slice a us.length cap] w fun e w' => (∃ b A C, e = .returned (.slice (some ⟨b, 0, none⟩) us.length us.length) ∧ w.heap.size ≤ b ∧ OwnParts w' (some ⟨b, 0, none⟩) us A C ∧ ∀ x, InPt (some ⟨b, 0, none⟩) us A x → w.heap.size ≤ x) ∧ Below w.heap.size w w' := by
  have hmk := make_of (P := Tryz.prog) Tryz.underlying36 infoPart us.length (by omega) (by omega)
  simp only [Value.cells] at hmk
  go_enter Tryz.func36, Tryz.ntmps36
  go_wp2
  go_loopw [4] (fun i wr => ∃ (k : Nat) (g : Nat → Value) (D : Nat → Nat → Nat), k ≤ us.length ∧ i = .int .i64 k ∧ wr.rowIs w.heap.size 60 (us.length * 7) g ∧ (∀ j, j < k → ∀ c, c < 7 → g (j * 7 + c) = partCell (gq us j) (fun f => some ⟨D j f, 0, none⟩) (partLen (gq us j)) c) ∧
    (∀ j, j < k → (w.heap.size < D j 2 ∧ D j 2 < D j 3 ∧ D j 3 < D j 4 ∧ D j 4 < D j 5 ∧ D j 5 < wr.heap.size) ∧ OwnW wr (gq us j).want (D j 2) (D j 3) (D j 4) (D j 5)) ∧ (∀ i j, i < j → j < k → D i 5 < D j 2) ∧ Below w.heap.size w wr) (fun i _ => us.length - (intOf i).toNat)
  case atStart =>
    exact ⟨0, _, fun _ _ => 0, Nat.zero_le _, rfl, rowIs_madeN w _ _ _, fun j hj => absurd hj (Nat.not_lt_zero _), fun j hj => absurd hj (Nat.not_lt_zero _), fun i j _ hj => absurd hj (Nat.not_lt_zero _), (Below.refl _ _).alloc (Nat.le_refl _) _⟩
  case round wr =>
    obtain ⟨k, g, D, hk, rfl, hrow, hg, hD, hO, hbel⟩ := hrel
    have HO : Hid (∀ i j, i < j → j < k → D i 5 < D j 2) := hO
    have HD : Hid (∀ j, j < k → (w.heap.size < D j 2 ∧ D j 2 < D j 3 ∧ D j 3 < D j 4 ∧ D j 4 < D j 5 ∧ D j 5 < wr.heap.size) ∧ OwnW wr (gq us j).want (D j 2) (D j 3) (D j 4) (D j 5)) := hD
    clear hO hD
    have HG : Hid (∀ j, j < k → ∀ c, c < 7 → g (j * 7 + c) = partCell (gq us j) (fun f => some ⟨D j f, 0, none⟩) (partLen (gq us j)) c) := hg
    clear hmk hg
    by_cases hlt : k < us.length
    · obtain ⟨b, o, a2, a3, a4, a5, c2, c3, c4, c5, ha, hb, hc0, hc1, hc2, hc3, hc4, hc5, hc6, hst⟩ := (hm.later hbel).at hlt
      subst ha
      go_wp2_with fail
      refine (toClaimPart_own (gq us k) a2 a3 a4 a5 c2 c3 c4 c5 _ hst (hrooms _ (gq_mem hlt))).mono ?_
      rintro e w1 ⟨⟨d2, d3, d4, d5, rfl, ⟨hd2, hd3, hd4, hd5, hx5⟩, st⟩, hb1⟩
      have hrow1 : w1.rowIs w.heap.size 60 (us.length * 7) g := hrow.of_block (hb1.block _ hrow.lt)
      have hq0 := hrow1.cell (i := k * 7) (by omega)
      have hf0 := hrow1.frozen (k * 7)
      have hq1 := hrow1.cell (i := k * 7 + 1) (by omega)
      have hf1 := hrow1.frozen (k * 7 + 1)
      have hq2 := hrow1.cell (i := k * 7 + 2) (by omega)
      have hf2 := hrow1.frozen (k * 7 + 2)
      have hq3 := hrow1.cell (i := k * 7 + 3) (by omega)
      have hf3 := hrow1.frozen (k * 7 + 3)
      have hq4 := hrow1.cell (i := k * 7 + 4) (by omega)
      have hf4 := hrow1.frozen (k * 7 + 4)
      have hq5 := hrow1.cell (i := k * 7 + 5) (by omega)
      have hf5 := hrow1.frozen (k * 7 + 5)
      have hq6 := hrow1.cell (i := k * 7 + 6) (by omega)
      have hf6 := hrow1.frozen (k * 7 + 6)
      have hsz := hbel.size
      have HD2 : Hid (w.heap.size < d2 ∧ d2 < d3 ∧ d3 < d4 ∧ d4 < d5 ∧ d5 < w1.heap.size ∧ wr.heap.size < d2) := ⟨by omega, hd3, hd4, hd5, hx5, hd2⟩
      clear hsz hd2 hd3 hd4 hd5 hx5
      unfold partV
      clear hc0 hc1 hc2 hc3 hc4 hc5 hc6
      go_wp2
      have hbel1 : Below w.heap.size w w1 := hbel.trans (hb1.mono hbel.size)
      obtain ⟨hd2, hd3, hd4, hd5, hx5, hlo⟩ := HD2.out
      go_roundw
      case rel =>
        refine ⟨k + 1, _, fun j f => if j = k then (if f = 2 then d2 else if f = 3 then d3 else if f = 4 then d4 else d5) else D j f, by omega, by go_num, ((((((hrow1.set (k * 7) _).set (k * 7 + 1) _).set (k * 7 + 2) _).set (k * 7 + 3) _).set (k * 7 + 4) _).set (k * 7 + 5) _).set (k * 7 + 6) _, ?_, ?_, ?_,
          ((((((hbel1.setCell (Nat.le_refl _) _).setCell (Nat.le_refl _) _).setCell (Nat.le_refl _) _).setCell (Nat.le_refl _) _).setCell (Nat.le_refl _) _).setCell (Nat.le_refl _) _).setCell (Nat.le_refl _) _⟩
        · intro j hj c hc
          by_cases e : j = k
          · subst e
            match c, hc with
            | 0, _ => simp [partCell, partLen]
            | 1, _ => simp [partCell, partLen]
            | 2, _ => simp [partCell, partLen]
            | 3, _ => simp [partCell, partLen]
            | 4, _ => simp [partCell, partLen]
            | 5, _ => simp [partCell, partLen]
            | 6, _ => simp [partCell, partLen]
          · have := HG.out j (by omega) c hc
            dsimp only
            simp only [if_neg e]
            rw [← this]
            rw [if_neg (by omega), if_neg (by omega), if_neg (by omega), if_neg (by omega), if_neg (by omega), if_neg (by omega), if_neg (by omega)]
        · intro j hj
          by_cases e : j = k
          · subst e
            simp only [if_true, if_false, Nat.reduceEqDiff]
            exact ⟨⟨hd2, hd3, hd4, hd5, by simp only [Go.Deep.nblk_setCell]; exact hx5⟩, OwnW.sets7k st (by omega) (by omega) (by omega) (by omega) _ _ _ _ _ _ _ _ _ _ _ _ _ _⟩
          · simp only [if_neg e]
            obtain ⟨⟨h2, h3, h4, h5, h5x⟩, h6⟩ := HD.out j (by omega)
            exact ⟨⟨h2, h3, h4, h5, by simp only [Go.Deep.nblk_setCell]; exact Nat.lt_of_lt_of_le h5x hb1.size⟩, OwnW.sets7k (h6.later hb1) (by omega) (by omega) (by omega) (by omega) _ _ _ _ _ _ _ _ _ _ _ _ _ _⟩
        · intro i j hij hj
          dsimp only
          by_cases e : j = k
          · subst e
            rw [if_pos rfl, if_neg (by omega), if_pos rfl]
            exact Nat.lt_trans (HD.out i hij).1.2.2.2.2 hlo
          · rw [if_neg e, if_neg (by omega)]
            exact HO.out i j hij (by omega)
      case measure => simp [intOf]; omega
    · have : k = us.length := by omega
      subst this
      go_wp2
      go_ret
      have HD' := HD.out
      have HO' := HO.out
      refine ⟨⟨w.heap.size, fun j c => some ⟨D j (c + 2), 0, none⟩, fun j c => partLen (gq us j) (c + 2), rfl, Nat.le_refl _, ⟨OwnL.of_rowIs hrow (Nat.le_refl _) (fun k hk j hj => ?_), fun k hk c hc => ?_, fun k hk c hc x hx hx' => ?_, fun i c j d hi hc hj hd hij x hx hx' => ?_⟩, fun x hx => ?_⟩, hbel⟩
      · rw [HG.out k hk j hj]
        match j, hj with
        | 0, _ => rfl
        | 1, _ => rfl
        | 2, _ => rfl
        | 3, _ => rfl
        | 4, _ => rfl
        | 5, _ => rfl
        | 6, _ => rfl
      · have h := (HD' k hk).2
        match c, hc with
        | 0, _ => exact h.stuffs
        | 1, _ => exact h.uses
        | 2, _ => exact h.opens
        | 3, _ => exact h.shuts
      · have e1 := inSlot_some hx
        have e2 := inSlot_some hx'
        have := (HD' k hk).1
        match c, hc with
        | 0, _ => simp only [Nat.zero_add, Nat.reduceAdd] at e1; omega
        | 1, _ => simp only [Nat.zero_add, Nat.reduceAdd] at e1; omega
        | 2, _ => simp only [Nat.zero_add, Nat.reduceAdd] at e1; omega
        | 3, _ => simp only [Nat.zero_add, Nat.reduceAdd] at e1; omega
      · have e1 := inSlot_some hx
        have e2 := inSlot_some hx'
        have t1 := (HD' i hi).1
        have t2 := (HD' j hj).1
        have l1 := four_le (D i) (c + 2) (by omega) (by omega) t1.2.1 t1.2.2.1 t1.2.2.2.1
        have l2 := four_le (D j) (d + 2) (by omega) (by omega) t2.2.1 t2.2.2.1 t2.2.2.2.1
        rcases Nat.lt_trichotomy i j with h | h | h
        · have := HO' i j h hj; omega
        · subst h
          have hcd : c ≠ d := by omega
          exact four_ne (D i) hc hd hcd t1.2.1 t1.2.2.1 t1.2.2.2.1 (by omega)
        · have := HO' j i h hi; omega
      · rcases hx with hx | ⟨k, hk, c, hc, hx⟩
        · have := inSlot_some hx; omega
        · have e1 := inSlot_some hx
          have t1 := (HD' k hk).1
          have l1 := four_le (D k) (c + 2) (by omega) (by omega) t1.2.1 t1.2.2.1 t1.2.2.2.1
          omega

end Go.Proofs.YtfmhkicncgccjaaGreatDoor
