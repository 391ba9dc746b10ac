/- Joined: Bk, BkSz, OwSz, OwA, BkTo. -/
import Derived.Test.YtfmhkicncgccjaaGreatFm05
import Derived.Test.YtfmhkicncgccjaaGreatFm06
/- Books: plain data, and where they lie in memory. -/
namespace Go.Proofs.YtfmhkicncgccjaaGreat
open Go.RowKit Go.Sort
set_option linter.unusedSimpArgs false
set_option linter.unusedVariables false

structure Foe where
 a : ByteArray
 b : ByteArray

structure Spot where
 name : ByteArray
 cap : Int
 least : Int
 most : Int
 may : List ByteArray

structure Part where
 want : Want
 stopped : Bool

structure Book where
 foes : List Foe
 spots : List Spot
 valves : List ByteArray
 parts : List Part
 seen : Int

def foeNil : Foe := ⟨.empty, .empty⟩
def spotNil : Spot := ⟨.empty, 0, 0, 0, []⟩
def wantNil : Want := ⟨0, 0, [], [], [], []⟩
def partNil : Part := ⟨wantNil, false⟩

def gf (fs : List Foe) (k : Nat) : Foe := fs.getD k foeNil
def gp (ps : List Spot) (k : Nat) : Spot := ps.getD k spotNil
def gq (ps : List Part) (k : Nat) : Part := ps.getD k partNil

theorem gf_lt {fs : List Foe} {k : Nat} (h : k < fs.length) : gf fs k = fs[k] := by simp [gf, h]
theorem gp_lt {fs : List Spot} {k : Nat} (h : k < fs.length) : gp fs k = fs[k] := by simp [gp, h]
theorem gq_lt {fs : List Part} {k : Nat} (h : k < fs.length) : gq fs k = fs[k] := by simp [gq, h]
theorem gf_mem {fs : List Foe} {k : Nat} (h : k < fs.length) : gf fs k ∈ fs := by rw [gf_lt h]; exact List.getElem_mem _
theorem gp_mem {fs : List Spot} {k : Nat} (h : k < fs.length) : gp fs k ∈ fs := by rw [gp_lt h]; exact List.getElem_mem _
theorem gq_mem {fs : List Part} {k : Nat} (h : k < fs.length) : gq fs k ∈ fs := by rw [gq_lt h]; exact List.getElem_mem _

def foeV (f : Foe) : Value := .agg #[.string f.a, .string f.b]
def spotV (s : Spot) (m : Option Addr) (c : Nat) : Value := .agg #[.string s.name, .int .i64 s.cap, .int .i64 s.least, .int .i64 s.most, .slice m s.may.length c]
def partV (p : Part) (a2 a3 a4 a5 : Option Addr) (c2 c3 c4 c5 : Nat) : Value :=
 .agg #[.int .i64 p.want.number, .int .i64 p.want.kind, .slice a2 p.want.stuffs.length c2, .slice a3 p.want.uses.length c3, .slice a4 p.want.opens.length c4, .slice a5 p.want.shuts.length c5, .bool p.stopped]
def bookV (x : Book) (af ap av aq : Option Addr) (cf cp cv cq : Nat) : Value :=
 .agg #[.slice af x.foes.length cf, .slice ap x.spots.length cp, .slice av x.valves.length cv, .slice aq x.parts.length cq, .int .i64 x.seen]

def foeCell (f : Foe) : Nat → Value
 | 0 => .string f.a
 | _ => .string f.b
def spotCell (s : Spot) (m : Option Addr) (c : Nat) : Nat → Value
 | 0 => .string s.name
 | 1 => .int .i64 s.cap
 | 2 => .int .i64 s.least
 | 3 => .int .i64 s.most
 | _ => .slice m s.may.length c
def partCell (p : Part) (A : Nat → Option Addr) (C : Nat → Nat) : Nat → Value
 | 0 => .int .i64 p.want.number
 | 1 => .int .i64 p.want.kind
 | 2 => .slice (A 2) p.want.stuffs.length (C 2)
 | 3 => .slice (A 3) p.want.uses.length (C 3)
 | 4 => .slice (A 4) p.want.opens.length (C 4)
 | 5 => .slice (A 5) p.want.shuts.length (C 5)
 | _ => .bool p.stopped

def FoesAt (w : World) (a : Option Addr) (fs : List Foe) : Prop := RowAt w a fs.length 2 (fun k => foeCell (gf fs k))
def SpotsAt (w : World) (a : Option Addr) (ps : List Spot) : Prop :=
 ∃ (m : Nat → Option Addr) (c : Nat → Nat), RowAt w a ps.length 5 (fun k => spotCell (gp ps k) (m k) (c k)) ∧ (∀ k, k < ps.length → StrsAt w (m k) (gp ps k).may) ∧ ∀ k, k < ps.length → (gp ps k).may.length ≤ c k
def PartsAt (w : World) (a : Option Addr) (ps : List Part) : Prop :=
 ∃ (A : Nat → Nat → Option Addr) (C : Nat → Nat → Nat), RowAt w a ps.length 7 (fun k => partCell (gq ps k) (A k) (C k)) ∧ ∀ k, k < ps.length → WantIn w (gq ps k).want (A k 2) (A k 3) (A k 4) (A k 5)

theorem FoesAt.later {w w' : World} {a : Option Addr} {fs : List Foe} (h : FoesAt w a fs) (hb : Below w.heap.size w w') : FoesAt w' a fs := RowAt.later h hb
theorem SpotsAt.later {w w' : World} {a : Option Addr} {fs : List Spot} (h : SpotsAt w a fs) (hb : Below w.heap.size w w') : SpotsAt w' a fs := by
 obtain ⟨m, c, h1, h2, h3⟩ := h
 exact ⟨m, c, h1.later hb, fun k hk => (h2 k hk).later hb, h3⟩
theorem PartsAt.later {w w' : World} {a : Option Addr} {fs : List Part} (h : PartsAt w a fs) (hb : Below w.heap.size w w') : PartsAt w' a fs := by
 obtain ⟨m, c, h1, h2⟩ := h
 exact ⟨m, c, h1.later hb, fun k hk => (h2 k hk).later hb⟩

theorem FoesAt.at {w : World} {a : Option Addr} {fs : List Foe} (h : FoesAt w a fs) {k : Nat} (hk : k < fs.length) :
 ∃ b o, a = some ⟨b, o, none⟩ ∧ b < w.heap.size ∧ w.cell? ⟨b, o + k * 2, none⟩ = some (.string (gf fs k).a) ∧ w.cell? ⟨b, o + k * 2 + 1, none⟩ = some (.string (gf fs k).b) := by
 obtain ⟨b, o, ha, hl, hc⟩ := h k hk
 exact ⟨b, o, ha, hl, hc 0 (by omega), hc 1 (by omega)⟩
theorem SpotsAt.at {w : World} {a : Option Addr} {fs : List Spot} (h : SpotsAt w a fs) {k : Nat} (hk : k < fs.length) :
 ∃ b o m c, a = some ⟨b, o, none⟩ ∧ b < w.heap.size ∧ w.cell? ⟨b, o + k * 5, none⟩ = some (.string (gp fs k).name) ∧ w.cell? ⟨b, o + k * 5 + 1, none⟩ = some (.int .i64 (gp fs k).cap) ∧
  w.cell? ⟨b, o + k * 5 + 2, none⟩ = some (.int .i64 (gp fs k).least) ∧ w.cell? ⟨b, o + k * 5 + 3, none⟩ = some (.int .i64 (gp fs k).most) ∧
  w.cell? ⟨b, o + k * 5 + 4, none⟩ = some (.slice m (gp fs k).may.length c) ∧ StrsAt w m (gp fs k).may := by
 obtain ⟨m, c, h, h2, h3⟩ := h
 obtain ⟨b, o, ha, hl, hc⟩ := h k hk
 exact ⟨b, o, m k, c k, ha, hl, hc 0 (by omega), hc 1 (by omega), hc 2 (by omega), hc 3 (by omega), hc 4 (by omega), h2 k hk⟩
theorem SpotsAt.atCap {w : World} {a : Option Addr} {fs : List Spot} (h : SpotsAt w a fs) {k : Nat} (hk : k < fs.length) :
 ∃ b o m c, a = some ⟨b, o, none⟩ ∧ b < w.heap.size ∧ w.cell? ⟨b, o + k * 5, none⟩ = some (.string (gp fs k).name) ∧ w.cell? ⟨b, o + k * 5 + 1, none⟩ = some (.int .i64 (gp fs k).cap) ∧
  w.cell? ⟨b, o + k * 5 + 2, none⟩ = some (.int .i64 (gp fs k).least) ∧ w.cell? ⟨b, o + k * 5 + 3, none⟩ = some (.int .i64 (gp fs k).most) ∧
  w.cell? ⟨b, o + k * 5 + 4, none⟩ = some (.slice m (gp fs k).may.length c) ∧ StrsAt w m (gp fs k).may ∧ (gp fs k).may.length ≤ c := by
 obtain ⟨m, c, h, h2, h3⟩ := h
 obtain ⟨b, o, ha, hl, hc⟩ := h k hk
 exact ⟨b, o, m k, c k, ha, hl, hc 0 (by omega), hc 1 (by omega), hc 2 (by omega), hc 3 (by omega), hc 4 (by omega), h2 k hk, h3 k hk⟩
theorem PartsAt.at {w : World} {a : Option Addr} {fs : List Part} (h : PartsAt w a fs) {k : Nat} (hk : k < fs.length) :
 ∃ b o a2 a3 a4 a5 c2 c3 c4 c5, a = some ⟨b, o, none⟩ ∧ b < w.heap.size ∧ w.cell? ⟨b, o + k * 7, none⟩ = some (.int .i64 (gq fs k).want.number) ∧ w.cell? ⟨b, o + k * 7 + 1, none⟩ = some (.int .i64 (gq fs k).want.kind) ∧
  w.cell? ⟨b, o + k * 7 + 2, none⟩ = some (.slice a2 (gq fs k).want.stuffs.length c2) ∧ w.cell? ⟨b, o + k * 7 + 3, none⟩ = some (.slice a3 (gq fs k).want.uses.length c3) ∧
  w.cell? ⟨b, o + k * 7 + 4, none⟩ = some (.slice a4 (gq fs k).want.opens.length c4) ∧ w.cell? ⟨b, o + k * 7 + 5, none⟩ = some (.slice a5 (gq fs k).want.shuts.length c5) ∧
  w.cell? ⟨b, o + k * 7 + 6, none⟩ = some (.bool (gq fs k).stopped) ∧ WantIn w (gq fs k).want a2 a3 a4 a5 := by
 obtain ⟨A, C, h, h2⟩ := h
 obtain ⟨b, o, ha, hl, hc⟩ := h k hk
 exact ⟨b, o, A k 2, A k 3, A k 4, A k 5, C k 2, C k 3, C k 4, C k 5, ha, hl, hc 0 (by omega), hc 1 (by omega), hc 2 (by omega), hc 3 (by omega), hc 4 (by omega), hc 5 (by omega), hc 6 (by omega), h2 k hk⟩

structure BookIn (w : World) (x : Book) (af ap av aq : Option Addr) : Prop where
 foes : FoesAt w af x.foes
 spots : SpotsAt w ap x.spots
 valves : StrsAt w av x.valves
 parts : PartsAt w aq x.parts

theorem BookIn.later {w w' : World} {x : Book} {af ap av aq : Option Addr} (h : BookIn w x af ap av aq) (hb : Below w.heap.size w w') : BookIn w' x af ap av aq :=
 ⟨h.foes.later hb, h.spots.later hb, h.valves.later hb, h.parts.later hb⟩

structure FoesFit (fs : List Foe) : Prop where
 len : fs.length ≤ maxLen
 names : ∀ f ∈ fs, f.a.size ≤ maxLen ∧ f.b.size ≤ maxLen
structure SpotsFit (fs : List Spot) : Prop where
 len : fs.length ≤ maxLen
 names : ∀ f ∈ fs, f.name.size ≤ maxLen ∧ Fit f.may
structure PartsFit (fs : List Part) : Prop where
 len : fs.length ≤ maxLen
 wants : ∀ f ∈ fs, WantFit f.want
structure BookFit (x : Book) : Prop where
 foes : FoesFit x.foes
 spots : SpotsFit x.spots
 valves : Fit x.valves
 parts : PartsFit x.parts

structure BookRoom (x : Book) : Prop where
 foes : x.foes.length ≤ 1048576
 spots : x.spots.length ≤ 1048576
 mays : ∀ s ∈ x.spots, s.may.length ≤ 1048576
 valves : x.valves.length ≤ 1048576
 parts : x.parts.length ≤ 1048576
 wants : ∀ p ∈ x.parts, WantRoom p.want

end Go.Proofs.YtfmhkicncgccjaaGreat

/- What the law's own sz functions answer of books. -/
namespace Go.Proofs.YtfmhkicncgccjaaGreat
open Go.RowKit Go.Sort
set_option linter.unusedSimpArgs false
set_option linter.unusedVariables false

end Go.Proofs.YtfmhkicncgccjaaGreat

/- What the law's own sz functions tell of how much there is in all. -/
namespace Go.Proofs.YtfmhkicncgccjaaGreat
open Go.RowKit Go.Sort
set_option linter.unusedSimpArgs false
set_option linter.unusedVariables false

end Go.Proofs.YtfmhkicncgccjaaGreat

/- Lists, spots, parts and books that own their memory. -/
namespace Go.Proofs.YtfmhkicncgccjaaGreat
open Go.RowKit Go.Sort
set_option linter.unusedSimpArgs false
set_option linter.unusedVariables false

/-- n elements of s cells, as f tells, in a block of their own; nothing is said of an empty list. -/
def OwnL (w : World) (t : TypeId) (s : Nat) (a : Option Addr) (n : Nat) (f : Nat → Nat → Value) : Prop :=
 n = 0 ∨ ∃ b l, a = some ⟨b, 0, none⟩ ∧ Row w b t l ∧ n * s ≤ l.length ∧ ∀ k, k < n → ∀ j, j < s → l[k * s + j]? = some (f k j)
theorem OwnL.rowAt {w : World} {t : TypeId} {s : Nat} {a : Option Addr} {n : Nat} {f : Nat → Nat → Value} (h : OwnL w t s a n f) : RowAt w a n s f := by
 intro k hk
 rcases h with h | ⟨b, l, rfl, hr, hl, hc⟩
 · omega
 · refine ⟨b, 0, rfl, hr.lt, fun j hj => ?_⟩
   rw [Nat.zero_add]
   exact hr.cell _ (hc k hk j hj)
theorem OwnL.only {B : Nat → Prop} {w w' : World} {t : TypeId} {s : Nat} {a : Option Addr} {n : Nat} {f : Nat → Nat → Value} (h : OwnL w t s a n f) (ho : Only B w w') (hB : ∀ x, InSlot a n x → ¬ B x) : OwnL w' t s a n f := by
 rcases h with h | ⟨b, l, rfl, hr, hl, hc⟩
 · exact Or.inl h
 · by_cases hn : n = 0
   · exact Or.inl hn
   · exact Or.inr ⟨b, l, rfl, hr.only ho (hB b ⟨hn, 0, rfl⟩), hl, hc⟩
theorem OwnL.later {w w' : World} {t : TypeId} {s : Nat} {a : Option Addr} {n : Nat} {f : Nat → Nat → Value} (h : OwnL w t s a n f) (hb : Below w.heap.size w w') : OwnL w' t s a n f := h.only (Only.of (B := fun _ => False) hb) (fun _ _ => id)
theorem OwnL.lt {w : World} {t : TypeId} {s : Nat} {a : Option Addr} {n : Nat} {f : Nat → Nat → Value} (h : OwnL w t s a n f) {x : Nat} (hx : InSlot a n x) : x < w.heap.size := by
 obtain ⟨hn, o, rfl⟩ := hx
 rcases h with h | ⟨b, l, e, hr, hl, hc⟩
 · exact absurd h hn
 · cases e
   exact hr.lt
theorem inSlot_some {b n x : Nat} (h : InSlot (some ⟨b, 0, none⟩) n x) : x = b := by
 obtain ⟨_, o, e⟩ := h
 cases e
 rfl

def strF (ss : List ByteArray) (k : Nat) (_ : Nat) : Value := .string (gs ss k)
def useF (us : List Use) (k : Nat) : Nat → Value := useCell (gu us k)
def foeF (us : List Foe) (k : Nat) : Nat → Value := foeCell (gf us k)

/-- Spots that own their memory: their lists lie where A tells. -/
structure OwnSpots (w : World) (a : Option Addr) (ps : List Spot) (A : Nat → Option Addr) (C : Nat → Nat) : Prop where
 row : OwnL w 72 5 a ps.length (fun k => spotCell (gp ps k) (A k) (C k))
 may : ∀ k, k < ps.length → OwnL w 9 1 (A k) (gp ps k).may.length (strF (gp ps k).may)
 cap : ∀ k, k < ps.length → (gp ps k).may.length ≤ C k
 apart : ∀ k, k < ps.length → ∀ x, InSlot (A k) (gp ps k).may.length x → ¬ InSlot a ps.length x
 each : ∀ i j, i < ps.length → j < ps.length → i ≠ j → ∀ x, InSlot (A i) (gp ps i).may.length x → ¬ InSlot (A j) (gp ps j).may.length x
def InSp (a : Option Addr) (ps : List Spot) (A : Nat → Option Addr) (x : Nat) : Prop := InSlot a ps.length x ∨ ∃ k, k < ps.length ∧ InSlot (A k) (gp ps k).may.length x
theorem OwnSpots.only {B : Nat → Prop} {w w' : World} {a : Option Addr} {ps : List Spot} {A : Nat → Option Addr} {C : Nat → Nat} (h : OwnSpots w a ps A C) (ho : Only B w w') (hB : ∀ x, InSp a ps A x → ¬ B x) : OwnSpots w' a ps A C :=
 ⟨h.row.only ho (fun x hx => hB x (Or.inl hx)), fun k hk => (h.may k hk).only ho (fun x hx => hB x (Or.inr ⟨k, hk, hx⟩)), h.cap, h.apart, h.each⟩
theorem OwnSpots.later {w w' : World} {a : Option Addr} {ps : List Spot} {A : Nat → Option Addr} {C : Nat → Nat} (h : OwnSpots w a ps A C) (hb : Below w.heap.size w w') : OwnSpots w' a ps A C := h.only (Only.of (B := fun _ => False) hb) (fun _ _ => id)
theorem OwnSpots.at_ {w : World} {a : Option Addr} {ps : List Spot} {A : Nat → Option Addr} {C : Nat → Nat} (h : OwnSpots w a ps A C) : SpotsAt w a ps :=
 ⟨A, C, h.row.rowAt, fun k hk => (h.may k hk).rowAt, h.cap⟩
theorem OwnSpots.lt {w : World} {a : Option Addr} {ps : List Spot} {A : Nat → Option Addr} {C : Nat → Nat} (h : OwnSpots w a ps A C) {x : Nat} (hx : InSp a ps A x) : x < w.heap.size := by
 rcases hx with hx | ⟨k, hk, hx⟩
 · exact h.row.lt hx
 · exact (h.may k hk).lt hx

/-- The lists of a part: how long, what they hold. -/
def pL (p : Part) : Nat → Nat
 | 0 => p.want.stuffs.length
 | 1 => p.want.uses.length
 | 2 => p.want.opens.length
 | _ => p.want.shuts.length
def pF (p : Part) : Nat → Nat → Nat → Value
 | 0 => strF p.want.stuffs
 | 1 => useF p.want.uses
 | 2 => strF p.want.opens
 | _ => strF p.want.shuts
/-- Parts that own their memory: list c of part k lies where A tells. -/
structure OwnParts (w : World) (a : Option Addr) (ps : List Part) (A : Nat → Nat → Option Addr) (C : Nat → Nat → Nat) : Prop where
 row : OwnL w 61 7 a ps.length (fun k => partCell (gq ps k) (fun f => A k (f - 2)) (fun f => C k (f - 2)))
 list : ∀ k, k < ps.length → ∀ c, c < 4 → OwnL w (tS c) (sS c) (A k c) (pL (gq ps k) c) (pF (gq ps k) c)
 apart : ∀ k, k < ps.length → ∀ c, c < 4 → ∀ x, InSlot (A k c) (pL (gq ps k) c) x → ¬ InSlot a ps.length x
 each : ∀ i c j d, i < ps.length → c < 4 → j < ps.length → d < 4 → (i ≠ j ∨ c ≠ d) → ∀ x, InSlot (A i c) (pL (gq ps i) c) x → ¬ InSlot (A j d) (pL (gq ps j) d) x
def InPt (a : Option Addr) (ps : List Part) (A : Nat → Nat → Option Addr) (x : Nat) : Prop := InSlot a ps.length x ∨ ∃ k, k < ps.length ∧ ∃ c, c < 4 ∧ InSlot (A k c) (pL (gq ps k) c) x
theorem OwnParts.only {B : Nat → Prop} {w w' : World} {a : Option Addr} {ps : List Part} {A : Nat → Nat → Option Addr} {C : Nat → Nat → Nat} (h : OwnParts w a ps A C) (ho : Only B w w') (hB : ∀ x, InPt a ps A x → ¬ B x) : OwnParts w' a ps A C :=
 ⟨h.row.only ho (fun x hx => hB x (Or.inl hx)), fun k hk c hc => (h.list k hk c hc).only ho (fun x hx => hB x (Or.inr ⟨k, hk, c, hc, hx⟩)), h.apart, h.each⟩
theorem OwnParts.later {w w' : World} {a : Option Addr} {ps : List Part} {A : Nat → Nat → Option Addr} {C : Nat → Nat → Nat} (h : OwnParts w a ps A C) (hb : Below w.heap.size w w') : OwnParts w' a ps A C := h.only (Only.of (B := fun _ => False) hb) (fun _ _ => id)
theorem OwnParts.at_ {w : World} {a : Option Addr} {ps : List Part} {A : Nat → Nat → Option Addr} {C : Nat → Nat → Nat} (h : OwnParts w a ps A C) : PartsAt w a ps :=
 ⟨fun k f => A k (f - 2), fun k f => C k (f - 2), h.row.rowAt, fun k hk => ⟨(h.list k hk 0 (by omega)).rowAt, (h.list k hk 1 (by omega)).rowAt, (h.list k hk 2 (by omega)).rowAt, (h.list k hk 3 (by omega)).rowAt⟩⟩
theorem OwnParts.lt {w : World} {a : Option Addr} {ps : List Part} {A : Nat → Nat → Option Addr} {C : Nat → Nat → Nat} (h : OwnParts w a ps A C) {x : Nat} (hx : InPt a ps A x) : x < w.heap.size := by
 rcases hx with hx | ⟨k, hk, c, hc, hx⟩
 · exact h.row.lt hx
 · exact (h.list k hk c hc).lt hx

/-- A book that owns its memory. -/
structure OwnBook (w : World) (x : Book) (af ap av aq : Option Addr) (A1 : Nat → Option Addr) (C1 : Nat → Nat) (A2 : Nat → Nat → Option Addr) (C2 : Nat → Nat → Nat) : Prop where
 foes : OwnL w 70 2 af x.foes.length (foeF x.foes)
 spots : OwnSpots w ap x.spots A1 C1
 valves : OwnL w 9 1 av x.valves.length (strF x.valves)
 parts : OwnParts w aq x.parts A2 C2
 d01 : ∀ y, InSlot af x.foes.length y → ¬ InSp ap x.spots A1 y
 d02 : ∀ y, InSlot af x.foes.length y → ¬ InSlot av x.valves.length y
 d03 : ∀ y, InSlot af x.foes.length y → ¬ InPt aq x.parts A2 y
 d12 : ∀ y, InSp ap x.spots A1 y → ¬ InSlot av x.valves.length y
 d13 : ∀ y, InSp ap x.spots A1 y → ¬ InPt aq x.parts A2 y
 d23 : ∀ y, InSlot av x.valves.length y → ¬ InPt aq x.parts A2 y
/-- The blocks of such a book. -/
def InBk (x : Book) (af ap av aq : Option Addr) (A1 : Nat → Option Addr) (A2 : Nat → Nat → Option Addr) (y : Nat) : Prop :=
 InSlot af x.foes.length y ∨ InSp ap x.spots A1 y ∨ InSlot av x.valves.length y ∨ InPt aq x.parts A2 y
theorem OwnBook.only {B : Nat → Prop} {w w' : World} {x : Book} {af ap av aq : Option Addr} {A1 : Nat → Option Addr} {C1 : Nat → Nat} {A2 : Nat → Nat → Option Addr} {C2 : Nat → Nat → Nat} (h : OwnBook w x af ap av aq A1 C1 A2 C2) (ho : Only B w w') (hB : ∀ y, InBk x af ap av aq A1 A2 y → ¬ B y) : OwnBook w' x af ap av aq A1 C1 A2 C2 :=
 ⟨h.foes.only ho (fun y hy => hB y (Or.inl hy)), h.spots.only ho (fun y hy => hB y (Or.inr (Or.inl hy))), h.valves.only ho (fun y hy => hB y (Or.inr (Or.inr (Or.inl hy)))), h.parts.only ho (fun y hy => hB y (Or.inr (Or.inr (Or.inr hy)))), h.d01, h.d02, h.d03, h.d12, h.d13, h.d23⟩
theorem OwnBook.later {w w' : World} {x : Book} {af ap av aq : Option Addr} {A1 : Nat → Option Addr} {C1 : Nat → Nat} {A2 : Nat → Nat → Option Addr} {C2 : Nat → Nat → Nat} (h : OwnBook w x af ap av aq A1 C1 A2 C2) (hb : Below w.heap.size w w') : OwnBook w' x af ap av aq A1 C1 A2 C2 := h.only (Only.of (B := fun _ => False) hb) (fun _ _ => id)
theorem OwnBook.in_ {w : World} {x : Book} {af ap av aq : Option Addr} {A1 : Nat → Option Addr} {C1 : Nat → Nat} {A2 : Nat → Nat → Option Addr} {C2 : Nat → Nat → Nat} (h : OwnBook w x af ap av aq A1 C1 A2 C2) : BookIn w x af ap av aq := ⟨h.foes.rowAt, h.spots.at_, h.valves.rowAt, h.parts.at_⟩
theorem OwnBook.lt {w : World} {x : Book} {af ap av aq : Option Addr} {A1 : Nat → Option Addr} {C1 : Nat → Nat} {A2 : Nat → Nat → Option Addr} {C2 : Nat → Nat → Nat} (h : OwnBook w x af ap av aq A1 C1 A2 C2) {y : Nat} (hy : InBk x af ap av aq A1 A2 y) : y < w.heap.size := by
 rcases hy with hy | hy | hy | hy
 · exact h.foes.lt hy
 · exact h.spots.lt hy
 · exact h.valves.lt hy
 · exact h.parts.lt hy

end Go.Proofs.YtfmhkicncgccjaaGreat

/- What the law's own copying functions answer of foes and spots. -/
namespace Go.Proofs.YtfmhkicncgccjaaGreat
open Go.RowKit Go.Sort
set_option linter.unusedSimpArgs false
set_option linter.unusedVariables false

theorem infoFoe : (Tryz.prog.info? 70).map (fun i => (i.zero, i.size, i.bytes)) = some (some (.agg #[.string .empty, .string .empty]), 2, 32) := by kernel_rfl
theorem infoSpot : (Tryz.prog.info? 72).map (fun i => (i.zero, i.size, i.bytes)) = some (some (.agg #[.string .empty, .int .i64 0, .int .i64 0, .int .i64 0, .slice none 0 0]), 5, 64) := by kernel_rfl
theorem infoPart : (Tryz.prog.info? 61).map (fun i => (i.zero, i.size, i.bytes)) = some (some (.agg #[.int .i64 0, .int .i64 0, .slice none 0 0, .slice none 0 0, .slice none 0 0, .slice none 0 0, .bool false]), 7, 120) := by kernel_rfl

end Go.Proofs.YtfmhkicncgccjaaGreat

