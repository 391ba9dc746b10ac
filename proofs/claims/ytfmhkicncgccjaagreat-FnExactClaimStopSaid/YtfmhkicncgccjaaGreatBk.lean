/- Books: plain data, and where they lie in memory. -/
import Derived.Test.YtfmhkicncgccjaaGreatWantL
namespace Go.Proofs.YtfmhkicncgccjaaGreat
open Go.RowKit Go.Sort
set_option linter.unusedSimpArgs false
set_option linter.unusedVariables false

structure Foe where
  a : ByteArray
  b : ByteArray

structure Spot where
  name : ByteArray
  cap : Int
  least : Int
  most : Int
  may : List ByteArray

structure Part where
  want : Want
  stopped : Bool

structure Book where
  foes : List Foe
  spots : List Spot
  valves : List ByteArray
  parts : List Part
  seen : Int

def foeNil : Foe := ⟨.empty, .empty⟩
def spotNil : Spot := ⟨.empty, 0, 0, 0, []⟩
def wantNil : Want := ⟨0, 0, [], [], [], []⟩
def partNil : Part := ⟨wantNil, false⟩

def gf (fs : List Foe) (k : Nat) : Foe := fs.getD k foeNil
def gp (ps : List Spot) (k : Nat) : Spot := ps.getD k spotNil
def gq (ps : List Part) (k : Nat) : Part := ps.getD k partNil

theorem gf_lt {fs : List Foe} {k : Nat} (h : k < fs.length) : gf fs k = fs[k] := by simp [gf, h]
theorem gp_lt {fs : List Spot} {k : Nat} (h : k < fs.length) : gp fs k = fs[k] := by simp [gp, h]
theorem gq_lt {fs : List Part} {k : Nat} (h : k < fs.length) : gq fs k = fs[k] := by simp [gq, h]
theorem gf_mem {fs : List Foe} {k : Nat} (h : k < fs.length) : gf fs k ∈ fs := by rw [gf_lt h]; exact List.getElem_mem _
theorem gp_mem {fs : List Spot} {k : Nat} (h : k < fs.length) : gp fs k ∈ fs := by rw [gp_lt h]; exact List.getElem_mem _
theorem gq_mem {fs : List Part} {k : Nat} (h : k < fs.length) : gq fs k ∈ fs := by rw [gq_lt h]; exact List.getElem_mem _

def foeV (f : Foe) : Value := .agg #[.string f.a, .string f.b]
def spotV (s : Spot) (m : Option Addr) (c : Nat) : Value := .agg #[.string s.name, .int .i64 s.cap, .int .i64 s.least, .int .i64 s.most, .slice m s.may.length c]
def partV (p : Part) (a2 a3 a4 a5 : Option Addr) (c2 c3 c4 c5 : Nat) : Value :=
  .agg #[.int .i64 p.want.number, .int .i64 p.want.kind, .slice a2 p.want.stuffs.length c2, .slice a3 p.want.uses.length c3, .slice a4 p.want.opens.length c4, .slice a5 p.want.shuts.length c5, .bool p.stopped]
def bookV (x : Book) (af ap av aq : Option Addr) (cf cp cv cq : Nat) : Value :=
  .agg #[.slice af x.foes.length cf, .slice ap x.spots.length cp, .slice av x.valves.length cv, .slice aq x.parts.length cq, .int .i64 x.seen]

def foeCell (f : Foe) : Nat → Value
  | 0 => .string f.a
  | _ => .string f.b
def spotCell (s : Spot) (m : Option Addr) (c : Nat) : Nat → Value
  | 0 => .string s.name
  | 1 => .int .i64 s.cap
  | 2 => .int .i64 s.least
  | 3 => .int .i64 s.most
  | _ => .slice m s.may.length c
def partCell (p : Part) (A : Nat → Option Addr) (C : Nat → Nat) : Nat → Value
  | 0 => .int .i64 p.want.number
  | 1 => .int .i64 p.want.kind
  | 2 => .slice (A 2) p.want.stuffs.length (C 2)
  | 3 => .slice (A 3) p.want.uses.length (C 3)
  | 4 => .slice (A 4) p.want.opens.length (C 4)
  | 5 => .slice (A 5) p.want.shuts.length (C 5)
  | _ => .bool p.stopped

def FoesAt (w : World) (a : Option Addr) (fs : List Foe) : Prop := RowAt w a fs.length 2 (fun k => foeCell (gf fs k))
def SpotsAt (w : World) (a : Option Addr) (ps : List Spot) : Prop :=
  ∃ (m : Nat → Option Addr) (c : Nat → Nat), RowAt w a ps.length 5 (fun k => spotCell (gp ps k) (m k) (c k)) ∧ (∀ k, k < ps.length → StrsAt w (m k) (gp ps k).may) ∧ ∀ k, k < ps.length → (gp ps k).may.length ≤ c k
def PartsAt (w : World) (a : Option Addr) (ps : List Part) : Prop :=
  ∃ (A : Nat → Nat → Option Addr) (C : Nat → Nat → Nat), RowAt w a ps.length 7 (fun k => partCell (gq ps k) (A k) (C k)) ∧ ∀ k, k < ps.length → WantIn w (gq ps k).want (A k 2) (A k 3) (A k 4) (A k 5)

theorem FoesAt.later {w w' : World} {a : Option Addr} {fs : List Foe} (h : FoesAt w a fs) (hb : Below w.heap.size w w') : FoesAt w' a fs := RowAt.later h hb
theorem SpotsAt.later {w w' : World} {a : Option Addr} {fs : List Spot} (h : SpotsAt w a fs) (hb : Below w.heap.size w w') : SpotsAt w' a fs := by
  obtain ⟨m, c, h1, h2, h3⟩ := h
  exact ⟨m, c, h1.later hb, fun k hk => (h2 k hk).later hb, h3⟩
theorem PartsAt.later {w w' : World} {a : Option Addr} {fs : List Part} (h : PartsAt w a fs) (hb : Below w.heap.size w w') : PartsAt w' a fs := by
  obtain ⟨m, c, h1, h2⟩ := h
  exact ⟨m, c, h1.later hb, fun k hk => (h2 k hk).later hb⟩

theorem FoesAt.at {w : World} {a : Option Addr} {fs : List Foe} (h : FoesAt w a fs) {k : Nat} (hk : k < fs.length) :
    ∃ b o, a = some ⟨b, o, none⟩ ∧ b < w.heap.size ∧ w.cell? ⟨b, o + k * 2, none⟩ = some (.string (gf fs k).a) ∧ w.cell? ⟨b, o + k * 2 + 1, none⟩ = some (.string (gf fs k).b) := by
  obtain ⟨b, o, ha, hl, hc⟩ := h k hk
  exact ⟨b, o, ha, hl, hc 0 (by omega), hc 1 (by omega)⟩
theorem SpotsAt.at {w : World} {a : Option Addr} {fs : List Spot} (h : SpotsAt w a fs) {k : Nat} (hk : k < fs.length) :
    ∃ b o m c, a = some ⟨b, o, none⟩ ∧ b < w.heap.size ∧ w.cell? ⟨b, o + k * 5, none⟩ = some (.string (gp fs k).name) ∧ w.cell? ⟨b, o + k * 5 + 1, none⟩ = some (.int .i64 (gp fs k).cap) ∧
      w.cell? ⟨b, o + k * 5 + 2, none⟩ = some (.int .i64 (gp fs k).least) ∧ w.cell? ⟨b, o + k * 5 + 3, none⟩ = some (.int .i64 (gp fs k).most) ∧
      w.cell? ⟨b, o + k * 5 + 4, none⟩ = some (.slice m (gp fs k).may.length c) ∧ StrsAt w m (gp fs k).may := by
  obtain ⟨m, c, h, h2, h3⟩ := h
  obtain ⟨b, o, ha, hl, hc⟩ := h k hk
  exact ⟨b, o, m k, c k, ha, hl, hc 0 (by omega), hc 1 (by omega), hc 2 (by omega), hc 3 (by omega), hc 4 (by omega), h2 k hk⟩
theorem SpotsAt.atCap {w : World} {a : Option Addr} {fs : List Spot} (h : SpotsAt w a fs) {k : Nat} (hk : k < fs.length) :
    ∃ b o m c, a = some ⟨b, o, none⟩ ∧ b < w.heap.size ∧ w.cell? ⟨b, o + k * 5, none⟩ = some (.string (gp fs k).name) ∧ w.cell? ⟨b, o + k * 5 + 1, none⟩ = some (.int .i64 (gp fs k).cap) ∧
      w.cell? ⟨b, o + k * 5 + 2, none⟩ = some (.int .i64 (gp fs k).least) ∧ w.cell? ⟨b, o + k * 5 + 3, none⟩ = some (.int .i64 (gp fs k).most) ∧
      w.cell? ⟨b, o + k * 5 + 4, none⟩ = some (.slice m (gp fs k).may.length c) ∧ StrsAt w m (gp fs k).may ∧ (gp fs k).may.length ≤ c := by
  obtain ⟨m, c, h, h2, h3⟩ := h
  obtain ⟨b, o, ha, hl, hc⟩ := h k hk
  exact ⟨b, o, m k, c k, ha, hl, hc 0 (by omega), hc 1 (by omega), hc 2 (by omega), hc 3 (by omega), hc 4 (by omega), h2 k hk, h3 k hk⟩
theorem PartsAt.at {w : World} {a : Option Addr} {fs : List Part} (h : PartsAt w a fs) {k : Nat} (hk : k < fs.length) :
    ∃ b o a2 a3 a4 a5 c2 c3 c4 c5, a = some ⟨b, o, none⟩ ∧ b < w.heap.size ∧ w.cell? ⟨b, o + k * 7, none⟩ = some (.int .i64 (gq fs k).want.number) ∧ w.cell? ⟨b, o + k * 7 + 1, none⟩ = some (.int .i64 (gq fs k).want.kind) ∧
      w.cell? ⟨b, o + k * 7 + 2, none⟩ = some (.slice a2 (gq fs k).want.stuffs.length c2) ∧ w.cell? ⟨b, o + k * 7 + 3, none⟩ = some (.slice a3 (gq fs k).want.uses.length c3) ∧
      w.cell? ⟨b, o + k * 7 + 4, none⟩ = some (.slice a4 (gq fs k).want.opens.length c4) ∧ w.cell? ⟨b, o + k * 7 + 5, none⟩ = some (.slice a5 (gq fs k).want.shuts.length c5) ∧
      w.cell? ⟨b, o + k * 7 + 6, none⟩ = some (.bool (gq fs k).stopped) ∧ WantIn w (gq fs k).want a2 a3 a4 a5 := by
  obtain ⟨A, C, h, h2⟩ := h
  obtain ⟨b, o, ha, hl, hc⟩ := h k hk
  exact ⟨b, o, A k 2, A k 3, A k 4, A k 5, C k 2, C k 3, C k 4, C k 5, ha, hl, hc 0 (by omega), hc 1 (by omega), hc 2 (by omega), hc 3 (by omega), hc 4 (by omega), hc 5 (by omega), hc 6 (by omega), h2 k hk⟩

/-- What lies at an address lies from block B on. -/
def AddrFrom (B : Nat) (a : Option Addr) : Prop := ∀ b o, a = some ⟨b, o, none⟩ → B ≤ b

theorem RowAt.setLow {w : World} {a : Option Addr} {n size B : Nat} {f : Nat → Nat → Value} (h : RowAt w a n size f) (ha : AddrFrom B a) {p : Addr} (hp : p.block < B) (v : Value) : RowAt (w.setCell p v) a n size f :=
  h.setOther (fun b o e => by have := ha b o e; omega) v

/-- Spots, all of whose memory lies from block B on. -/
def SpotsFrom (B : Nat) (w : World) (a : Option Addr) (ps : List Spot) : Prop :=
  AddrFrom B a ∧ ∃ (m : Nat → Option Addr) (c : Nat → Nat), RowAt w a ps.length 5 (fun k => spotCell (gp ps k) (m k) (c k)) ∧ (∀ k, k < ps.length → StrsAt w (m k) (gp ps k).may ∧ AddrFrom B (m k)) ∧ ∀ k, k < ps.length → (gp ps k).may.length ≤ c k
def PartsFrom (B : Nat) (w : World) (a : Option Addr) (ps : List Part) : Prop :=
  AddrFrom B a ∧ ∃ (A : Nat → Nat → Option Addr) (C : Nat → Nat → Nat), RowAt w a ps.length 7 (fun k => partCell (gq ps k) (A k) (C k)) ∧ ∀ k, k < ps.length → WantIn w (gq ps k).want (A k 2) (A k 3) (A k 4) (A k 5) ∧ AddrFrom B (A k 2) ∧ AddrFrom B (A k 3) ∧ AddrFrom B (A k 4) ∧ AddrFrom B (A k 5)

theorem SpotsFrom.at_ {B : Nat} {w : World} {a : Option Addr} {ps : List Spot} (h : SpotsFrom B w a ps) : SpotsAt w a ps := by
  obtain ⟨_, m, c, h1, h2, h3⟩ := h
  exact ⟨m, c, h1, fun k hk => (h2 k hk).1, h3⟩
theorem PartsFrom.at_ {B : Nat} {w : World} {a : Option Addr} {ps : List Part} (h : PartsFrom B w a ps) : PartsAt w a ps := by
  obtain ⟨_, m, c, h1, h2⟩ := h
  exact ⟨m, c, h1, fun k hk => (h2 k hk).1⟩
theorem SpotsFrom.later {B : Nat} {w w' : World} {a : Option Addr} {ps : List Spot} (h : SpotsFrom B w a ps) (hb : Below w.heap.size w w') : SpotsFrom B w' a ps := by
  obtain ⟨h0, m, c, h1, h2, h3⟩ := h
  exact ⟨h0, m, c, h1.later hb, fun k hk => ⟨(h2 k hk).1.later hb, (h2 k hk).2⟩, h3⟩
theorem PartsFrom.later {B : Nat} {w w' : World} {a : Option Addr} {ps : List Part} (h : PartsFrom B w a ps) (hb : Below w.heap.size w w') : PartsFrom B w' a ps := by
  obtain ⟨h0, m, c, h1, h2⟩ := h
  exact ⟨h0, m, c, h1.later hb, fun k hk => ⟨(h2 k hk).1.later hb, (h2 k hk).2⟩⟩
theorem SpotsFrom.setLow {B : Nat} {w : World} {a : Option Addr} {ps : List Spot} (h : SpotsFrom B w a ps) {p : Addr} (hp : p.block < B) (v : Value) : SpotsFrom B (w.setCell p v) a ps := by
  obtain ⟨h0, m, c, h1, h2, h3⟩ := h
  exact ⟨h0, m, c, h1.setLow h0 hp v, fun k hk => ⟨RowAt.setLow (h2 k hk).1 (h2 k hk).2 hp v, (h2 k hk).2⟩, h3⟩
theorem PartsFrom.setLow {B : Nat} {w : World} {a : Option Addr} {ps : List Part} (h : PartsFrom B w a ps) {p : Addr} (hp : p.block < B) (v : Value) : PartsFrom B (w.setCell p v) a ps := by
  obtain ⟨h0, m, c, h1, h2⟩ := h
  refine ⟨h0, m, c, h1.setLow h0 hp v, fun k hk => ?_⟩
  obtain ⟨⟨k1, k2, k3, k4⟩, g1, g2, g3, g4⟩ := h2 k hk
  exact ⟨⟨RowAt.setLow k1 g1 hp v, RowAt.setLow k2 g2 hp v, RowAt.setLow k3 g3 hp v, RowAt.setLow k4 g4 hp v⟩, g1, g2, g3, g4⟩

structure BookIn (w : World) (x : Book) (af ap av aq : Option Addr) : Prop where
  foes : FoesAt w af x.foes
  spots : SpotsAt w ap x.spots
  valves : StrsAt w av x.valves
  parts : PartsAt w aq x.parts

theorem BookIn.later {w w' : World} {x : Book} {af ap av aq : Option Addr} (h : BookIn w x af ap av aq) (hb : Below w.heap.size w w') : BookIn w' x af ap av aq :=
  ⟨h.foes.later hb, h.spots.later hb, h.valves.later hb, h.parts.later hb⟩

structure FoesFit (fs : List Foe) : Prop where
  len : fs.length ≤ maxLen
  names : ∀ f ∈ fs, f.a.size ≤ maxLen ∧ f.b.size ≤ maxLen
structure SpotsFit (fs : List Spot) : Prop where
  len : fs.length ≤ maxLen
  names : ∀ f ∈ fs, f.name.size ≤ maxLen ∧ Fit f.may
structure PartsFit (fs : List Part) : Prop where
  len : fs.length ≤ maxLen
  wants : ∀ f ∈ fs, WantFit f.want
structure BookFit (x : Book) : Prop where
  foes : FoesFit x.foes
  spots : SpotsFit x.spots
  valves : Fit x.valves
  parts : PartsFit x.parts

structure BookRoom (x : Book) : Prop where
  foes : x.foes.length ≤ 1048576
  spots : x.spots.length ≤ 1048576
  mays : ∀ s ∈ x.spots, s.may.length ≤ 1048576
  valves : x.valves.length ≤ 1048576
  parts : x.parts.length ≤ 1048576
  wants : ∀ p ∈ x.parts, WantRoom p.want

end Go.Proofs.YtfmhkicncgccjaaGreat
