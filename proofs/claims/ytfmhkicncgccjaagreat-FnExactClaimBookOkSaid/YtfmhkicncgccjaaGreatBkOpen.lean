/- How a book that came in reads. -/
import Derived.Test.YtfmhkicncgccjaaGreatOpen
import Derived.Test.YtfmhkicncgccjaaGreatBk
import Derived.Test.YtfmhkicncgccjaaGreatBkS5
import Derived.ProofKit
import Derived.OpenShut
namespace Go.Proofs.YtfmhkicncgccjaaGreat
open Go.RowKit Go.Sort
open Go.ChangeShapes Go.WideShapes Go.ChangeAt
set_option linter.unusedSimpArgs false
set_option linter.unusedVariables false
set_option maxRecDepth 100000

theorem cellsBook : Tryz.prog.cellsOf 49 = 5 := by kernel_rfl
theorem cellsWant : Tryz.prog.cellsOf 109 = 6 := by kernel_rfl
theorem cellsInt : Tryz.prog.cellsOf 3 = 1 := by kernel_rfl
theorem cellsBool : Tryz.prog.cellsOf 4 = 1 := by kernel_rfl
theorem cellsStr : Tryz.prog.cellsOf 9 = 1 := by kernel_rfl
theorem cellsStrs : Tryz.prog.cellsOf 25 = 1 := by kernel_rfl
theorem cellsUses : Tryz.prog.cellsOf 107 = 1 := by kernel_rfl
theorem cellsUse : Tryz.prog.cellsOf 185 = 3 := by kernel_rfl
theorem cellsFoes : Tryz.prog.cellsOf 45 = 1 := by kernel_rfl
theorem cellsFoe : Tryz.prog.cellsOf 103 = 2 := by kernel_rfl
theorem cellsSpots : Tryz.prog.cellsOf 46 = 1 := by kernel_rfl
theorem cellsSpot : Tryz.prog.cellsOf 105 = 5 := by kernel_rfl
theorem cellsParts : Tryz.prog.cellsOf 47 = 1 := by kernel_rfl
theorem cellsPart : Tryz.prog.cellsOf 111 = 7 := by kernel_rfl

section
variable {H : Type} {enc : TypeId × Value → H} {W : World}

theorem open_textsC {t e : TypeId} {fuel : Nat} {v : Value} {x : DataW H × List MemPlace} (ht : Tryz.prog.underlying t = some (.slice e)) (he : Tryz.prog.underlying e = some .string) (hc : Tryz.prog.cellsOf e = 1)
    (h : DataW.trod enc Tryz.prog W 0 (fun _ => true) true fuel t [v] = some x) : ∃ a ss cap, v = .slice a ss.length cap ∧ StrsAt W a ss ∧ Fit ss ∧ ss.length ≤ cap := by
  have h' := h
  obtain ⟨a, ss, cap, hv, h1, h2⟩ := open_texts ht he hc h
  refine ⟨a, ss, cap, hv, h1, h2, ?_⟩
  subst hv
  rcases Go.Deep.open_strs ht he hc h' with ⟨hcs, _⟩ | ⟨a', len, cap', m, Sx, hcs, _, hl, hm, hmm, _, hcell⟩
  · simp only [List.cons.injEq, and_true] at hcs
    injection hcs with _ e1 e2
    omega
  · simp only [List.cons.injEq, and_true] at hcs
    injection hcs with _ e1 e2
    omega

theorem open_foes {fuel : Nat} {v : Value} {x : DataW H × List MemPlace} (h : DataW.trod enc Tryz.prog W 0 (fun _ => true) true fuel 45 [v] = some x) :
    ∃ a fs cap, v = .slice a fs.length cap ∧ FoesAt W a fs ∧ FoesFit fs := by
  rcases Go.Deep.open_slice Tryz.underlying45 h with ⟨hcs, _⟩ | ⟨a, len, cap, m, n, D, Pl, hcs, _, hl, hm, hmm, _, hcell⟩
  · simp only [List.cons.injEq, and_true] at hcs
    exact ⟨none, [], 0, hcs, fun k hk => absurd hk (Nat.not_lt_zero _), ⟨Nat.zero_le _, fun s hs => by cases hs⟩⟩
  · simp only [List.cons.injEq, and_true] at hcs
    have hmc : m = cap := by simpa using hmm
    have each : ∀ i, i < len → ∃ u : Foe, (∀ j, j < 2 → W.cell? ((a.add (i * 2)).add j) = some (foeCell u j)) ∧ (u.a.size ≤ maxLen ∧ u.b.size ≤ maxLen) := fun i hi => by
      obtain ⟨cs, hcs1, htr⟩ := hcell i (by omega)
      rw [cellsFoe] at hcs1
      obtain ⟨_, hlen, hcs2⟩ := World.cells?_some hcs1
      match cs, hlen with
      | [v0, v1], _ =>
        obtain ⟨xs, nn, _, _, _, hxl, hx⟩ := DataW.trod_struct Tryz.underlying103 htr
        match xs, hxl with
        | [y0, y1], _ =>
          have t0 := hx 0 _ rfl
          have t1 := hx 1 _ rfl
          simp [cellsStr] at t0 t1
          obtain ⟨s, es, _, hss⟩ := DataW.trod_string Tryz.underlying9 t0
          obtain ⟨r, er, _, hrr⟩ := DataW.trod_string Tryz.underlying9 t1
          simp at es er
          subst es er
          refine ⟨⟨s, r⟩, fun j hj => ?_, hss, hrr⟩
          rw [hcs2 j hj]
          match j, hj with
          | 0, _ => rfl
          | 1, _ => rfl
    obtain ⟨U, hU⟩ := @Go.Deep.choose_lt Foe ⟨⟨ByteArray.empty, ByteArray.empty⟩⟩ _ _ each
    refine ⟨some a, (List.range len).map U, cap, by simpa using hcs, ?_, ⟨by simp; omega, fun u hu => ?_⟩⟩
    · refine rowAt_of (by omega) (fun k hk j hj => ?_)
      have hk' : k < len := by simpa using hk
      have := (hU k hk').1 j hj
      rw [this, gf_lt hk]
      simp
    · simp only [List.mem_map, List.mem_range] at hu
      obtain ⟨i, hi, rfl⟩ := hu
      exact (hU i hi).2

/-- A spot and where its list lies. -/
structure SpotC where
  s : Spot
  m : Option Addr
  c : Nat

theorem open_spots {fuel : Nat} {v : Value} {x : DataW H × List MemPlace} (h : DataW.trod enc Tryz.prog W 0 (fun _ => true) true fuel 46 [v] = some x) :
    ∃ a fs cap, v = .slice a fs.length cap ∧ SpotsAt W a fs ∧ SpotsFit fs := by
  rcases Go.Deep.open_slice Tryz.underlying46 h with ⟨hcs, _⟩ | ⟨a, len, cap, m, n, D, Pl, hcs, _, hl, hm, hmm, _, hcell⟩
  · simp only [List.cons.injEq, and_true] at hcs
    exact ⟨none, [], 0, hcs, ⟨fun _ => none, fun _ => 0, fun k hk => absurd hk (Nat.not_lt_zero _), fun k hk => absurd hk (Nat.not_lt_zero _), fun k hk => absurd hk (Nat.not_lt_zero _)⟩, ⟨Nat.zero_le _, fun s hs => by cases hs⟩⟩
  · simp only [List.cons.injEq, and_true] at hcs
    have hmc : m = cap := by simpa using hmm
    have each : ∀ i, i < len → ∃ u : SpotC, (∀ j, j < 5 → W.cell? ((a.add (i * 5)).add j) = some (spotCell u.s u.m u.c j)) ∧ (StrsAt W u.m u.s.may ∧ u.s.may.length ≤ u.c ∧ u.s.name.size ≤ maxLen ∧ Fit u.s.may) := fun i hi => by
      obtain ⟨cs, hcs1, htr⟩ := hcell i (by omega)
      rw [cellsSpot] at hcs1
      obtain ⟨_, hlen, hcs2⟩ := World.cells?_some hcs1
      match cs, hlen with
      | [v0, v1, v2, v3, v4], _ =>
        obtain ⟨xs, nn, _, _, _, hxl, hx⟩ := DataW.trod_struct Tryz.underlying105 htr
        match xs, hxl with
        | [y0, y1, y2, y3, y4], _ =>
          have t0 := hx 0 _ rfl
          have t1 := hx 1 _ rfl
          have t2 := hx 2 _ rfl
          have t3 := hx 3 _ rfl
          have t4 := hx 4 _ rfl
          simp [cellsStr, cellsInt, cellsStrs] at t0 t1 t2 t3 t4
          obtain ⟨s, e0, _, hss⟩ := DataW.trod_string Tryz.underlying9 t0
          obtain ⟨q1, e1, _, _⟩ := DataW.trod_int Tryz.underlying3 t1
          obtain ⟨q2, e2, _, _⟩ := DataW.trod_int Tryz.underlying3 t2
          obtain ⟨q3, e3, _, _⟩ := DataW.trod_int Tryz.underlying3 t3
          obtain ⟨a4, may, c4, rfl, g4, f4, l4⟩ := open_textsC Tryz.underlying25 Tryz.underlying9 cellsStr t4
          simp at e0 e1 e2 e3
          subst e0 e1 e2 e3
          refine ⟨⟨⟨s, q1, q2, q3, may⟩, a4, c4⟩, fun j hj => ?_, g4, l4, hss, f4⟩
          rw [hcs2 j hj]
          match j, hj with
          | 0, _ => rfl
          | 1, _ => rfl
          | 2, _ => rfl
          | 3, _ => rfl
          | 4, _ => rfl
    obtain ⟨U, hU⟩ := @Go.Deep.choose_lt SpotC ⟨⟨⟨ByteArray.empty, 0, 0, 0, []⟩, none, 0⟩⟩ _ _ each
    have hat : ∀ k, k < len → gp ((List.range len).map (fun i => (U i).s)) k = (U k).s := fun k hk => by rw [gp_lt (by simpa using hk)]; simp
    refine ⟨some a, (List.range len).map (fun i => (U i).s), cap, by simpa using hcs, ⟨fun k => (U k).m, fun k => (U k).c, ?_, fun k hk => ?_, fun k hk => ?_⟩, ⟨by simp; omega, fun u hu => ?_⟩⟩
    · refine rowAt_of (by omega) (fun k hk j hj => ?_)
      have hk' : k < len := by simpa using hk
      have := (hU k hk').1 j hj
      rw [this, hat k hk']
    · have hk' : k < len := by simpa using hk
      rw [hat k hk']; exact (hU k hk').2.1
    · have hk' : k < len := by simpa using hk
      rw [hat k hk']; exact (hU k hk').2.2.1
    · simp only [List.mem_map, List.mem_range] at hu
      obtain ⟨i, hi, rfl⟩ := hu
      exact (hU i hi).2.2.2

/-- A part and where its lists lie. -/
structure PartC where
  p : Part
  A : Nat → Option Addr
  C : Nat → Nat

/-- Six addresses or numbers by their places. -/
def four {α : Type} (a b c d : α) : Nat → α
  | 2 => a
  | 3 => b
  | 4 => c
  | _ => d

theorem open_wantC {fuel : Nat} {v0 v1 v2 v3 v4 v5 : Value} {d : DataW H × List MemPlace} (hf : DataW.trod enc Tryz.prog W 0 (fun _ => true) true fuel 109 [v0, v1, v2, v3, v4, v5] = some d) :
    ∃ (x : Want) (a2 a3 a4 a5 : Option Addr) (c2 c3 c4 c5 : Nat), [v0, v1, v2, v3, v4, v5] = wantL x a2 a3 a4 a5 c2 c3 c4 c5 ∧ WantIn W x a2 a3 a4 a5 ∧ WantFit x := by
  obtain ⟨xs, n, _, _, _, hxl, hx⟩ := DataW.trod_struct Tryz.underlying109 hf
  match xs, hxl with
  | [y0, y1, y2, y3, y4, y5], _ =>
    have t0 := hx 0 _ rfl
    have t1 := hx 1 _ rfl
    have t2 := hx 2 _ rfl
    have t3 := hx 3 _ rfl
    have t4 := hx 4 _ rfl
    have t5 := hx 5 _ rfl
    simp [cellsInt, cellsStrs, cellsUses] at t0 t1 t2 t3 t4 t5
    obtain ⟨number, e0, _, _⟩ := DataW.trod_int Tryz.underlying3 t0
    obtain ⟨kind, e1, _, _⟩ := DataW.trod_int Tryz.underlying3 t1
    obtain ⟨a2, stuffs, c2, rfl, g2, f2⟩ := open_texts Tryz.underlying25 Tryz.underlying9 cellsStr t2
    obtain ⟨a3, uses, c3, rfl, g3, f3, f3'⟩ := open_uses Tryz.underlying107 Tryz.underlying185 cellsUse Tryz.underlying9 Tryz.underlying3 Tryz.underlying3 cellsStr cellsInt cellsInt rfl rfl rfl t3
    obtain ⟨a4, opens, c4, rfl, g4, f4⟩ := open_texts Tryz.underlying25 Tryz.underlying9 cellsStr t4
    obtain ⟨a5, shuts, c5, rfl, g5, f5⟩ := open_texts Tryz.underlying25 Tryz.underlying9 cellsStr t5
    simp at e0 e1
    subst e0 e1
    exact ⟨⟨number, kind, stuffs, uses, opens, shuts⟩, a2, a3, a4, a5, c2, c3, c4, c5, rfl, ⟨g2, g3, g4, g5⟩, ⟨f2, f3, f3', f4, f5⟩⟩

theorem open_parts {fuel : Nat} {v : Value} {x : DataW H × List MemPlace} (h : DataW.trod enc Tryz.prog W 0 (fun _ => true) true fuel 47 [v] = some x) :
    ∃ a fs cap, v = .slice a fs.length cap ∧ PartsAt W a fs ∧ PartsFit fs := by
  rcases Go.Deep.open_slice Tryz.underlying47 h with ⟨hcs, _⟩ | ⟨a, len, cap, m, n, D, Pl, hcs, _, hl, hm, hmm, _, hcell⟩
  · simp only [List.cons.injEq, and_true] at hcs
    exact ⟨none, [], 0, hcs, ⟨fun _ _ => none, fun _ _ => 0, fun k hk => absurd hk (Nat.not_lt_zero _), fun k hk => absurd hk (Nat.not_lt_zero _)⟩, ⟨Nat.zero_le _, fun s hs => by cases hs⟩⟩
  · simp only [List.cons.injEq, and_true] at hcs
    have hmc : m = cap := by simpa using hmm
    have each : ∀ i, i < len → ∃ u : PartC, (∀ j, j < 7 → W.cell? ((a.add (i * 7)).add j) = some (partCell u.p u.A u.C j)) ∧ (WantIn W u.p.want (u.A 2) (u.A 3) (u.A 4) (u.A 5) ∧ WantFit u.p.want) := fun i hi => by
      obtain ⟨cs, hcs1, htr⟩ := hcell i (by omega)
      rw [cellsPart] at hcs1
      obtain ⟨_, hlen, hcs2⟩ := World.cells?_some hcs1
      match cs, hlen with
      | [v0, v1, v2, v3, v4, v5, v6], _ =>
        obtain ⟨xs, nn, _, _, _, hxl, hx⟩ := DataW.trod_struct Tryz.underlying111 htr
        match xs, hxl with
        | [y0, y1], _ =>
          have t0 := hx 0 _ rfl
          have t1 := hx 1 _ rfl
          simp [cellsWant, cellsBool] at t0 t1
          obtain ⟨y, a2, a3, a4, a5, c2, c3, c4, c5, ev, g, f⟩ := open_wantC t0
          obtain ⟨q, e1, _⟩ := DataW.trod_bool Tryz.underlying4 t1
          unfold wantL at ev
          simp at ev e1
          obtain ⟨rfl, rfl, rfl, rfl, rfl, rfl⟩ := ev
          subst e1
          refine ⟨⟨⟨y, q⟩, four a2 a3 a4 a5, four c2 c3 c4 c5⟩, fun j hj => ?_, g, f⟩
          rw [hcs2 j hj]
          match j, hj with
          | 0, _ => rfl
          | 1, _ => rfl
          | 2, _ => rfl
          | 3, _ => rfl
          | 4, _ => rfl
          | 5, _ => rfl
          | 6, _ => rfl
    obtain ⟨U, hU⟩ := @Go.Deep.choose_lt PartC ⟨⟨⟨⟨0, 0, [], [], [], []⟩, false⟩, fun _ => none, fun _ => 0⟩⟩ _ _ each
    have hat : ∀ k, k < len → gq ((List.range len).map (fun i => (U i).p)) k = (U k).p := fun k hk => by rw [gq_lt (by simpa using hk)]; simp
    refine ⟨some a, (List.range len).map (fun i => (U i).p), cap, by simpa using hcs, ⟨fun k => (U k).A, fun k => (U k).C, ?_, fun k hk => ?_⟩, ⟨by simp; omega, fun u hu => ?_⟩⟩
    · refine rowAt_of (by omega) (fun k hk j hj => ?_)
      have hk' : k < len := by simpa using hk
      have := (hU k hk').1 j hj
      rw [this, hat k hk']
    · have hk' : k < len := by simpa using hk
      rw [hat k hk']; exact (hU k hk').2.1
    · simp only [List.mem_map, List.mem_range] at hu
      obtain ⟨i, hi, rfl⟩ := hu
      exact (hU i hi).2.2

theorem open_book {base : Nat} {v : Value} {d : DataW H} {p : List MemPlace} (hv : Value.okWide Tryz.prog W .any base 49 v) (h : DataW.Trod enc Tryz.prog W 0 (fun _ => true) true 49 v d p) :
    ∃ (x : Book) (af ap av aq : Option Addr) (cf cp cv cq : Nat), v = bookV x af ap av aq cf cp cv cq ∧ BookIn W x af ap av aq ∧ BookFit x := by
  obtain ⟨cs, rfl, hsz⟩ := okWide_struct Tryz.underlying49 hv
  rw [cellsBook] at hsz
  obtain ⟨cl⟩ := cs
  match cl, hsz with
  | [v0, v1, v2, v3, v4], _ =>
    obtain ⟨fuel, hf⟩ := h
    obtain ⟨xs, n, _, _, _, hxl, hx⟩ := DataW.trod_struct Tryz.underlying49 hf
    match xs, hxl with
    | [y0, y1, y2, y3, y4], _ =>
      have t0 := hx 0 _ rfl
      have t1 := hx 1 _ rfl
      have t2 := hx 2 _ rfl
      have t3 := hx 3 _ rfl
      have t4 := hx 4 _ rfl
      simp [Value.cells, cellsInt, cellsStrs, cellsFoes, cellsSpots, cellsParts] at t0 t1 t2 t3 t4
      obtain ⟨af, foes, cf, rfl, g0, f0⟩ := open_foes t0
      obtain ⟨ap, spots, cp, rfl, g1, f1⟩ := open_spots t1
      obtain ⟨av, valves, cv, rfl, g2, f2⟩ := open_texts Tryz.underlying25 Tryz.underlying9 cellsStr t2
      obtain ⟨aq, parts, cq, rfl, g3, f3⟩ := open_parts t3
      obtain ⟨seen, e4, _, _⟩ := DataW.trod_int Tryz.underlying3 t4
      simp at e4
      subst e4
      exact ⟨⟨foes, spots, valves, parts, seen⟩, af, ap, av, aq, cf, cp, cv, cq, rfl, ⟨g0, g1, g2, g3⟩, ⟨f0, f1, f2, f3⟩⟩

end
end Go.Proofs.YtfmhkicncgccjaaGreat
