/- How what came in reads: lists of texts, lists of uses, a want. -/
import Derived.Test.YtfmhkicncgccjaaGreatWantEq
import Derived.Deep.Strs
import Derived.Lib.SmallJoins
namespace Go.Proofs.YtfmhkicncgccjaaGreat
open Go.RowKit Go.Sort

theorem addr_spot {w : World} {a : Addr} {v : Value} (h : w.cell? a = some v) : a.spot = none := by
  unfold World.cell? at h
  split at h
  · split at h
    · cases h
    · rename_i hs
      cases hq : a.spot with
      | none => rfl
      | some x => rw [hq] at hs; simp at hs
  · cases h

theorem add_lit (b o k : Nat) : (⟨b, o, none⟩ : Addr).add k = ⟨b, o + k, none⟩ := by
  unfold Addr.add
  split
  · rename_i h; subst h; rfl
  · rfl

theorem rowAt_of {w : World} {a : Addr} {n size : Nat} {f : Nat → Nat → Value} (hs : 0 < size) (h : ∀ k, k < n → ∀ j, j < size → w.cell? ((a.add (k * size)).add j) = some (f k j)) : RowAt w (some a) n size f := by
  intro k hk
  have h0 := h 0 (by omega) 0 hs
  have e0 : (a.add (0 * size)).add 0 = a := by simp [Addr.add]
  rw [e0] at h0
  have hsp := addr_spot h0
  obtain ⟨b, o, sp⟩ := a
  simp only at hsp
  subst hsp
  refine ⟨b, o, rfl, World.block_lt_of_cell? _ _ h0, fun j hj => ?_⟩
  have := h k hk j hj
  rwa [add_lit, add_lit] at this

section
variable {H : Type} {enc : TypeId × Value → H} {W : World}

theorem open_texts {t e : TypeId} {fuel : Nat} {v : Value} {x : DataW H × List MemPlace} (ht : Tryz.prog.underlying t = some (.slice e)) (he : Tryz.prog.underlying e = some .string) (hc : Tryz.prog.cellsOf e = 1)
    (h : DataW.trod enc Tryz.prog W 0 (fun _ => true) true fuel t [v] = some x) : ∃ a ss cap, v = .slice a ss.length cap ∧ StrsAt W a ss ∧ Fit ss := by
  rcases Go.Deep.open_strs ht he hc h with ⟨hcs, _⟩ | ⟨a, len, cap, m, Sx, hcs, _, hl, hm, hmm, _, hcell⟩
  · simp only [List.cons.injEq, and_true] at hcs
    exact ⟨none, [], 0, hcs, fun k hk => absurd hk (Nat.not_lt_zero _), Nat.zero_le _, fun s hs => by cases hs⟩
  · simp only [List.cons.injEq, and_true] at hcs
    have hmc : m = cap := by simpa using hmm
    refine ⟨some a, (List.range len).map Sx, cap, by simpa using hcs, ?_, by simp; omega, fun s hs => ?_⟩
    · refine rowAt_of (by omega) (fun k hk j hj => ?_)
      have hk' : k < len := by simpa using hk
      have hj0 : j = 0 := by omega
      subst hj0
      have := (hcell k (by omega)).1
      have e1 : (a.add (k * 1)).add 0 = a.add k := by rw [Nat.mul_one]; simp [Addr.add]
      rw [e1, this, gs_lt hk]
      simp
    · simp only [List.mem_map, List.mem_range] at hs
      obtain ⟨i, hi, rfl⟩ := hs
      exact (hcell i (by omega)).2

theorem add_add' (a : Addr) (i j : Nat) : (a.add i).add j = a.add (i + j) := Go.Deep.add_add a i j

theorem open_uses {t e : TypeId} {f0 f1 f2 : Field} {fuel : Nat} {v : Value} {x : DataW H × List MemPlace} (ht : Tryz.prog.underlying t = some (.slice e)) (he : Tryz.prog.underlying e = some (.struct #[f0, f1, f2])) (hc : Tryz.prog.cellsOf e = 3)
    (h0 : Tryz.prog.underlying f0.type = some .string) (h1 : Tryz.prog.underlying f1.type = some (.int .i64)) (h2 : Tryz.prog.underlying f2.type = some (.int .i64))
    (k0 : Tryz.prog.cellsOf f0.type = 1) (k1 : Tryz.prog.cellsOf f1.type = 1) (k2 : Tryz.prog.cellsOf f2.type = 1) (o0 : f0.offset = 0) (o1 : f1.offset = 1) (o2 : f2.offset = 2)
    (h : DataW.trod enc Tryz.prog W 0 (fun _ => true) true fuel t [v] = some x) : ∃ a us cap, v = .slice a us.length cap ∧ UsesAt W a us ∧ us.length ≤ maxLen ∧ ∀ u ∈ us, u.name.size ≤ maxLen := by
  rcases Go.Deep.open_slice ht h with ⟨hcs, _⟩ | ⟨a, len, cap, m, n, D, Pl, hcs, _, hl, hm, hmm, _, hcell⟩
  · simp only [List.cons.injEq, and_true] at hcs
    exact ⟨none, [], 0, hcs, fun k hk => absurd hk (Nat.not_lt_zero _), Nat.zero_le _, fun s hs => by cases hs⟩
  · simp only [List.cons.injEq, and_true] at hcs
    have hmc : m = cap := by simpa using hmm
    have each : ∀ i, i < len → ∃ u : Use, (∀ j, j < 3 → W.cell? ((a.add (i * 3)).add j) = some (useCell u j)) ∧ u.name.size ≤ maxLen := fun i hi => by
      obtain ⟨cs, hcs1, htr⟩ := hcell i (by omega)
      rw [hc] at hcs1
      obtain ⟨_, hlen, hcs2⟩ := World.cells?_some hcs1
      match cs, hlen with
      | [v0, v1, v2], _ =>
        obtain ⟨y0, y1, y2, nn, _, _, t0, t1, t2⟩ := Go.Deep.trod_struct3 he htr
        rw [o0, k0] at t0
        rw [o1, k1] at t1
        rw [o2, k2] at t2
        obtain ⟨s, es, _, hss⟩ := DataW.trod_string h0 t0
        obtain ⟨r, er, _, _⟩ := DataW.trod_int h1 t1
        obtain ⟨q, eq, _, _⟩ := DataW.trod_int h2 t2
        simp at es er eq
        subst es er eq
        refine ⟨⟨s, r, q⟩, fun j hj => ?_, hss⟩
        rw [hcs2 j hj]
        match j, hj with
        | 0, _ => rfl
        | 1, _ => rfl
        | 2, _ => rfl
    obtain ⟨U, hU⟩ := @Go.Deep.choose_lt Use ⟨useNil⟩ _ _ each
    refine ⟨some a, (List.range len).map U, cap, by simpa using hcs, ?_, by simp; omega, fun u hu => ?_⟩
    · refine rowAt_of (by omega) (fun k hk j hj => ?_)
      have hk' : k < len := by simpa using hk
      have := (hU k hk').1 j hj
      rw [this, gu_lt hk]
      simp
    · simp only [List.mem_map, List.mem_range] at hu
      obtain ⟨i, hi, rfl⟩ := hu
      exact (hU i hi).2

end
end Go.Proofs.YtfmhkicncgccjaaGreat
