/- What the specification's l2Uses answers: the names of a want's places. -/
import Derived.Test.YtfmhkicncgccjaaGreatBkS7
import Derived.OwnWalk
namespace Go.Proofs.YtfmhkicncgccjaaGreat
open Go.RowKit Go.Sort
set_option linter.unusedSimpArgs false
set_option linter.unusedVariables false

/-- The names of a want's places. -/
def usesN (y : Want) : List ByteArray := y.uses.map (·.name)
theorem usesN_len (y : Want) : (usesN y).length = y.uses.length := by simp [usesN]
theorem usesN_at {y : Want} {k : Nat} (h : k < y.uses.length) : (usesN y)[k]? = some (gu y.uses k).name := by
  rw [gu_lt h]; simp [usesN, h]
theorem take_usesN {y : Want} {k : Nat} (h : k < y.uses.length) : ((usesN y).take (k + 1)).map Value.string = ((usesN y).take k).map Value.string ++ [.string (gu y.uses k).name] := by
  rw [List.take_add_one, usesN_at h]; simp

set_option maxRecDepth 100000 in
set_option maxHeartbeats 1000000 in
theorem l2Uses_any (y : Want) (a2 a3 a4 a5 : Option Addr) (c2 c3 c4 c5 : Nat) (w : World) (hy : UsesAt w a3 y.uses) (hl : y.uses.length ≤ 8) :
    Calls Tryz.prog 87 #[wantW y a2 a3 a4 a5 c2 c3 c4 c5] w fun e w' => (∃ a cap, e = .returned (.slice a (usesN y).length cap) ∧ StrsAt w' a (usesN y)) ∧ Below w.heap.size w w' := by
  unfold wantW
  obtain ⟨t0, hi, hz0, hz1, hz2⟩ := info_parts info9
  go_enter Tryz.func87, Tryz.ntmps87
  go_wp2
  go_loopw [3, 4] (fun v i wr => ∃ (k : Nat), k ≤ y.uses.length ∧ i = .int .i64 k ∧ wr.ownsRow (w.heap.size + 1) 9 1 v k (((usesN y).take k).map Value.string) ∧ Below (w.alloc (.cells (wantL y a2 a3 a4 a5 c2 c3 c4 c5).toArray 38)).heap.size (w.alloc (.cells (wantL y a2 a3 a4 a5 c2 c3 c4 c5).toArray 38)) wr) (fun _ i _ => y.uses.length - (intOf i).toNat)
  case atStart =>
    refine ⟨0, Nat.zero_le _, rfl, ?_, (Below.refl _ _).alloc (Nat.le_refl _) _⟩
    have h := World.ownsRow_lit (base := w.heap.size + 1) (e := 9) (size := 1) (w.alloc (.cells (wantL y a2 a3 a4 a5 c2 c3 c4 c5).toArray 38)) #[] 0 (by simp) (Nat.zero_le _) rfl
    simpa [wantL] using h
  case round wr =>
    obtain ⟨k, hk, rfl, hown, hbel⟩ := hrel
    have hbw := below_over hbel
    have row := (Row.new w 38 (wantL y a2 a3 a4 a5 c2 c3 c4 c5)).later hbel
    have y3 := row.cell 3 rfl
    have hsz := row.lt
    by_cases hlt : k < y.uses.length
    · obtain ⟨b, o, ha, hb, hc0, hc1, hc2⟩ := (hy.later hbw).at hlt
      subst ha
      clear hc1 hc2 row
      go_wp2_with (first
        | (at_builtin; refine wpList_append_own _ rfl _ _ 25 rfl (w.heap.size + 1) 9 t0 (.string .empty) 1 16 Tryz.underlying25 hi hz0 hz1 hz2 rfl (by decide) _ _ _ rfl (hown.alloc _) ⟨wr.heap.size, 0, none⟩ 1 1 [.string (gu y.uses k).name] rfl rfl (cell_one_new _ _ _) ?c2 ?c3 ?c4 ?c5 ?_)
        | go_in)
      case c2 => intro u hu; simp at hu; subst hu; rfl
      case c3 => unfold maxLen; omega
      case c4 => omega
      case c5 => simp; omega
      intro v' w1 hown' hgrow _
      have hbel1 := (hbel.alloc hbel.size (.cells #[.string (gu y.uses k).name] 9)).grown hgrow (by have := hbel.size; simp at this ⊢; omega) (fun g hg => by have := hown.lt g hg; simp; omega)
      have hown2 : w1.ownsRow (w.heap.size + 1) 9 1 v' (k + 1) (((usesN y).take (k + 1)).map Value.string) := by rw [take_usesN hlt, List.map_take]; exact hown'
      clear hown' hgrow
      go_wp2
      go_roundw
      case rel => exact ⟨k + 1, by omega, by go_num, hown2, hbel1⟩
      case measure => simp [intOf]; omega
    · have : k = y.uses.length := by omega
      subst this
      go_wp2
      go_ret
      have hfull : ((usesN y).take y.uses.length) = usesN y := List.take_of_length_le (by rw [usesN_len]; exact Nat.le_refl _)
      rw [hfull] at hown
      refine ⟨?_, hbw⟩
      rcases hown.2 with ⟨rfl, hn⟩ | ⟨g, cap, cur, rfl, hg, hcur, h1, h2, h3, h4⟩
      · refine ⟨none, 0, by rw [usesN_len, hn]; rfl, fun k hk => absurd hk (by rw [usesN_len, hn]; exact Nat.not_lt_zero _)⟩
      · refine ⟨some ⟨g, 0, none⟩, cap, by rw [usesN_len]; rfl, fun k hk => ⟨g, 0, rfl, ?_, fun j hj => ?_⟩⟩
        · obtain ⟨hlt', _⟩ := Array.getElem?_eq_some_iff.1 hcur
          exact hlt'
        · have hj0 : j = 0 := by omega
          subst hj0
          have hk' : k < y.uses.length := by rw [usesN_len] at hk; exact hk
          have hc := hown.cellAt k (by omega)
          rw [List.getElem?_map, usesN_at hk'] at hc
          have e : gs (usesN y) k = (gu y.uses k).name := by
            have := usesN_at hk'
            rw [List.getElem?_eq_getElem hk] at this
            rw [gs_lt hk]
            exact Option.some.inj this
          show wr.cell? _ = some (.string (gs (usesN y) k))
          rw [e]
          simpa using hc

end Go.Proofs.YtfmhkicncgccjaaGreat
