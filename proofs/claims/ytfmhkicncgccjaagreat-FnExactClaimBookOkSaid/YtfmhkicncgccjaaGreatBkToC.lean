/- What the law's own copying functions answer of lists of parts and of books. -/
import Derived.Test.YtfmhkicncgccjaaGreatBkToB
namespace Go.Proofs.YtfmhkicncgccjaaGreat
open Go.RowKit Go.Sort
set_option linter.unusedSimpArgs false
set_option linter.unusedVariables false

theorem RowAt.sets7k {w : World} {d n size : Nat} {f : Nat → Nat → Value} (h : RowAt w (some ⟨d, 0, none⟩) n size f) {b1 : Nat} (h1 : d ≠ b1) (o0 o1 o2 o3 o4 o5 o6 : Nat) (v0 v1 v2 v3 v4 v5 v6 : Value) :
    RowAt (((((((w.setCell ⟨b1, o0, none⟩ v0).setCell ⟨b1, o1, none⟩ v1).setCell ⟨b1, o2, none⟩ v2).setCell ⟨b1, o3, none⟩ v3).setCell ⟨b1, o4, none⟩ v4).setCell ⟨b1, o5, none⟩ v5).setCell ⟨b1, o6, none⟩ v6) (some ⟨d, 0, none⟩) n size f :=
  have g : ∀ b o, (some ⟨d, 0, none⟩ : Option Addr) = some ⟨b, o, none⟩ → b ≠ b1 := fun b o e => by cases e; exact h1
  ((((((h.setOther g v0).setOther g v1).setOther g v2).setOther g v3).setOther g v4).setOther g v5).setOther g v6

theorem WantIn.sets7k {w : World} {x : Want} {d2 d3 d4 d5 : Nat} (h : WantIn w x (some ⟨d2, 0, none⟩) (some ⟨d3, 0, none⟩) (some ⟨d4, 0, none⟩) (some ⟨d5, 0, none⟩)) {b1 : Nat} (h2 : d2 ≠ b1) (h3 : d3 ≠ b1) (h4 : d4 ≠ b1) (h5 : d5 ≠ b1) (o0 o1 o2 o3 o4 o5 o6 : Nat) (v0 v1 v2 v3 v4 v5 v6 : Value) :
    WantIn (((((((w.setCell ⟨b1, o0, none⟩ v0).setCell ⟨b1, o1, none⟩ v1).setCell ⟨b1, o2, none⟩ v2).setCell ⟨b1, o3, none⟩ v3).setCell ⟨b1, o4, none⟩ v4).setCell ⟨b1, o5, none⟩ v5).setCell ⟨b1, o6, none⟩ v6) x (some ⟨d2, 0, none⟩) (some ⟨d3, 0, none⟩) (some ⟨d4, 0, none⟩) (some ⟨d5, 0, none⟩) :=
  ⟨RowAt.sets7k h.stuffs h2 _ _ _ _ _ _ _ _ _ _ _ _ _ _, RowAt.sets7k h.uses h3 _ _ _ _ _ _ _ _ _ _ _ _ _ _, RowAt.sets7k h.opens h4 _ _ _ _ _ _ _ _ _ _ _ _ _ _, RowAt.sets7k h.shuts h5 _ _ _ _ _ _ _ _ _ _ _ _ _ _⟩

/-- How long a part's lists are, by their fields. -/
def partLen (p : Part) : Nat → Nat
  | 2 => p.want.stuffs.length
  | 3 => p.want.uses.length
  | 4 => p.want.opens.length
  | _ => p.want.shuts.length

set_option maxHeartbeats 1000000 in
theorem toClaimPartS_any (a : Option Addr) (cap : Nat) (us : List Part) (w : World) (hm : PartsAt w a us) (hroom : us.length ≤ 1048576) (hrooms : ∀ s ∈ us, WantRoom s.want) :
    Calls Tryz.prog 51 #[.slice a us.length cap] w fun e w' => (∃ b, e = .returned (.slice (some ⟨b, 0, none⟩) us.length us.length) ∧ w.heap.size ≤ b ∧ PartsFrom w.heap.size w' (some ⟨b, 0, none⟩) us) ∧ Below w.heap.size w w' := by
  have hmk := make_of (P := Tryz.prog) Tryz.underlying26 infoPart us.length (by omega) (by omega)
  simp only [Value.cells] at hmk
  go_enter Tryz.func51, Tryz.ntmps51
  go_wp2
  go_loopw [4] (fun i wr => ∃ (k : Nat) (g : Nat → Value) (D : Nat → Nat → Nat), k ≤ us.length ∧ i = .int .i64 k ∧ wr.rowIs w.heap.size 61 (us.length * 7) g ∧ (∀ j, j < k → ∀ c, c < 7 → g (j * 7 + c) = partCell (gq us j) (fun f => some ⟨D j f, 0, none⟩) (partLen (gq us j)) c) ∧
    (∀ j, j < k → (w.heap.size < D j 2 ∧ w.heap.size < D j 3 ∧ w.heap.size < D j 4 ∧ w.heap.size < D j 5) ∧ WantIn wr (gq us j).want (some ⟨D j 2, 0, none⟩) (some ⟨D j 3, 0, none⟩) (some ⟨D j 4, 0, none⟩) (some ⟨D j 5, 0, none⟩)) ∧ Below w.heap.size w wr) (fun i _ => us.length - (intOf i).toNat)
  case atStart =>
    exact ⟨0, _, fun _ _ => 0, Nat.zero_le _, rfl, rowIs_madeN w _ _ _, fun j hj => absurd hj (Nat.not_lt_zero _), fun j hj => absurd hj (Nat.not_lt_zero _), (Below.refl _ _).alloc (Nat.le_refl _) _⟩
  case round =>
    obtain ⟨k, g, D, hk, rfl, hrow, hg, hD, hbel⟩ := hrel
    have HG : Hid (∀ j, j < k → ∀ c, c < 7 → g (j * 7 + c) = partCell (gq us j) (fun f => some ⟨D j f, 0, none⟩) (partLen (gq us j)) c) := hg
    clear hmk hg
    by_cases hlt : k < us.length
    · obtain ⟨b, o, a2, a3, a4, a5, c2, c3, c4, c5, ha, hb, hc0, hc1, hc2, hc3, hc4, hc5, hc6, hst⟩ := (hm.later hbel).at hlt
      subst ha
      go_wp2_with fail
      refine (toClaimPart_any (gq us k) a2 a3 a4 a5 c2 c3 c4 c5 _ hst (hrooms _ (gq_mem hlt))).mono ?_
      rintro e w1 ⟨⟨d2, d3, d4, d5, rfl, ⟨hd2, hd3, hd4, hd5⟩, st⟩, hb1⟩
      have hrow1 : w1.rowIs w.heap.size 61 (us.length * 7) g := hrow.of_block (hb1.block _ hrow.lt)
      have hq0 := hrow1.cell (i := k * 7) (by omega)
      have hf0 := hrow1.frozen (k * 7)
      have hq1 := hrow1.cell (i := k * 7 + 1) (by omega)
      have hf1 := hrow1.frozen (k * 7 + 1)
      have hq2 := hrow1.cell (i := k * 7 + 2) (by omega)
      have hf2 := hrow1.frozen (k * 7 + 2)
      have hq3 := hrow1.cell (i := k * 7 + 3) (by omega)
      have hf3 := hrow1.frozen (k * 7 + 3)
      have hq4 := hrow1.cell (i := k * 7 + 4) (by omega)
      have hf4 := hrow1.frozen (k * 7 + 4)
      have hq5 := hrow1.cell (i := k * 7 + 5) (by omega)
      have hf5 := hrow1.frozen (k * 7 + 5)
      have hq6 := hrow1.cell (i := k * 7 + 6) (by omega)
      have hf6 := hrow1.frozen (k * 7 + 6)
      have hsz := hbel.size
      have HD2 : Hid (w.heap.size < d2 ∧ w.heap.size < d3 ∧ w.heap.size < d4 ∧ w.heap.size < d5) := ⟨by omega, by omega, by omega, by omega⟩
      clear hsz hd2 hd3 hd4 hd5
      unfold partV
      clear hc0 hc1 hc2 hc3 hc4 hc5 hc6
      go_wp2
      have hbel1 : Below w.heap.size w w1 := hbel.trans (hb1.mono hbel.size)
      obtain ⟨hd2, hd3, hd4, hd5⟩ := HD2.out
      go_roundw
      case rel =>
        refine ⟨k + 1, _, fun j f => if j = k then (if f = 2 then d2 else if f = 3 then d3 else if f = 4 then d4 else d5) else D j f, by omega, by go_num, ((((((hrow1.set (k * 7) _).set (k * 7 + 1) _).set (k * 7 + 2) _).set (k * 7 + 3) _).set (k * 7 + 4) _).set (k * 7 + 5) _).set (k * 7 + 6) _, ?_, ?_,
          ((((((hbel1.setCell (Nat.le_refl _) _).setCell (Nat.le_refl _) _).setCell (Nat.le_refl _) _).setCell (Nat.le_refl _) _).setCell (Nat.le_refl _) _).setCell (Nat.le_refl _) _).setCell (Nat.le_refl _) _⟩
        · intro j hj c hc
          by_cases e : j = k
          · subst e
            match c, hc with
            | 0, _ => simp [partCell, partLen]
            | 1, _ => simp [partCell, partLen]
            | 2, _ => simp [partCell, partLen]
            | 3, _ => simp [partCell, partLen]
            | 4, _ => simp [partCell, partLen]
            | 5, _ => simp [partCell, partLen]
            | 6, _ => simp [partCell, partLen]
          · have := HG.out j (by omega) c hc
            dsimp only
            simp only [if_neg e]
            rw [← this]
            rw [if_neg (by omega), if_neg (by omega), if_neg (by omega), if_neg (by omega), if_neg (by omega), if_neg (by omega), if_neg (by omega)]
        · intro j hj
          by_cases e : j = k
          · subst e
            simp only [if_true]
            exact ⟨⟨hd2, hd3, hd4, hd5⟩, WantIn.sets7k st (Nat.ne_of_gt hd2) (Nat.ne_of_gt hd3) (Nat.ne_of_gt hd4) (Nat.ne_of_gt hd5) _ _ _ _ _ _ _ _ _ _ _ _ _ _⟩
          · simp only [if_neg e]
            obtain ⟨⟨h2, h3, h4, h5⟩, h6⟩ := hD j (by omega)
            exact ⟨⟨h2, h3, h4, h5⟩, WantIn.sets7k (h6.later hb1) (Nat.ne_of_gt h2) (Nat.ne_of_gt h3) (Nat.ne_of_gt h4) (Nat.ne_of_gt h5) _ _ _ _ _ _ _ _ _ _ _ _ _ _⟩
      case measure => simp [intOf]; omega
    · have : k = us.length := by omega
      subst this
      go_wp2
      go_ret
      refine ⟨⟨w.heap.size, rfl, Nat.le_refl _, fun b o h => by (cases h; exact Nat.le_refl _), fun j f => some ⟨D j f, 0, none⟩, fun j => partLen (gq us j), fun k hk => ⟨w.heap.size, 0, rfl, hrow.lt, fun j hj => ?_⟩, fun j hj => ⟨(hD j hj).2, fun b o h => by (cases h; exact Nat.le_of_lt (hD j hj).1.1), fun b o h => by (cases h; exact Nat.le_of_lt (hD j hj).1.2.1), fun b o h => by (cases h; exact Nat.le_of_lt (hD j hj).1.2.2.1), fun b o h => by (cases h; exact Nat.le_of_lt (hD j hj).1.2.2.2)⟩⟩, hbel⟩
      have := hrow.cell (i := k * 7 + j) (by omega)
      rw [HG.out k hk j hj] at this
      simpa using this

end Go.Proofs.YtfmhkicncgccjaaGreat
