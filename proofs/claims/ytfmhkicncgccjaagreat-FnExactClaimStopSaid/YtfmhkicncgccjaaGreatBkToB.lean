/- What the law's own copying functions answer of lists of spots, of parts and of books. -/
import Derived.Test.YtfmhkicncgccjaaGreatBkTo
namespace Go.Proofs.YtfmhkicncgccjaaGreat
open Go.RowKit Go.Sort
set_option linter.unusedSimpArgs false
set_option linter.unusedVariables false

set_option maxHeartbeats 1000000 in
theorem toClaimSpotS_any (a : Option Addr) (cap : Nat) (us : List Spot) (w : World) (hm : SpotsAt w a us) (hroom : us.length ≤ 1048576) (hrooms : ∀ s ∈ us, s.may.length ≤ 1048576) :
    Calls Tryz.prog 49 #[.slice a us.length cap] w fun e w' => (∃ b, e = .returned (.slice (some ⟨b, 0, none⟩) us.length us.length) ∧ w.heap.size ≤ b ∧ SpotsFrom w.heap.size w' (some ⟨b, 0, none⟩) us) ∧ Below w.heap.size w w' := by
  have hmk := make_of (P := Tryz.prog) Tryz.underlying24 infoSpot us.length (by omega) (by omega)
  simp only [Value.cells] at hmk
  go_enter Tryz.func49, Tryz.ntmps49
  go_wp2
  go_loopw [4] (fun i wr => ∃ (k : Nat) (g : Nat → Value) (D : Nat → Nat), k ≤ us.length ∧ i = .int .i64 k ∧ wr.rowIs w.heap.size 72 (us.length * 5) g ∧ (∀ j, j < k → ∀ c, c < 5 → g (j * 5 + c) = spotCell (gp us j) (some ⟨D j, 0, none⟩) (gp us j).may.length c) ∧
    (∀ j, j < k → w.heap.size < D j ∧ StrsAt wr (some ⟨D j, 0, none⟩) (gp us j).may) ∧ Below w.heap.size w wr) (fun i _ => us.length - (intOf i).toNat)
  case atStart =>
    exact ⟨0, _, fun _ => 0, Nat.zero_le _, rfl, rowIs_madeN w _ _ _, fun j hj => absurd hj (Nat.not_lt_zero _), fun j hj => absurd hj (Nat.not_lt_zero _), (Below.refl _ _).alloc (Nat.le_refl _) _⟩
  case round =>
    obtain ⟨k, g, D, hk, rfl, hrow, hg, hD, hbel⟩ := hrel
    have HG : Hid (∀ j, j < k → ∀ c, c < 5 → g (j * 5 + c) = spotCell (gp us j) (some ⟨D j, 0, none⟩) (gp us j).may.length c) := hg
    clear hmk hg
    by_cases hlt : k < us.length
    · obtain ⟨b, o, m, c, ha, hb, hc0, hc1, hc2, hc3, hc4, hst⟩ := (hm.later hbel).at hlt
      subst ha
      go_wp2_with fail
      refine (toClaimSpot_any (gp us k) m c _ hst (hrooms _ (gp_mem hlt))).mono ?_
      rintro e w1 ⟨⟨d, rfl, hd, st⟩, hb1⟩
      have hrow1 : w1.rowIs w.heap.size 72 (us.length * 5) g := hrow.of_block (hb1.block _ hrow.lt)
      have hq0 := hrow1.cell (i := k * 5) (by omega)
      have hq1 := hrow1.cell (i := k * 5 + 1) (by omega)
      have hq2 := hrow1.cell (i := k * 5 + 2) (by omega)
      have hq3 := hrow1.cell (i := k * 5 + 3) (by omega)
      have hq4 := hrow1.cell (i := k * 5 + 4) (by omega)
      have hf0 := hrow1.frozen (k * 5)
      have hf1 := hrow1.frozen (k * 5 + 1)
      have hf2 := hrow1.frozen (k * 5 + 2)
      have hf3 := hrow1.frozen (k * 5 + 3)
      have hf4 := hrow1.frozen (k * 5 + 4)
      have hdw : w.heap.size < d := Nat.lt_of_le_of_lt hbel.size hd
      unfold spotV
      clear hc0 hc1 hc2 hc3 hc4
      go_wp2
      have hbel1 : Below w.heap.size w w1 := hbel.trans (hb1.mono hbel.size)
      go_roundw
      case rel =>
        refine ⟨k + 1, _, fun j => if j = k then d else D j, by omega, by go_num, ((((hrow1.set (k * 5) _).set (k * 5 + 1) _).set (k * 5 + 2) _).set (k * 5 + 3) _).set (k * 5 + 4) _, ?_, ?_,
          ((((hbel1.setCell (Nat.le_refl _) _).setCell (Nat.le_refl _) _).setCell (Nat.le_refl _) _).setCell (Nat.le_refl _) _).setCell (Nat.le_refl _) _⟩
        · intro j hj c hc
          by_cases e : j = k
          · subst e
            match c, hc with
            | 0, _ => simp [spotCell]
            | 1, _ => simp [spotCell]
            | 2, _ => simp [spotCell]
            | 3, _ => simp [spotCell]
            | 4, _ => simp [spotCell]
          · have := HG.out j (by omega) c hc
            dsimp only
            rw [if_neg e, ← this]
            rw [if_neg (by omega), if_neg (by omega), if_neg (by omega), if_neg (by omega), if_neg (by omega)]
        · intro j hj
          by_cases e : j = k
          · subst e
            dsimp only
            rw [if_pos rfl]
            have e1 : ∀ b o, (some ⟨d, 0, none⟩ : Option Addr) = some ⟨b, o, none⟩ → b ≠ w.heap.size := fun b o h => by cases h; omega
            exact ⟨hdw, ((((RowAt.setOther st e1 _).setOther e1 _).setOther e1 _).setOther e1 _).setOther e1 _⟩
          · dsimp only
            rw [if_neg e]
            obtain ⟨h1, h2⟩ := hD j (by omega)
            have e1 : ∀ b o, (some ⟨D j, 0, none⟩ : Option Addr) = some ⟨b, o, none⟩ → b ≠ w.heap.size := fun b o h => by cases h; omega
            exact ⟨h1, ((((RowAt.setOther (h2.later hb1) e1 _).setOther e1 _).setOther e1 _).setOther e1 _).setOther e1 _⟩
      case measure => simp [intOf]; omega
    · have : k = us.length := by omega
      subst this
      go_wp2
      go_ret
      refine ⟨⟨w.heap.size, rfl, Nat.le_refl _, fun b o h => by (cases h; exact Nat.le_refl _), fun j => some ⟨D j, 0, none⟩, fun j => (gp us j).may.length, fun k hk => ⟨w.heap.size, 0, rfl, hrow.lt, fun j hj => ?_⟩, fun j hj => ⟨(hD j hj).2, fun b o h => by (cases h; exact Nat.le_of_lt (hD j hj).1)⟩, fun j hj => Nat.le_refl _⟩, hbel⟩
      have := hrow.cell (i := k * 5 + j) (by omega)
      rw [HG.out k hk j hj] at this
      simpa using this

theorem RowAt.sets14 {w : World} {d n size : Nat} {f : Nat → Nat → Value} (h : RowAt w (some ⟨d, 0, none⟩) n size f) {b1 b2 : Nat} (h1 : d ≠ b1) (h2 : d ≠ b2) (v0 v1 v2 v3 v4 v5 v6 v7 v8 v9 v10 v11 v12 v13 : Value) :
    RowAt ((((((((((((((w.setCell ⟨b2, 0, none⟩ v0).setCell ⟨b2, 1, none⟩ v1).setCell ⟨b2, 2, none⟩ v2).setCell ⟨b2, 3, none⟩ v3).setCell ⟨b2, 4, none⟩ v4).setCell ⟨b2, 5, none⟩ v5).setCell ⟨b2, 6, none⟩ v6).setCell ⟨b1, 0, none⟩ v7).setCell ⟨b1, 1, none⟩ v8).setCell ⟨b1, 2, none⟩ v9).setCell ⟨b1, 3, none⟩ v10).setCell ⟨b1, 4, none⟩ v11).setCell ⟨b1, 5, none⟩ v12).setCell ⟨b1, 6, none⟩ v13) (some ⟨d, 0, none⟩) n size f :=
  have g : ∀ b o, (some ⟨d, 0, none⟩ : Option Addr) = some ⟨b, o, none⟩ → b ≠ b1 := fun b o e => by cases e; exact h1
  have g2 : ∀ b o, (some ⟨d, 0, none⟩ : Option Addr) = some ⟨b, o, none⟩ → b ≠ b2 := fun b o e => by cases e; exact h2
  (((((((((((((h.setOther g2 v0).setOther g2 v1).setOther g2 v2).setOther g2 v3).setOther g2 v4).setOther g2 v5).setOther g2 v6).setOther g v7).setOther g v8).setOther g v9).setOther g v10).setOther g v11).setOther g v12).setOther g v13

theorem below_sets14 {W w : World} {B : Nat} (h : Below B W w) {b1 b2 : Nat} (h1 : B ≤ b1) (h2 : B ≤ b2) (v0 v1 v2 v3 v4 v5 v6 v7 v8 v9 v10 v11 v12 v13 : Value) : Below B W ((((((((((((((w.setCell ⟨b2, 0, none⟩ v0).setCell ⟨b2, 1, none⟩ v1).setCell ⟨b2, 2, none⟩ v2).setCell ⟨b2, 3, none⟩ v3).setCell ⟨b2, 4, none⟩ v4).setCell ⟨b2, 5, none⟩ v5).setCell ⟨b2, 6, none⟩ v6).setCell ⟨b1, 0, none⟩ v7).setCell ⟨b1, 1, none⟩ v8).setCell ⟨b1, 2, none⟩ v9).setCell ⟨b1, 3, none⟩ v10).setCell ⟨b1, 4, none⟩ v11).setCell ⟨b1, 5, none⟩ v12).setCell ⟨b1, 6, none⟩ v13) :=
  (((((((((((((h.setCell h2 v0).setCell h2 v1).setCell h2 v2).setCell h2 v3).setCell h2 v4).setCell h2 v5).setCell h2 v6).setCell h1 v7).setCell h1 v8).setCell h1 v9).setCell h1 v10).setCell h1 v11).setCell h1 v12).setCell h1 v13

set_option maxHeartbeats 1000000 in
theorem toClaimPart_any (p : Part) (a2 a3 a4 a5 : Option Addr) (c2 c3 c4 c5 : Nat) (w : World) (hin : WantIn w p.want a2 a3 a4 a5) (hr : WantRoom p.want) :
    Calls Tryz.prog 91 #[partV p a2 a3 a4 a5 c2 c3 c4 c5] w fun e w' => (∃ b2 b3 b4 b5, e = .returned (partV p (some ⟨b2, 0, none⟩) (some ⟨b3, 0, none⟩) (some ⟨b4, 0, none⟩) (some ⟨b5, 0, none⟩) p.want.stuffs.length p.want.uses.length p.want.opens.length p.want.shuts.length) ∧
      (w.heap.size < b2 ∧ w.heap.size < b3 ∧ w.heap.size < b4 ∧ w.heap.size < b5) ∧ WantIn w' p.want (some ⟨b2, 0, none⟩) (some ⟨b3, 0, none⟩) (some ⟨b4, 0, none⟩) (some ⟨b5, 0, none⟩)) ∧ Below w.heap.size w w' := by
  unfold partV
  go_enter Tryz.func91, Tryz.ntmps91
  go_wp2_with fail
  have b0 : Below w.heap.size w (((w.alloc (.cells #[.int .i64 p.want.number, .int .i64 p.want.kind, .slice a2 p.want.stuffs.length c2, .slice a3 p.want.uses.length c3, .slice a4 p.want.opens.length c4, .slice a5 p.want.shuts.length c5, .bool p.stopped] 111)).alloc (.cells #[.int .i64 0, .int .i64 0, .slice none 0 0, .slice none 0 0, .slice none 0 0, .slice none 0 0, .bool false] 61)).alloc (.cells #[.int .i64 0, .int .i64 0, .slice none 0 0, .slice none 0 0, .slice none 0 0, .slice none 0 0, .bool false] 61)) :=
    (((Below.refl _ _).alloc (Nat.le_refl _) _).alloc (by simp) _).alloc (by simp; omega) _
  have i0 : Row (((w.alloc (.cells #[.int .i64 p.want.number, .int .i64 p.want.kind, .slice a2 p.want.stuffs.length c2, .slice a3 p.want.uses.length c3, .slice a4 p.want.opens.length c4, .slice a5 p.want.shuts.length c5, .bool p.stopped] 111)).alloc (.cells #[.int .i64 0, .int .i64 0, .slice none 0 0, .slice none 0 0, .slice none 0 0, .slice none 0 0, .bool false] 61)).alloc (.cells #[.int .i64 0, .int .i64 0, .slice none 0 0, .slice none 0 0, .slice none 0 0, .slice none 0 0, .bool false] 61)) w.heap.size 111 [.int .i64 p.want.number, .int .i64 p.want.kind, .slice a2 p.want.stuffs.length c2, .slice a3 p.want.uses.length c3, .slice a4 p.want.opens.length c4, .slice a5 p.want.shuts.length c5, .bool p.stopped] := ((Row.new _ _ _).alloc _).alloc _
  have z0 : Row (((w.alloc (.cells #[.int .i64 p.want.number, .int .i64 p.want.kind, .slice a2 p.want.stuffs.length c2, .slice a3 p.want.uses.length c3, .slice a4 p.want.opens.length c4, .slice a5 p.want.shuts.length c5, .bool p.stopped] 111)).alloc (.cells #[.int .i64 0, .int .i64 0, .slice none 0 0, .slice none 0 0, .slice none 0 0, .slice none 0 0, .bool false] 61)).alloc (.cells #[.int .i64 0, .int .i64 0, .slice none 0 0, .slice none 0 0, .slice none 0 0, .slice none 0 0, .bool false] 61)) (w.heap.size + 1) 61 [.int .i64 0, .int .i64 0, .slice none 0 0, .slice none 0 0, .slice none 0 0, .slice none 0 0, .bool false] := by
    have := (Row.new (w.alloc (.cells #[.int .i64 p.want.number, .int .i64 p.want.kind, .slice a2 p.want.stuffs.length c2, .slice a3 p.want.uses.length c3, .slice a4 p.want.opens.length c4, .slice a5 p.want.shuts.length c5, .bool p.stopped] 111)) 61 [.int .i64 0, .int .i64 0, .slice none 0 0, .slice none 0 0, .slice none 0 0, .slice none 0 0, .bool false]).alloc (.cells #[.int .i64 0, .int .i64 0, .slice none 0 0, .slice none 0 0, .slice none 0 0, .slice none 0 0, .bool false] 61)
    simpa using this
  have o0 : Row (((w.alloc (.cells #[.int .i64 p.want.number, .int .i64 p.want.kind, .slice a2 p.want.stuffs.length c2, .slice a3 p.want.uses.length c3, .slice a4 p.want.opens.length c4, .slice a5 p.want.shuts.length c5, .bool p.stopped] 111)).alloc (.cells #[.int .i64 0, .int .i64 0, .slice none 0 0, .slice none 0 0, .slice none 0 0, .slice none 0 0, .bool false] 61)).alloc (.cells #[.int .i64 0, .int .i64 0, .slice none 0 0, .slice none 0 0, .slice none 0 0, .slice none 0 0, .bool false] 61)) (w.heap.size + 1 + 1) 61 [.int .i64 0, .int .i64 0, .slice none 0 0, .slice none 0 0, .slice none 0 0, .slice none 0 0, .bool false] := by
    have := Row.new ((w.alloc (.cells #[.int .i64 p.want.number, .int .i64 p.want.kind, .slice a2 p.want.stuffs.length c2, .slice a3 p.want.uses.length c3, .slice a4 p.want.opens.length c4, .slice a5 p.want.shuts.length c5, .bool p.stopped] 111)).alloc (.cells #[.int .i64 0, .int .i64 0, .slice none 0 0, .slice none 0 0, .slice none 0 0, .slice none 0 0, .bool false] 61)) 61 [.int .i64 0, .int .i64 0, .slice none 0 0, .slice none 0 0, .slice none 0 0, .slice none 0 0, .bool false]
    simpa using this
  have hsz : (((w.alloc (.cells #[.int .i64 p.want.number, .int .i64 p.want.kind, .slice a2 p.want.stuffs.length c2, .slice a3 p.want.uses.length c3, .slice a4 p.want.opens.length c4, .slice a5 p.want.shuts.length c5, .bool p.stopped] 111)).alloc (.cells #[.int .i64 0, .int .i64 0, .slice none 0 0, .slice none 0 0, .slice none 0 0, .slice none 0 0, .bool false] 61)).alloc (.cells #[.int .i64 0, .int .i64 0, .slice none 0 0, .slice none 0 0, .slice none 0 0, .slice none 0 0, .bool false] 61)).heap.size = w.heap.size + 3 := by simp
  refine (toClaimWant_any p.want a2 a3 a4 a5 c2 c3 c4 c5 _ (hin.later b0) hr).mono ?_
  rintro e w1 ⟨⟨d2, d3, d4, d5, rfl, ⟨hd2, hd3, hd4, hd5⟩, in1⟩, hb⟩
  rw [hsz] at hd2 hd3 hd4 hd5
  have b1 := b0.trans (hb.mono b0.size)
  have i1 := i0.later hb
  have z1 := z0.later hb
  have o1 := o0.later hb
  clear b0 i0 z0 o0 hb hsz
  have y6 := i1.cell 6 rfl
  have g0 := o1.cell 0 rfl
  have f0 := o1.frozen 0
  have r0 := z1.cell 0 rfl
  have k0 := z1.frozen 0
  have g1 := o1.cell 1 rfl
  have f1 := o1.frozen 1
  have r1 := z1.cell 1 rfl
  have k1 := z1.frozen 1
  have g2 := o1.cell 2 rfl
  have f2 := o1.frozen 2
  have r2 := z1.cell 2 rfl
  have k2 := z1.frozen 2
  have g3 := o1.cell 3 rfl
  have f3 := o1.frozen 3
  have r3 := z1.cell 3 rfl
  have k3 := z1.frozen 3
  have g4 := o1.cell 4 rfl
  have f4 := o1.frozen 4
  have r4 := z1.cell 4 rfl
  have k4 := z1.frozen 4
  have g5 := o1.cell 5 rfl
  have f5 := o1.frozen 5
  have r5 := z1.cell 5 rfl
  have k5 := z1.frozen 5
  have g6 := o1.cell 6 rfl
  have f6 := o1.frozen 6
  have r6 := z1.cell 6 rfl
  have k6 := z1.frozen 6
  have hne1 : w.heap.size ≠ w.heap.size + 1 + 1 := by omega
  have hne2 : w.heap.size + 1 ≠ w.heap.size + 1 + 1 := by omega
  unfold wantW
  go_wp2
  refine bodyPost_ret (v := .agg #[.int .i64 p.want.number, .int .i64 p.want.kind, .slice (some ⟨d2, 0, none⟩) p.want.stuffs.length p.want.stuffs.length, .slice (some ⟨d3, 0, none⟩) p.want.uses.length p.want.uses.length, .slice (some ⟨d4, 0, none⟩) p.want.opens.length p.want.opens.length, .slice (some ⟨d5, 0, none⟩) p.want.shuts.length p.want.shuts.length, .bool p.stopped])
    (by simp [results, Tryz.results91, go_sem, r0, r1, r2, r3, r4, r5, r6]) rfl ⟨⟨d2, d3, d4, d5, rfl, ⟨by omega, by omega, by omega, by omega⟩, ⟨?_, ?_, ?_, ?_⟩⟩, ?_⟩
  · exact RowAt.sets14 in1.stuffs (by omega) (by omega) _ _ _ _ _ _ _ _ _ _ _ _ _ _
  · exact RowAt.sets14 in1.uses (by omega) (by omega) _ _ _ _ _ _ _ _ _ _ _ _ _ _
  · exact RowAt.sets14 in1.opens (by omega) (by omega) _ _ _ _ _ _ _ _ _ _ _ _ _ _
  · exact RowAt.sets14 in1.shuts (by omega) (by omega) _ _ _ _ _ _ _ _ _ _ _ _ _ _
  · exact below_sets14 b1 (by omega) (by omega) _ _ _ _ _ _ _ _ _ _ _ _ _ _

end Go.Proofs.YtfmhkicncgccjaaGreat
