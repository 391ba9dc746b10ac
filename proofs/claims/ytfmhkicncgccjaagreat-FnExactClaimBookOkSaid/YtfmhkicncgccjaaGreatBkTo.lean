/- What the law's own copying functions answer of foes and spots. -/
import Derived.Test.YtfmhkicncgccjaaGreatBkSz
namespace Go.Proofs.YtfmhkicncgccjaaGreat
open Go.RowKit Go.Sort
set_option linter.unusedSimpArgs false
set_option linter.unusedVariables false

theorem make_of {P : Program} {T E : TypeId} {z : Value} {size bytes : Nat} (ht : P.underlying T = some (.slice E)) (hinfo : (P.info? E).map (fun i => (i.zero, i.size, i.bytes)) = some (some z, size, bytes)) (n : Nat) (hb : (bytes : Int) * n ≤ 281474976710656) (hn : n ≤ 9223372036854775807) (w : World) :
    (Instr.makeSlice T (.int .i64 (n : Int)) (.int .i64 (n : Int))).run P w = .ok (.slice (some ⟨w.heap.size, 0, none⟩) n n) (w.alloc (.cells (madeCells z.cells (n * size)) E)) := by
  obtain ⟨i, hi, hz, hs, hbt⟩ := info_parts hinfo
  have hr := run_make (P := P) w T E i _ ht hi hz .i64 .i64 n n (by omega) (Int.le_refl _) (by rw [hbt]; exact hb) (by omega)
  simp only [Int.toNat_natCast, hs] at hr
  exact hr

theorem rowIs_madeN (w : World) (z : Array Value) (m : Nat) (t : TypeId) : (w.alloc (.cells (madeCells z m) t)).rowIs w.heap.size t m (fun i => z[i % z.size]!) :=
  ⟨madeCells z m, Go.Deep.blk_alloc_new _ _, size_madeCells _ _, fun i hi => by simp [madeCells, hi]⟩

theorem infoFoe : (Tryz.prog.info? 70).map (fun i => (i.zero, i.size, i.bytes)) = some (some (.agg #[.string .empty, .string .empty]), 2, 32) := by kernel_rfl
theorem infoSpot : (Tryz.prog.info? 72).map (fun i => (i.zero, i.size, i.bytes)) = some (some (.agg #[.string .empty, .int .i64 0, .int .i64 0, .int .i64 0, .slice none 0 0]), 5, 64) := by kernel_rfl
theorem infoPart : (Tryz.prog.info? 61).map (fun i => (i.zero, i.size, i.bytes)) = some (some (.agg #[.int .i64 0, .int .i64 0, .slice none 0 0, .slice none 0 0, .slice none 0 0, .slice none 0 0, .bool false]), 7, 120) := by kernel_rfl

set_option maxHeartbeats 400000 in
theorem toClaimFoe_any (u : Foe) (w : World) :
    Calls Tryz.prog 89 #[foeV u] w fun e w' => e = .returned (foeV u) ∧ Below w.heap.size w w' := by
  unfold foeV
  go_enter Tryz.func89, Tryz.ntmps89
  go_wp2
  exact bodyPost_ret (v := .agg #[.string u.a, .string u.b]) (by simp [results, Tryz.results89, go_sem]) rfl ⟨rfl, (((Below.refl _ _).alloc (Nat.le_refl _) _).alloc (by simp) _).alloc (by simp; omega) _⟩

set_option maxHeartbeats 400000 in
theorem toClaimFoeS_any (a : Option Addr) (cap : Nat) (us : List Foe) (w : World) (hm : FoesAt w a us) (hroom : us.length ≤ 1048576) :
    Calls Tryz.prog 48 #[.slice a us.length cap] w fun e w' => (∃ b, e = .returned (.slice (some ⟨b, 0, none⟩) us.length us.length) ∧ w.heap.size ≤ b ∧ FoesAt w' (some ⟨b, 0, none⟩) us) ∧ Below w.heap.size w w' := by
  have hmk := make_of (P := Tryz.prog) Tryz.underlying23 infoFoe us.length (by omega) (by omega)
  simp only [Value.cells] at hmk
  go_enter Tryz.func48, Tryz.ntmps48
  go_wp2
  go_loopw [4] (fun i wr => ∃ (k : Nat) (g : Nat → Value), k ≤ us.length ∧ i = .int .i64 k ∧ wr.rowIs w.heap.size 70 (us.length * 2) g ∧ (∀ j, j < k → ∀ c, c < 2 → g (j * 2 + c) = foeCell (gf us j) c) ∧ Below w.heap.size w wr) (fun i _ => us.length - (intOf i).toNat)
  case atStart =>
    exact ⟨0, _, Nat.zero_le _, rfl, rowIs_madeN w _ _ _, fun j hj => absurd hj (Nat.not_lt_zero _), (Below.refl _ _).alloc (Nat.le_refl _) _⟩
  case round =>
    obtain ⟨k, g, hk, rfl, hrow, hg, hbel⟩ := hrel
    clear hmk
    by_cases hlt : k < us.length
    · obtain ⟨b, o, ha, hb, hc0, hc1⟩ := (hm.later hbel).at hlt
      subst ha
      go_wp2_with fail
      refine (toClaimFoe_any (gf us k) _).mono ?_
      rintro e w1 ⟨rfl, hb1⟩
      have hrow1 : w1.rowIs w.heap.size 70 (us.length * 2) g := hrow.of_block (hb1.block _ hrow.lt)
      have hq0 := hrow1.cell (i := k * 2) (by omega)
      have hq1 := hrow1.cell (i := k * 2 + 1) (by omega)
      have hf0 := hrow1.frozen (k * 2)
      have hf1 := hrow1.frozen (k * 2 + 1)
      unfold foeV
      clear hc0 hc1
      go_wp2
      have hbel1 : Below w.heap.size w w1 := hbel.trans (hb1.mono hbel.size)
      go_roundw
      case rel =>
        refine ⟨k + 1, _, by omega, by go_num, (hrow1.set (k * 2) _).set (k * 2 + 1) _, ?_, (hbel1.setCell (Nat.le_refl _) _).setCell (Nat.le_refl _) _⟩
        intro j hj c hc
        by_cases e : j = k
        · subst e
          match c, hc with
          | 0, _ => simp [foeCell]
          | 1, _ => simp [foeCell]
        · have := hg j (by omega) c hc
          rw [← this]
          rw [if_neg (by omega), if_neg (by omega)]
      case measure => simp [intOf]; omega
    · have : k = us.length := by omega
      subst this
      go_wp2
      go_ret
      refine ⟨⟨w.heap.size, rfl, Nat.le_refl _, fun k hk => ⟨w.heap.size, 0, rfl, hrow.lt, fun j hj => ?_⟩⟩, hbel⟩
      have := hrow.cell (i := k * 2 + j) (by omega)
      rw [hg k hk j hj] at this
      simpa using this

set_option maxHeartbeats 1000000 in
theorem toClaimSpot_any (s : Spot) (m : Option Addr) (c : Nat) (w : World) (hm : StrsAt w m s.may) (hroom : s.may.length ≤ 1048576) :
    Calls Tryz.prog 90 #[spotV s m c] w fun e w' => (∃ d, e = .returned (spotV s (some ⟨d, 0, none⟩) s.may.length) ∧ w.heap.size < d ∧ StrsAt w' (some ⟨d, 0, none⟩) s.may) ∧ Below w.heap.size w w' := by
  unfold spotV
  go_enter Tryz.func90, Tryz.ntmps90
  go_wp2_with fail
  have b0 : Below w.heap.size w (((w.alloc (.cells #[.string s.name, .int .i64 s.cap, .int .i64 s.least, .int .i64 s.most, .slice m s.may.length c] 105)).alloc (.cells #[.string .empty, .int .i64 0, .int .i64 0, .int .i64 0, .slice none 0 0] 72)).alloc (.cells #[.string s.name, .int .i64 s.cap, .int .i64 s.least, .int .i64 s.most, .slice none 0 0] 72)) :=
    (((Below.refl _ _).alloc (Nat.le_refl _) _).alloc (by simp) _).alloc (by simp; omega) _
  have z0 : Row (((w.alloc (.cells #[.string s.name, .int .i64 s.cap, .int .i64 s.least, .int .i64 s.most, .slice m s.may.length c] 105)).alloc (.cells #[.string .empty, .int .i64 0, .int .i64 0, .int .i64 0, .slice none 0 0] 72)).alloc (.cells #[.string s.name, .int .i64 s.cap, .int .i64 s.least, .int .i64 s.most, .slice none 0 0] 72)) (w.heap.size + 1) 72 [.string .empty, .int .i64 0, .int .i64 0, .int .i64 0, .slice none 0 0] := by
    have := (Row.new (w.alloc (.cells #[.string s.name, .int .i64 s.cap, .int .i64 s.least, .int .i64 s.most, .slice m s.may.length c] 105)) 72 [.string .empty, .int .i64 0, .int .i64 0, .int .i64 0, .slice none 0 0]).alloc (.cells #[.string s.name, .int .i64 s.cap, .int .i64 s.least, .int .i64 s.most, .slice none 0 0] 72)
    simpa using this
  have o0 : Row (((w.alloc (.cells #[.string s.name, .int .i64 s.cap, .int .i64 s.least, .int .i64 s.most, .slice m s.may.length c] 105)).alloc (.cells #[.string .empty, .int .i64 0, .int .i64 0, .int .i64 0, .slice none 0 0] 72)).alloc (.cells #[.string s.name, .int .i64 s.cap, .int .i64 s.least, .int .i64 s.most, .slice none 0 0] 72)) (w.heap.size + 1 + 1) 72 [.string s.name, .int .i64 s.cap, .int .i64 s.least, .int .i64 s.most, .slice none 0 0] := by
    have := Row.new ((w.alloc (.cells #[.string s.name, .int .i64 s.cap, .int .i64 s.least, .int .i64 s.most, .slice m s.may.length c] 105)).alloc (.cells #[.string .empty, .int .i64 0, .int .i64 0, .int .i64 0, .slice none 0 0] 72)) 72 [.string s.name, .int .i64 s.cap, .int .i64 s.least, .int .i64 s.most, .slice none 0 0]
    simpa using this
  refine (toStringS_any m c s.may _ (hm.later b0) hroom).mono ?_
  rintro e w1 ⟨⟨d, rfl, hd, st⟩, hb⟩
  have hd' : w.heap.size + 1 + 1 < d := by simp at hd; omega
  have b1 := b0.trans (hb.mono b0.size)
  have z1 := z0.later hb
  have o1 := o0.later hb
  clear b0 z0 o0 hb hd
  have g0 := o1.cell 0 rfl
  have g1 := o1.cell 1 rfl
  have g2 := o1.cell 2 rfl
  have g3 := o1.cell 3 rfl
  have g4 := o1.cell 4 rfl
  have f4 := o1.frozen 4
  have r0 := z1.cell 0 rfl
  have r1 := z1.cell 1 rfl
  have r2 := z1.cell 2 rfl
  have r3 := z1.cell 3 rfl
  have r4 := z1.cell 4 rfl
  have k0 := z1.frozen 0
  have k1 := z1.frozen 1
  have k2 := z1.frozen 2
  have k3 := z1.frozen 3
  have k4 := z1.frozen 4
  have hne2 : w.heap.size + 1 ≠ w.heap.size + 1 + 1 := by omega
  go_wp2
  refine bodyPost_ret (v := .agg #[.string s.name, .int .i64 s.cap, .int .i64 s.least, .int .i64 s.most, .slice (some ⟨d, 0, none⟩) s.may.length s.may.length])
    (by simp [results, Tryz.results90, go_sem, r0, r1, r2, r3, r4]) rfl ⟨⟨d, rfl, by omega, ?_⟩, ?_⟩
  · have e1 : ∀ b o, (some ⟨d, 0, none⟩ : Option Addr) = some ⟨b, o, none⟩ → b ≠ w.heap.size + 1 := fun b o h => by cases h; omega
    have e2 : ∀ b o, (some ⟨d, 0, none⟩ : Option Addr) = some ⟨b, o, none⟩ → b ≠ w.heap.size + 1 + 1 := fun b o h => by cases h; omega
    exact (((((RowAt.setOther st e2 _).setOther e1 _).setOther e1 _).setOther e1 _).setOther e1 _).setOther e1 _
  · exact (((((b1.setCell (by simp; omega) _).setCell (by simp) _).setCell (by simp) _).setCell (by simp) _).setCell (by simp) _).setCell (by simp) _

end Go.Proofs.YtfmhkicncgccjaaGreat
